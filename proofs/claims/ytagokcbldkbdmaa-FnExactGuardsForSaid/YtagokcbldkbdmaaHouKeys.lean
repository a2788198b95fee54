/-
  The halls that a ring of keys opens: the set that the model grows, door by door and as many rounds as there are halls, is what can be reached through the doors that are left. No program stands here.
-/
import Derived.Test.YtagokcbldkbdmaaHouReach
import Derived.Test.YtagokcbldkbdmaaHouMathC
namespace Go.Proofs.Ytagokcbldkbdmaa.HouKeys
open Go Go.RowKit HouMath HouMathB HouMathC HouReach

/-- The k-th bit of a ring. -/
def bitB (x : Int) (k : Nat) : Bool := decide (x / 2 ^ k % 2 = 1)
/-- The doors that are left, of the first k. -/
def keyTo (x : Int) (ds : List (Int × Int)) : Nat → List (Int × Int)
  | 0 => []
  | k + 1 => if bitB x k then keyTo x ds k ++ [dr ds k] else keyTo x ds k
def keyD (x : Int) (ds : List (Int × Int)) : List (Int × Int) := keyTo x ds ds.length
theorem key_mem {x : Int} {ds : List (Int × Int)} {d : Int × Int} : ∀ {k : Nat}, d ∈ keyTo x ds k ↔ ∃ j, j < k ∧ bitB x j = true ∧ d = dr ds j
  | 0 => by simp [keyTo]
  | k + 1 => by
    have ih := key_mem (x := x) (ds := ds) (d := d) (k := k)
    unfold keyTo
    split
    · rename_i hb
      rw [List.mem_append, ih]
      constructor
      · rintro (⟨j, h1, h2, h3⟩ | h)
        · exact ⟨j, by omega, h2, h3⟩
        · exact ⟨k, by omega, hb, by simpa using h⟩
      · rintro ⟨j, h1, h2, h3⟩
        rcases Nat.lt_or_ge j k with h | h
        · exact .inl ⟨j, h, h2, h3⟩
        · obtain rfl : j = k := by omega
          exact .inr (by simp [h3])
    · rename_i hb
      rw [ih]
      constructor
      · rintro ⟨j, h1, h2, h3⟩; exact ⟨j, by omega, h2, h3⟩
      · rintro ⟨j, h1, h2, h3⟩
        rcases Nat.lt_or_ge j k with h | h
        · exact ⟨j, h, h2, h3⟩
        · obtain rfl : j = k := by omega
          exact absurd h2 hb
theorem key_sub (x : Int) (ds : List (Int × Int)) : ∀ k, k ≤ ds.length → (keyTo x ds k).Sublist (ds.take k)
  | 0, _ => by simp [keyTo]
  | k + 1, h => by
    have e : ds.take (k + 1) = ds.take k ++ [dr ds k] := by
      rw [List.take_add_one, dr_get (by omega)]
      simp [show k < ds.length by omega]
    have ih := key_sub x ds k (by omega)
    rw [e]
    unfold keyTo
    split
    · exact ih.append (List.Sublist.refl _)
    · exact ih.trans (List.sublist_append_left _ _)
theorem keyD_sub (x : Int) (ds : List (Int × Int)) : (keyD x ds).Sublist ds := by
  have := key_sub x ds ds.length (Nat.le_refl _)
  rwa [List.take_length] at this
theorem keyD_form {H x : Int} {ds : List (Int × Int)} (h : HForm H ds) : HForm H (keyD x ds) := by
  have hs := keyD_sub x ds
  have hp : (keyD x ds).Pairwise LexLt := h.pairwise.sublist hs
  refine ⟨h.h1, h.h7, Nat.le_trans hs.length_le h.len, fun k hk => ?_, fun k hk => ?_⟩
  · have hm : dr (keyD x ds) k ∈ ds := by rw [dr_get hk]; exact hs.subset (List.getElem_mem hk)
    exact h.mem _ hm
  · have := (List.pairwise_iff_getElem.1 hp) k (k + 1) (by omega) hk (by omega)
    rw [dr_get (by omega), dr_get hk]
    exact this

/-! Bits, as the program reckons them. -/
theorem and_bit (y : Int) : bits .and .i64 y 1 = y % 2 := by
  have h1 : (BitVec.ofInt 64 1).toNat = 2 ^ 1 - 1 := by decide
  have key : (BitVec.ofInt 64 y &&& BitVec.ofInt 64 1).toNat = (y % ((2 ^ 64 : Nat) : Int)).toNat % 2 ^ 1 := by
    rw [BitVec.toNat_and, BitVec.toNat_ofInt, h1, Nat.and_two_pow_sub_one_eq_mod]
  show IntKind.i64.wrap ((BitVec.ofInt 64 y &&& BitVec.ofInt 64 1).toNat : Nat) = y % 2
  rw [key, IntKind.wrap_i64]
  omega
theorem pow_nat {a : Nat} (h : a < 7) : wrap64 (2 ^ a) = ((2 ^ a : Nat) : Int) := by
  have : ∀ a : Fin 7, wrap64 (2 ^ a.val) = ((2 ^ a.val : Nat) : Int) := by decide +kernel
  exact this ⟨a, h⟩
theorem pow_natI {a : Nat} (h : a < 7) : IntKind.i64.wrap (2 ^ a) = ((2 ^ a : Nat) : Int) := by
  have : ∀ a : Fin 7, IntKind.i64.wrap (2 ^ a.val) = ((2 ^ a.val : Nat) : Int) := by decide +kernel
  exact this ⟨a, h⟩
theorem or_pow {m a : Nat} (hm : m < 128) (h : a < 7) : bits .or .i64 (m : Int) ((2 ^ a : Nat) : Int) = ((m ||| 2 ^ a : Nat) : Int) := by
  have : ∀ m : Fin 128, ∀ a : Fin 7, bits .or .i64 (m.val : Int) ((2 ^ a.val : Nat) : Int) = ((m.val ||| 2 ^ a.val : Nat) : Int) := by decide +kernel
  exact this ⟨m, hm⟩ ⟨a, h⟩
theorem bit_div {m a : Nat} (hm : m < 128) (h : a < 7) : bits .and .i64 ((m : Int) / 2 ^ a) 1 = if m.testBit a then 1 else 0 := by
  have : ∀ m : Fin 128, ∀ a : Fin 7, (m.val : Int) / 2 ^ a.val % 2 = if m.val.testBit a.val then 1 else 0 := by decide +kernel
  rw [and_bit]
  exact this ⟨m, hm⟩ ⟨a, h⟩
theorem bit_ring {x : Int} {k : Nat} : bits .and .i64 (x / 2 ^ k) 1 = if bitB x k then 1 else 0 := by
  rw [and_bit]
  unfold bitB
  by_cases h : x / 2 ^ k % 2 = 1
  · rw [decide_eq_true h]; exact h
  · rw [decide_eq_false h]
    have := Int.emod_two_eq (x / 2 ^ k)
    simp; omega

/-! The model's set. -/
def stepM (x : Int) (ds : List (Int × Int)) (m k : Nat) : Nat :=
  if bitB x k && (m.testBit (dr ds k).1.toNat || m.testBit (dr ds k).2.toNat) then m ||| 2 ^ (dr ds k).1.toNat ||| 2 ^ (dr ds k).2.toNat else m
def rndM (x : Int) (ds : List (Int × Int)) (m : Nat) : Nat → Nat
  | 0 => m
  | k + 1 => stepM x ds (rndM x ds m k) k
def setM (x : Int) (ds : List (Int × Int)) (s : Nat) : Nat → Nat
  | 0 => 2 ^ s
  | n + 1 => rndM x ds (setM x ds s n) ds.length
theorem or_bit (m a b y : Nat) : (m ||| 2 ^ a ||| 2 ^ b).testBit y = (m.testBit y || decide (a = y) || decide (b = y)) := by
  rw [Nat.testBit_or, Nat.testBit_or, Nat.testBit_two_pow, Nat.testBit_two_pow]
theorem step_mono {x : Int} {ds : List (Int × Int)} {m k y : Nat} (h : m.testBit y = true) : (stepM x ds m k).testBit y = true := by
  unfold stepM
  split
  · rw [or_bit, h]; rfl
  · exact h
theorem rnd_mono {x : Int} {ds : List (Int × Int)} {m y : Nat} (h : m.testBit y = true) : ∀ k d, (rndM x ds m k).testBit y = true → (rndM x ds m (k + d)).testBit y = true
  | _, 0, h => h
  | k, d + 1, h => step_mono (rnd_mono ‹_› k d h)
theorem rnd_keep {x : Int} {ds : List (Int × Int)} {m y : Nat} (h : m.testBit y = true) (k : Nat) : (rndM x ds m k).testBit y = true := by
  have := rnd_mono (x := x) (ds := ds) (m := m) h 0 k h
  rwa [Nat.zero_add] at this
theorem bit_lt {H m : Nat} (h : m < 2 ^ H) {y : Nat} (hy : m.testBit y = true) : y < H := by
  refine Classical.byContradiction fun hc => ?_
  have := Nat.testBit_lt_two_pow (Nat.lt_of_lt_of_le h (Nat.pow_le_pow_right (by decide) (Nat.le_of_not_lt hc)))
  rw [this] at hy; cases hy
theorem or_lt {H m a b : Nat} (hm : m < 2 ^ H) (ha : a < H) (hb : b < H) : m ||| 2 ^ a ||| 2 ^ b < 2 ^ H :=
  Nat.or_lt_two_pow (Nat.or_lt_two_pow hm (Nat.pow_lt_pow_right (by decide) ha)) (Nat.pow_lt_pow_right (by decide) hb)
theorem step_lt {N : Nat} {x : Int} {ds : List (Int × Int)} (hf : HForm N ds) {m k : Nat} (hk : k < ds.length) (h : m < 2 ^ N) : stepM x ds m k < 2 ^ N := by
  have := hf.ok k hk
  unfold stepM
  split
  · exact or_lt h (by omega) (by omega)
  · exact h
theorem rnd_lt {N : Nat} {x : Int} {ds : List (Int × Int)} (hf : HForm N ds) {m : Nat} (h : m < 2 ^ N) : ∀ k, k ≤ ds.length → rndM x ds m k < 2 ^ N
  | 0, _ => h
  | k + 1, hk => step_lt hf (by omega) (rnd_lt hf h k (by omega))
theorem set_lt {N s : Nat} {x : Int} {ds : List (Int × Int)} (hf : HForm N ds) (hs : s < N) : ∀ n, setM x ds s n < 2 ^ N
  | 0 => Nat.pow_lt_pow_right (by decide) hs
  | n + 1 => rnd_lt hf (set_lt hf hs n) _ (Nat.le_refl _)
theorem door_nb {N : Nat} {x : Int} {ds : List (Int × Int)} (hf : HForm N ds) {k : Nat} (hk : k < ds.length) (hb : bitB x k = true) :
    (dr ds k).2.toNat ∈ nb N (keyD x ds) (dr ds k).1.toNat := by
  have ho := hf.ok k hk
  unfold nb
  rw [List.mem_filter, List.mem_range, isDoor_iff]
  refine ⟨by omega, ?_⟩
  have e : (min (((dr ds k).2.toNat : Nat) : Int) (((dr ds k).1.toNat : Nat) : Int), max (((dr ds k).2.toNat : Nat) : Int) (((dr ds k).1.toNat : Nat) : Int)) = dr ds k :=
    Prod.ext (by show min _ _ = (dr ds k).1; omega) (by show max _ _ = (dr ds k).2; omega)
  rw [e]
  exact key_mem.2 ⟨k, hk, hb, rfl⟩
theorem step_sound {N s : Nat} {x : Int} {ds : List (Int × Int)} (hf : HForm N ds) {m k : Nat} (hk : k < ds.length)
    (h : ∀ y, m.testBit y = true → Conn N (keyD x ds) s y) : ∀ y, (stepM x ds m k).testBit y = true → Conn N (keyD x ds) s y := by
  intro y hy
  unfold stepM at hy
  split at hy
  · rename_i hc
    rw [Bool.and_eq_true, Bool.or_eq_true] at hc
    have hn := door_nb hf hk hc.1
    have ho := hf.ok k hk
    have hn2 := nb_comm (by omega) hn
    have hA : Conn N (keyD x ds) s (dr ds k).1.toNat := by
      rcases hc.2 with h1 | h1
      · exact h _ h1
      · exact (h _ h1).step hn2
    rw [or_bit, Bool.or_eq_true, Bool.or_eq_true] at hy
    rcases hy with (h1 | h1) | h1
    · exact h _ h1
    · rw [← of_decide_eq_true h1]; exact hA
    · rw [← of_decide_eq_true h1]; exact hA.step hn
  · exact h y hy
theorem rnd_sound {N s : Nat} {x : Int} {ds : List (Int × Int)} (hf : HForm N ds) {m : Nat} (h : ∀ y, m.testBit y = true → Conn N (keyD x ds) s y) :
    ∀ k, k ≤ ds.length → ∀ y, (rndM x ds m k).testBit y = true → Conn N (keyD x ds) s y
  | 0, _ => h
  | k + 1, hk => step_sound hf (by omega) (rnd_sound hf h k (by omega))
theorem set_sound {N s : Nat} {x : Int} {ds : List (Int × Int)} (hf : HForm N ds) : ∀ n, ∀ y, (setM x ds s n).testBit y = true → Conn N (keyD x ds) s y
  | 0, y, h => by
    unfold setM at h
    rw [Nat.testBit_two_pow] at h
    rw [← of_decide_eq_true h]; exact .refl
  | n + 1, y, h => rnd_sound hf (set_sound hf n) _ (Nat.le_refl _) y h
/-- One round goes one door further. -/
theorem rnd_next {N : Nat} {x : Int} {ds : List (Int × Int)} (hf : HForm N ds) {m u v : Nat} (h : m.testBit u = true) (hv : v ∈ nb N (keyD x ds) u) : (rndM x ds m ds.length).testBit v = true := by
  unfold nb at hv
  rw [List.mem_filter, List.mem_range, isDoor_iff] at hv
  obtain ⟨j, hj, hb, he⟩ := key_mem.1 hv.2
  have ho := hf.ok j hj
  have h1 : min (v : Int) (u : Int) = (dr ds j).1 := by rw [← he]
  have h2 : max (v : Int) (u : Int) = (dr ds j).2 := by rw [← he]
  have hu := rnd_keep (x := x) (ds := ds) h j
  have key : (rndM x ds m (j + 1)).testBit v = true := by
    show (stepM x ds (rndM x ds m j) j).testBit v = true
    unfold stepM
    rw [if_pos, or_bit]
    · rcases (by omega : (dr ds j).1.toNat = v ∨ (dr ds j).2.toNat = v) with e | e
      · rw [decide_eq_true e]; simp
      · rw [decide_eq_true e]; simp
    · rw [hb, Bool.true_and]
      rcases (by omega : (dr ds j).1.toNat = u ∨ (dr ds j).2.toNat = u) with e | e
      · rw [e, hu]; rfl
      · rw [e, hu, Bool.or_true]
  obtain ⟨d, hd⟩ : ∃ d, ds.length = j + 1 + d := ⟨ds.length - (j + 1), by omega⟩
  rw [hd]
  clear hd
  induction d with
  | zero => exact key
  | succ d ih => exact step_mono ih
theorem set_keep {x : Int} {ds : List (Int × Int)} {s n y : Nat} (h : (setM x ds s n).testBit y = true) : (setM x ds s (n + 1)).testBit y = true := rnd_keep h _
theorem set_fix {x : Int} {ds : List (Int × Int)} {s n : Nat} (h : setM x ds s (n + 1) = setM x ds s n) : ∀ d, setM x ds s (n + d) = setM x ds s n
  | 0 => rfl
  | d + 1 => by
    show rndM x ds (setM x ds s (n + d)) ds.length = _
    rw [set_fix h d]
    exact h
/-- How many bits below N a set has. -/
def card (N m : Nat) : Nat := ((List.range N).filter fun y => m.testBit y).length
theorem card_le (N m : Nat) : card N m ≤ N := by
  have := List.length_filter_le (fun y => m.testBit y) (List.range N)
  rw [List.length_range] at this
  exact this
theorem filter_lt {l : List Nat} {p q : Nat → Bool} (h : ∀ y, p y = true → q y = true) {z : Nat} (hz : z ∈ l) (h1 : p z = false) (h2 : q z = true) : (l.filter p).length < (l.filter q).length := by
  induction l with
  | nil => cases hz
  | cons a l ih =>
    have hle : (l.filter p).length ≤ (l.filter q).length := by
      clear ih hz
      induction l with
      | nil => exact Nat.le_refl _
      | cons b l ih =>
        cases hp : p b
        · cases hq : q b <;> simp [hp, hq] <;> omega
        · have := h b hp
          simp [hp, this]; omega
    rcases List.mem_cons.1 hz with rfl | hz
    · simp [h1, h2]; omega
    · have := ih hz
      cases hp : p a
      · cases hq : q a <;> simp [hp, hq] <;> omega
      · have := h a hp
        simp [hp, this]; omega
theorem eq_of_bits {m k N : Nat} (hm : m < 2 ^ N) (hk : k < 2 ^ N) (h : ∀ y, y < N → m.testBit y = k.testBit y) : m = k := by
  refine Nat.eq_of_testBit_eq fun y => ?_
  rcases Nat.lt_or_ge y N with h1 | h1
  · exact h y h1
  · rw [Nat.testBit_lt_two_pow (Nat.lt_of_lt_of_le hm (Nat.pow_le_pow_right (by decide) h1)), Nat.testBit_lt_two_pow (Nat.lt_of_lt_of_le hk (Nat.pow_le_pow_right (by decide) h1))]
theorem set_grow {N s : Nat} {x : Int} {ds : List (Int × Int)} (hf : HForm N ds) (hs : s < N) : ∀ n, n + 1 ≤ card N (setM x ds s n) ∨ ∃ k, k < n ∧ setM x ds s (k + 1) = setM x ds s k
  | 0 => by
    refine .inl ?_
    have : s ∈ (List.range N).filter fun y => (setM x ds s 0).testBit y := by
      rw [List.mem_filter, List.mem_range]
      exact ⟨hs, by show (2 ^ s).testBit s = true; rw [Nat.testBit_two_pow]; simp⟩
    exact List.length_pos_of_mem this
  | n + 1 => by
    rcases set_grow (x := x) hf hs n with h | ⟨k, hk, he⟩
    · by_cases e : setM x ds s (n + 1) = setM x ds s n
      · exact .inr ⟨n, by omega, e⟩
      · refine .inl ?_
        have : ∃ y, y < N ∧ (setM x ds s n).testBit y = false ∧ (setM x ds s (n + 1)).testBit y = true := by
          refine Classical.byContradiction fun hc => e ?_
          refine eq_of_bits (set_lt hf hs _) (set_lt hf hs _) fun y hy => ?_
          cases h1 : (setM x ds s n).testBit y
          · cases h2 : (setM x ds s (n + 1)).testBit y
            · rfl
            · exact absurd ⟨y, hy, h1, h2⟩ hc
          · exact set_keep h1
        obtain ⟨y, hy, h1, h2⟩ := this
        have := filter_lt (l := List.range N) (p := fun y => (setM x ds s n).testBit y) (q := fun y => (setM x ds s (n + 1)).testBit y) (fun y h => set_keep h) (List.mem_range.2 hy) h1 h2
        unfold card at h ⊢
        omega
    · exact .inr ⟨k, by omega, he⟩
/-- The set after as many rounds as there are halls. -/
theorem set_conn {N s : Nat} {x : Int} {ds : List (Int × Int)} (hf : HForm N ds) (hs : s < N) (y : Nat) : (setM x ds s N).testBit y = true ↔ Conn N (keyD x ds) s y := by
  refine ⟨set_sound hf N y, fun h => ?_⟩
  obtain ⟨k, hk, he⟩ : ∃ k, k < N ∧ setM x ds s (k + 1) = setM x ds s k := by
    rcases set_grow (x := x) hf hs N with h1 | h1
    · have := card_le N (setM x ds s N); omega
    · exact h1
  have hN : ∀ d, setM x ds s (k + d) = setM x ds s k := set_fix he
  have e1 : setM x ds s N = setM x ds s k := by
    have := hN (N - k)
    rwa [show k + (N - k) = N by omega] at this
  rw [e1]
  induction h with
  | refl =>
    have : ∀ n, (setM x ds s n).testBit s = true := by
      intro n
      induction n with
      | zero => show (2 ^ s).testBit s = true; rw [Nat.testBit_two_pow]; simp
      | succ n ih => exact set_keep ih
    exact this k
  | step _ hy ih =>
    rw [← he]
    exact rnd_next hf ih hy

/-! The halls. -/
/-- Of the first k halls those with a distance. -/
def openTo (D : List Int) : Nat → List Int
  | 0 => []
  | k + 1 => if 0 ≤ D.getD k 0 then openTo D k ++ [(k : Int)] else openTo D k
def bitTo (m : Nat) : Nat → List Int
  | 0 => []
  | k + 1 => if m.testBit k then bitTo m k ++ [(k : Int)] else bitTo m k
theorem openTo_len (D : List Int) : ∀ k, (openTo D k).length ≤ k
  | 0 => Nat.le_refl _
  | k + 1 => by
    have := openTo_len D k
    unfold openTo
    split
    · simp; omega
    · omega
theorem bitTo_len (m : Nat) : ∀ k, (bitTo m k).length ≤ k
  | 0 => Nat.le_refl _
  | k + 1 => by
    have := bitTo_len m k
    unfold bitTo
    split
    · simp; omega
    · omega
theorem bit_open {N s : Nat} {x : Int} {ds : List (Int × Int)} (hf : HForm N ds) (hs : s < N) : ∀ k, k ≤ N → bitTo (setM x ds s N) k = openTo (dist N (keyD x ds) s) k
  | 0, _ => rfl
  | k + 1, h => by
    have ih := bit_open (x := x) hf hs k (by omega)
    have e : ((setM x ds s N).testBit k = true) ↔ 0 ≤ (dist N (keyD x ds) s).getD k 0 := by
      rw [set_conn hf hs, reach hs (by omega)]
    unfold bitTo openTo
    rw [ih]
    by_cases h1 : 0 ≤ (dist N (keyD x ds) s).getD k 0
    · rw [if_pos h1, if_pos (e.2 h1)]
    · rw [if_neg h1, if_neg (fun h2 => h1 (e.1 h2))]
/-- The answer of HallsWith. -/
def withN (N : Nat) (ds : List (Int × Int)) (s : Nat) (x : Int) : List Int := openTo (dist N (keyD x ds) s) N
def withL (H : Int) (ds : List (Int × Int)) (s x : Int) : List Int := if (ringB H ds x && inH H s) = true then withN H.toNat ds s.toNat x else []
theorem with_no {H : Int} {ds : List (Int × Int)} {s x : Int} (h : (ringB H ds x && inH H s) = false) : withL H ds s x = [] := by unfold withL; rw [h]; rfl
theorem with_yes {N s : Nat} {ds : List (Int × Int)} {x : Int} (h : (ringB N ds x && inH N s) = true) : withL N ds s x = withN N ds s x := by unfold withL; rw [if_pos h]; rfl
theorem with_len (H : Int) (ds : List (Int × Int)) (s x : Int) : (withL H ds s x).length ≤ 1048576 := by
  unfold withL
  split
  · rename_i h
    rw [Bool.and_eq_true] at h
    have h1 := h.1
    unfold ringB at h1
    rw [Bool.and_eq_true] at h1
    have := (house_form h1.1).h7
    have := openTo_len (dist H.toNat (keyD x ds) s.toNat) H.toNat
    unfold withN
    omega
  · simp
end Go.Proofs.Ytagokcbldkbdmaa.HouKeys

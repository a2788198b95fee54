/-
  Plain facts: how a room is divided into triangles, ear by ear. No program stands here.
-/
import Derived.Test.YtkcodmafakjkfaaGreatFacts
import Derived.Test.YtkcodmafakjkfaaGreatTriMath
import Derived.Test.YtkcodmafakjkfaaGreatSuspMath
import Derived.Test.YtkcodmafakjkfaaGreatTup3
namespace Go.Proofs.YtkcodmafakjkfaaGreat.TrisMath
open PointMath WallMath RoomMath AreaMath PlaceMath SightMath DiagMath TriMath SuspMath

def ix (l : List Nat) (k : Nat) : Nat := l.getD k 0
theorem ix_at {l : List Nat} {k : Nat} (h : k < l.length) : l[k]? = some (ix l k) := by
  unfold ix; rw [List.getD_eq_getElem?_getD, List.getElem?_eq_getElem h]; rfl
theorem ix_get {l : List Nat} {k : Nat} (h : k < l.length) : l[k] = ix l k := by
  have := ix_at h; rw [List.getElem?_eq_getElem h] at this; exact Option.some.inj this
theorem ix_mem {l : List Nat} {k : Nat} (h : k < l.length) : ix l k ∈ l := by rw [← ix_get h]; exact List.getElem_mem h
theorem mem_ix {l : List Nat} {x : Nat} (h : x ∈ l) : ∃ k, k < l.length ∧ ix l k = x := by
  obtain ⟨k, hk, e⟩ := List.mem_iff_getElem.1 h
  exact ⟨k, hk, by rw [← ix_get hk, e]⟩
def li (l : List Nat) : List Int := List.map (fun k : Nat => (k : Int)) l
theorem li_len (l : List Nat) : (li l).length = l.length := by simp [li]
theorem li_at {l : List Nat} {k : Nat} (h : k < l.length) : (li l)[k]? = some ((ix l k : Nat) : Int) := by
  unfold li; rw [List.getElem?_map, ix_at h]; rfl
theorem li_snoc (l : List Nat) (k : Nat) : li (l ++ [k]) = li l ++ [(k : Int)] := by simp [li]
theorem li_range (n : Nat) : li (List.range n) = thatTo (fun _ => true) n := by
  induction n with
  | zero => rfl
  | succ n ih => rw [List.range_succ, li_snoc, ih]; rfl
theorem li_erase (l : List Nat) (k : Nat) : li (l.eraseIdx k) = (li l).take k ++ (li l).drop (k + 1) := by
  unfold li; rw [List.eraseIdx_eq_take_drop_succ, List.map_append, List.map_take, List.map_drop]
theorem ix_erase (l : List Nat) (k a : Nat) : ix (l.eraseIdx k) a = if a < k then ix l a else ix l (a + 1) := by
  unfold ix
  rw [List.getD_eq_getElem?_getD, List.getD_eq_getElem?_getD, List.getD_eq_getElem?_getD, List.getElem?_eraseIdx]
  split <;> rfl
theorem erase_len {l : List Nat} {k : Nat} (h : k < l.length) : (l.eraseIdx k).length = l.length - 1 := List.length_eraseIdx_of_lt h
theorem ix_range {n k : Nat} (h : k < n) : ix (List.range n) k = k := by
  have := ix_at (l := List.range n) (k := k) (by simpa using h)
  rw [List.getElem?_range h] at this
  exact (Option.some.inj this).symm

/-- Strictly ascending, and below n. -/
def Asc (n : Nat) (l : List Nat) : Prop := (∀ a b, a < b → b < l.length → ix l a < ix l b) ∧ ∀ a, a < l.length → ix l a < n
theorem asc_range (n : Nat) : Asc n (List.range n) := by
  constructor
  · intro a b h hb
    have hb2 : b < n := by simpa using hb
    rw [ix_range hb2, ix_range (show a < n by omega)]; exact h
  · intro a ha
    have ha2 : a < n := by simpa using ha
    rw [ix_range ha2]; exact ha2
theorem Asc.erase {n : Nat} {l : List Nat} (h : Asc n l) {k : Nat} (hk : k < l.length) : Asc n (l.eraseIdx k) := by
  constructor
  · intro a b hab hb
    rw [erase_len hk] at hb
    rw [ix_erase, ix_erase]
    split <;> split <;> exact h.1 _ _ (by omega) (by omega)
  · intro a ha
    rw [erase_len hk] at ha
    rw [ix_erase]
    split <;> exact h.2 _ (by omega)

def pvN (m k : Nat) : Nat := (k + m - 1) % m
def nxN (m k : Nat) : Nat := (k + 1) % m
theorem pvN_eq {m k : Nat} (hk : k < m) : pvN m k = if k = 0 then m - 1 else k - 1 := by
  unfold pvN
  split
  · subst k; rw [show 0 + m - 1 = m - 1 by omega]; exact Nat.mod_eq_of_lt (by omega)
  · rw [show k + m - 1 = k - 1 + m by omega, Nat.add_mod_right]; exact Nat.mod_eq_of_lt (by omega)
theorem nxN_eq {m k : Nat} (hk : k < m) : nxN m k = if k + 1 = m then 0 else k + 1 := by
  unfold nxN
  split
  · rename_i h; rw [h]; exact Nat.mod_self m
  · exact Nat.mod_eq_of_lt (by omega)
def pvx (l : List Nat) (k : Nat) : Nat := ix l (pvN l.length k)
def nxx (l : List Nat) (k : Nat) : Nat := ix l (nxN l.length k)

/-- Three numbers, sorted. -/
def triS (a b c : Nat) : Int × Int × Int := (((min (min a b) c : Nat) : Int), ((a + b + c - min (min a b) c - max (max a b) c : Nat) : Int), ((max (max a b) c : Nat) : Int))
def triAt (l : List Nat) (k : Nat) : Int × Int × Int := triS (pvx l k) (ix l k) (nxx l k)
theorem triS_123 {a b c : Nat} (h : a < b) (h2 : b < c) : triS a b c = ((a : Int), (b : Int), (c : Int)) := by
  unfold triS
  rw [show min (min a b) c = a by omega, show max (max a b) c = c by omega, show a + b + c - a - c = b by omega]
theorem triS_312 {a b c : Nat} (h : a < b) (h2 : b < c) : triS c a b = ((a : Int), (b : Int), (c : Int)) := by
  unfold triS
  rw [show min (min c a) b = a by omega, show max (max c a) b = c by omega, show c + a + b - a - c = b by omega]
theorem triS_231 {a b c : Nat} (h : a < b) (h2 : b < c) : triS b c a = ((a : Int), (b : Int), (c : Int)) := by
  unfold triS
  rw [show min (min b c) a = a by omega, show max (max b c) a = c by omega, show b + c + a - a - c = b by omega]
/-- The three corners around a place of an ascending list come one behind the other, from some one on. -/
theorem rot {n : Nat} {l : List Nat} (h : Asc n l) (h3 : 3 ≤ l.length) {k : Nat} (hk : k < l.length) :
    ∃ a b c : Nat, triAt l k = ((a : Int), (b : Int), (c : Int)) ∧ a < b ∧ b < c ∧ c < n ∧
      ((pvx l k = a ∧ ix l k = b ∧ nxx l k = c) ∨ (pvx l k = c ∧ ix l k = a ∧ nxx l k = b) ∨ (pvx l k = b ∧ ix l k = c ∧ nxx l k = a)) := by
  unfold triAt pvx nxx
  rw [pvN_eq hk, nxN_eq hk]
  by_cases k0 : k = 0
  · subst k0
    rw [if_pos rfl, if_neg (by omega)]
    have h1 := h.1 0 1 (by omega) (by omega)
    have h2 := h.1 1 (l.length - 1) (by omega) (by omega)
    have h4 := h.2 (l.length - 1) (by omega)
    exact ⟨_, _, _, triS_312 h1 h2, h1, h2, h4, .inr (.inl ⟨rfl, rfl, rfl⟩)⟩
  · rw [if_neg k0]
    have h1 := h.1 (k - 1) k (by omega) (by omega)
    by_cases k1 : k + 1 = l.length
    · rw [if_pos k1]
      have h2 := h.1 0 (k - 1) (by omega) (by omega)
      have h4 := h.2 k (by omega)
      exact ⟨_, _, _, triS_231 h2 h1, h2, h1, h4, .inr (.inr ⟨rfl, rfl, rfl⟩)⟩
    · rw [if_neg k1]
      have h2 := h.1 k (k + 1) (by omega) (by omega)
      have h4 := h.2 (k + 1) (by omega)
      exact ⟨_, _, _, triS_123 h1 h2, h1, h2, h4, .inl ⟨rfl, rfl, rfl⟩⟩
theorem turn_rot (p q r : Int × Int) : turnP q r p = turnP p q r := by unfold turnP turnI; grind
theorem triIn_rot (a b c p : Int × Int) : triIn b c a p = triIn a b c p := by
  unfold triIn
  cases decide (0 ≤ turnP a b p) <;> cases decide (0 ≤ turnP b c p) <;> cases decide (0 ≤ turnP c a p) <;> rfl

/-- While more than three are left, the corners before and behind one are no neighbors in the room. -/
theorem not_near {n : Nat} {l : List Nat} (h : Asc n l) (h3 : 3 < l.length) {k : Nat} (hk : k < l.length) :
    (pvx l k + 1) % n ≠ nxx l k ∧ (nxx l k + 1) % n ≠ pvx l k := by
  have hmod : ∀ x, x < n → (x + 1) % n = if x + 1 = n then 0 else x + 1 := by
    intro x hx
    split
    · rename_i e; rw [e, Nat.mod_self]
    · exact Nat.mod_eq_of_lt (by omega)
  unfold pvx nxx
  rw [pvN_eq hk, nxN_eq hk]
  by_cases k0 : k = 0
  · subst k0
    rw [if_pos rfl, if_neg (by omega)]
    have a1 := h.1 0 1 (by omega) (by omega)
    have a2 := h.1 1 2 (by omega) (by omega)
    have a3 := h.1 2 (l.length - 1) (by omega) (by omega)
    have a4 := h.2 (l.length - 1) (by omega)
    have a5 := h.2 (0 + 1) (by omega)
    rw [hmod _ a4, hmod _ a5]
    simp only [Nat.zero_add] at *
    constructor <;> split <;> omega
  · rw [if_neg k0]
    by_cases k1 : k + 1 = l.length
    · rw [if_pos k1]
      have a1 := h.1 0 1 (by omega) (by omega)
      have a2 := h.1 1 (k - 1) (by omega) (by omega)
      have a3 := h.1 (k - 1) k (by omega) (by omega)
      have a4 := h.2 k (by omega)
      have a5 := h.2 (k - 1) (by omega)
      have a6 := h.2 0 (by omega)
      rw [hmod _ a5, hmod _ a6]
      constructor <;> split <;> omega
    · rw [if_neg k1]
      have a1 := h.1 (k - 1) k (by omega) (by omega)
      have a2 := h.1 k (k + 1) (by omega) (by omega)
      have a4 := h.2 (k - 1) (by omega)
      have a5 := h.2 (k + 1) (by omega)
      rw [hmod _ a4, hmod _ a5]
      constructor
      · split <;> omega
      · split
        · rename_i e
          intro e2
          by_cases k2 : k - 1 = 0
          · have a6 := h.1 (k + 1) (l.length - 1) (by omega) (by omega)
            have a7 := h.2 (l.length - 1) (by omega)
            omega
          · have a6 := h.1 0 (k - 1) (by omega) (by omega)
            omega
        · omega

/-- The corner with number k of those that are left can be cut off, as the model asks. -/
def inAny (ps : List (Int × Int)) (l : List Nat) (a b c m : Nat) : Bool :=
  decide (ix l m = a) || decide (ix l m = b) || decide (ix l m = c) || !triIn (pt ps a) (pt ps b) (pt ps c) (pt ps (ix l m))
def nearN (n i j : Nat) : Bool := decide ((i + 1) % n = j) || decide ((j + 1) % n = i)
def earM (ps : List (Int × Int)) (l : List Nat) (k : Nat) : Bool :=
  decide (0 < turnP (pt ps (pvx l k)) (pt ps (ix l k)) (pt ps (nxx l k))) && (nearN ps.length (pvx l k) (nxx l k) || diagM ps (pvx l k) (nxx l k)) &&
    (List.range l.length).all (inAny ps l (pvx l k) (ix l k) (nxx l k))
/-- As the landed code asks: with the corners sorted. -/
def earI (ps : List (Int × Int)) (l : List Nat) (k a b c : Nat) : Bool :=
  diagM ps (pvx l k) (nxx l k) && decide (0 < turnP (pt ps a) (pt ps b) (pt ps c)) && (List.range l.length).all (inAny ps l a b c)
theorem inAny_rot (ps : List (Int × Int)) (l : List Nat) (a b c m : Nat) : inAny ps l b c a m = inAny ps l a b c m := by
  unfold inAny
  rw [triIn_rot]
  cases decide (ix l m = a) <;> cases decide (ix l m = b) <;> cases decide (ix l m = c) <;> rfl
theorem ear_eq {ps : List (Int × Int)} {l : List Nat} (h : Asc ps.length l) (h3 : 3 < l.length) {k : Nat} (hk : k < l.length) {a b c : Nat}
    (hr : (pvx l k = a ∧ ix l k = b ∧ nxx l k = c) ∨ (pvx l k = c ∧ ix l k = a ∧ nxx l k = b) ∨ (pvx l k = b ∧ ix l k = c ∧ nxx l k = a)) : earM ps l k = earI ps l k a b c := by
  obtain ⟨n1, n2⟩ := not_near h h3 hk
  unfold earM earI nearN
  rw [decide_eq_false n1, decide_eq_false n2, Bool.or_self, Bool.false_or, Bool.and_comm (decide _)]
  have e1 : inAny ps l b c a = inAny ps l a b c := funext fun m => inAny_rot ps l a b c m
  have e2 : inAny ps l c a b = inAny ps l a b c := funext fun m => (inAny_rot ps l c a b m).symm
  rcases hr with ⟨h1, h2, h4⟩ | ⟨h1, h2, h4⟩ | ⟨h1, h2, h4⟩
  · rw [h1, h2, h4]
  · rw [h1, h2, h4, turn_rot (pt ps b) (pt ps c) (pt ps a), turn_rot (pt ps a) (pt ps b) (pt ps c), e2]
  · rw [h1, h2, h4, turn_rot (pt ps a) (pt ps b) (pt ps c), e1]

/-- Where the first ear is, or -1. -/
def earAt (ps : List (Int × Int)) (l : List Nat) : Int := firstI l.length (earM ps l)
theorem earAt_lt (ps : List (Int × Int)) (l : List Nat) : earAt ps l < l.length ∧ -1 ≤ earAt ps l := by
  unfold earAt firstI
  split
  · rename_i k hk
    have := List.mem_range.1 (List.mem_of_find?_eq_some hk)
    omega
  · omega
def trisO (ps : List (Int × Int)) : Nat → List Nat → Option (List Tup3.Tu)
  | 0, l => some [triAt l 1]
  | f + 1, l => if l.length ≤ 3 then some [triAt l 1] else if earAt ps l < 0 then none else (trisO ps f (l.eraseIdx (earAt ps l).toNat)).map (triAt l (earAt ps l).toNat :: ·)
def trisF (ps : List (Int × Int)) (l : List Nat) : Option (List Tup3.Tu) := trisO ps l.length l
theorem trisF_end {ps : List (Int × Int)} {l : List Nat} (h : l.length ≤ 3) : trisF ps l = some [triAt l 1] := by
  unfold trisF
  cases e : l.length with
  | zero => rfl
  | succ m => unfold trisO; rw [if_pos h]
theorem trisF_none {ps : List (Int × Int)} {l : List Nat} (h : 3 < l.length) (he : earAt ps l < 0) : trisF ps l = none := by
  unfold trisF
  cases e : l.length with
  | zero => omega
  | succ m => unfold trisO; rw [if_neg (by omega), if_pos he]
theorem trisF_step {ps : List (Int × Int)} {l : List Nat} {k : Nat} (h : 3 < l.length) (he : earAt ps l = (k : Int)) : trisF ps l = (trisF ps (l.eraseIdx k)).map (triAt l k :: ·) := by
  have hk : k < l.length := by have := (earAt_lt ps l).1; omega
  have hm := erase_len hk
  unfold trisF
  rw [hm]
  cases e : l.length with
  | zero => omega
  | succ m =>
    conv => lhs; unfold trisO
    rw [if_neg (by omega), if_neg (by omega), he]
    rfl
def trisL (ps : List (Int × Int)) : List Tup3.Tu := if roomB ps then (trisF ps (List.range ps.length)).getD [] else []
theorem trisF_len {ps : List (Int × Int)} : ∀ (m : Nat) (l : List Nat) (L : List Tup3.Tu), l.length = m → trisF ps l = some L → L.length ≤ m + 1 ∧ 1 ≤ L.length
  | 0, l, L, hm, h => by
    rw [trisF_end (by omega)] at h
    injection h with h; subst h; simp
  | m + 1, l, L, hm, h => by
    by_cases h3 : l.length ≤ 3
    · rw [trisF_end h3] at h; injection h with h; subst h; simp
    · have hb := earAt_lt ps l
      by_cases he : earAt ps l < 0
      · rw [trisF_none (by omega) he] at h; cases h
      · obtain ⟨k, hk⟩ := Int.eq_ofNat_of_zero_le (show 0 ≤ earAt ps l by omega)
        rw [trisF_step (by omega) hk] at h
        have hkl : k < l.length := by omega
        cases hL : trisF ps (l.eraseIdx k) with
        | none => rw [hL] at h; cases h
        | some L' =>
          rw [hL] at h
          injection h with h; subst h
          have := trisF_len m _ L' (by rw [erase_len hkl]; omega) hL
          simp only [List.length_cons]; omega
theorem trisL_len (ps : List (Int × Int)) : (trisL ps).length ≤ ps.length + 1 := by
  unfold trisL
  split
  · cases h : trisF ps (List.range ps.length) with
    | none => simp
    | some L => exact (trisF_len _ _ _ (by simp) h).1
  · simp
end Go.Proofs.YtkcodmafakjkfaaGreat.TrisMath

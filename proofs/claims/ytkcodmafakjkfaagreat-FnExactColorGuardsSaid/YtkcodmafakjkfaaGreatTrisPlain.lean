/-
  Plain facts: how a room is divided into triangles, which share a side, three colors. No program stands here.
-/
import Derived.Test.YtkcodmafakjkfaaGreatFacts
import Derived.Test.YtkcodmafakjkfaaGreatTriMath
import Derived.Test.YtkcodmafakjkfaaGreatTup3

/-
  Plain facts: how a room is divided into triangles, ear by ear. No program stands here.
-/
namespace Go.Proofs.YtkcodmafakjkfaaGreat.TrisMath
open PointMath WallMath RoomMath AreaMath PlaceMath SightMath DiagMath TriMath

/-- As slices.Sort leaves a list. -/
def sorted (l : List Int) : List Int := l.mergeSort fun x y => decide (x ≤ y)
theorem sorted_pw (l : List Int) : (sorted l).Pairwise (· ≤ ·) := by
  have h := List.pairwise_mergeSort (le := fun x y : Int => decide (x ≤ y)) (by intro a b c; simp; omega) (by intro a b; simp; omega) l
  exact h.imp (by intro a b; simp)
theorem sorted_mem (l : List Int) (x : Int) : x ∈ sorted l ↔ x ∈ l := List.mem_mergeSort
theorem sorted_length (l : List Int) : (sorted l).length = l.length := List.length_mergeSort l

def ix (l : List Nat) (k : Nat) : Nat := l.getD k 0
theorem ix_at {l : List Nat} {k : Nat} (h : k < l.length) : l[k]? = some (ix l k) := by
  unfold ix; rw [List.getD_eq_getElem?_getD, List.getElem?_eq_getElem h]; rfl
theorem ix_get {l : List Nat} {k : Nat} (h : k < l.length) : l[k] = ix l k := by
  have := ix_at h; rw [List.getElem?_eq_getElem h] at this; exact Option.some.inj this
theorem ix_mem {l : List Nat} {k : Nat} (h : k < l.length) : ix l k ∈ l := by rw [← ix_get h]; exact List.getElem_mem h
theorem mem_ix {l : List Nat} {x : Nat} (h : x ∈ l) : ∃ k, k < l.length ∧ ix l k = x := by
  obtain ⟨k, hk, e⟩ := List.mem_iff_getElem.1 h
  exact ⟨k, hk, by rw [← ix_get hk, e]⟩
def li (l : List Nat) : List Int := List.map (fun k : Nat => (k : Int)) l
theorem li_len (l : List Nat) : (li l).length = l.length := by simp [li]
theorem li_at {l : List Nat} {k : Nat} (h : k < l.length) : (li l)[k]? = some ((ix l k : Nat) : Int) := by
  unfold li; rw [List.getElem?_map, ix_at h]; rfl
theorem li_snoc (l : List Nat) (k : Nat) : li (l ++ [k]) = li l ++ [(k : Int)] := by simp [li]
theorem li_range (n : Nat) : li (List.range n) = thatTo (fun _ => true) n := by
  induction n with
  | zero => rfl
  | succ n ih => rw [List.range_succ, li_snoc, ih]; rfl
theorem li_erase (l : List Nat) (k : Nat) : li (l.eraseIdx k) = (li l).take k ++ (li l).drop (k + 1) := by
  unfold li; rw [List.eraseIdx_eq_take_drop_succ, List.map_append, List.map_take, List.map_drop]
theorem ix_erase (l : List Nat) (k a : Nat) : ix (l.eraseIdx k) a = if a < k then ix l a else ix l (a + 1) := by
  unfold ix
  rw [List.getD_eq_getElem?_getD, List.getD_eq_getElem?_getD, List.getD_eq_getElem?_getD, List.getElem?_eraseIdx]
  split <;> rfl
theorem erase_len {l : List Nat} {k : Nat} (h : k < l.length) : (l.eraseIdx k).length = l.length - 1 := List.length_eraseIdx_of_lt h
theorem ix_range {n k : Nat} (h : k < n) : ix (List.range n) k = k := by
  have := ix_at (l := List.range n) (k := k) (by simpa using h)
  rw [List.getElem?_range h] at this
  exact (Option.some.inj this).symm

/-- Strictly ascending, and below n. -/
def Asc (n : Nat) (l : List Nat) : Prop := (∀ a b, a < b → b < l.length → ix l a < ix l b) ∧ ∀ a, a < l.length → ix l a < n
theorem asc_range (n : Nat) : Asc n (List.range n) := by
  constructor
  · intro a b h hb
    have hb2 : b < n := by simpa using hb
    rw [ix_range hb2, ix_range (show a < n by omega)]; exact h
  · intro a ha
    have ha2 : a < n := by simpa using ha
    rw [ix_range ha2]; exact ha2
theorem Asc.erase {n : Nat} {l : List Nat} (h : Asc n l) {k : Nat} (hk : k < l.length) : Asc n (l.eraseIdx k) := by
  constructor
  · intro a b hab hb
    rw [erase_len hk] at hb
    rw [ix_erase, ix_erase]
    split <;> split <;> exact h.1 _ _ (by omega) (by omega)
  · intro a ha
    rw [erase_len hk] at ha
    rw [ix_erase]
    split <;> exact h.2 _ (by omega)

def pvN (m k : Nat) : Nat := (k + m - 1) % m
def nxN (m k : Nat) : Nat := (k + 1) % m
theorem pvN_eq {m k : Nat} (hk : k < m) : pvN m k = if k = 0 then m - 1 else k - 1 := by
  unfold pvN
  split
  · subst k; rw [show 0 + m - 1 = m - 1 by omega]; exact Nat.mod_eq_of_lt (by omega)
  · rw [show k + m - 1 = k - 1 + m by omega, Nat.add_mod_right]; exact Nat.mod_eq_of_lt (by omega)
theorem nxN_eq {m k : Nat} (hk : k < m) : nxN m k = if k + 1 = m then 0 else k + 1 := by
  unfold nxN
  split
  · rename_i h; rw [h]; exact Nat.mod_self m
  · exact Nat.mod_eq_of_lt (by omega)
def pvx (l : List Nat) (k : Nat) : Nat := ix l (pvN l.length k)
def nxx (l : List Nat) (k : Nat) : Nat := ix l (nxN l.length k)

/-- Three numbers, sorted. -/
def triS (a b c : Nat) : Int × Int × Int := (((min (min a b) c : Nat) : Int), ((a + b + c - min (min a b) c - max (max a b) c : Nat) : Int), ((max (max a b) c : Nat) : Int))
def triAt (l : List Nat) (k : Nat) : Int × Int × Int := triS (pvx l k) (ix l k) (nxx l k)
theorem triS_123 {a b c : Nat} (h : a < b) (h2 : b < c) : triS a b c = ((a : Int), (b : Int), (c : Int)) := by
  unfold triS
  rw [show min (min a b) c = a by omega, show max (max a b) c = c by omega, show a + b + c - a - c = b by omega]
theorem triS_312 {a b c : Nat} (h : a < b) (h2 : b < c) : triS c a b = ((a : Int), (b : Int), (c : Int)) := by
  unfold triS
  rw [show min (min c a) b = a by omega, show max (max c a) b = c by omega, show c + a + b - a - c = b by omega]
theorem triS_231 {a b c : Nat} (h : a < b) (h2 : b < c) : triS b c a = ((a : Int), (b : Int), (c : Int)) := by
  unfold triS
  rw [show min (min b c) a = a by omega, show max (max b c) a = c by omega, show b + c + a - a - c = b by omega]
/-- The three corners around a place of an ascending list come one behind the other, from some one on. -/
theorem rot {n : Nat} {l : List Nat} (h : Asc n l) (h3 : 3 ≤ l.length) {k : Nat} (hk : k < l.length) :
    ∃ a b c : Nat, triAt l k = ((a : Int), (b : Int), (c : Int)) ∧ a < b ∧ b < c ∧ c < n ∧
      ((pvx l k = a ∧ ix l k = b ∧ nxx l k = c) ∨ (pvx l k = c ∧ ix l k = a ∧ nxx l k = b) ∨ (pvx l k = b ∧ ix l k = c ∧ nxx l k = a)) := by
  unfold triAt pvx nxx
  rw [pvN_eq hk, nxN_eq hk]
  by_cases k0 : k = 0
  · subst k0
    rw [if_pos rfl, if_neg (by omega)]
    have h1 := h.1 0 1 (by omega) (by omega)
    have h2 := h.1 1 (l.length - 1) (by omega) (by omega)
    have h4 := h.2 (l.length - 1) (by omega)
    exact ⟨_, _, _, triS_312 h1 h2, h1, h2, h4, .inr (.inl ⟨rfl, rfl, rfl⟩)⟩
  · rw [if_neg k0]
    have h1 := h.1 (k - 1) k (by omega) (by omega)
    by_cases k1 : k + 1 = l.length
    · rw [if_pos k1]
      have h2 := h.1 0 (k - 1) (by omega) (by omega)
      have h4 := h.2 k (by omega)
      exact ⟨_, _, _, triS_231 h2 h1, h2, h1, h4, .inr (.inr ⟨rfl, rfl, rfl⟩)⟩
    · rw [if_neg k1]
      have h2 := h.1 k (k + 1) (by omega) (by omega)
      have h4 := h.2 (k + 1) (by omega)
      exact ⟨_, _, _, triS_123 h1 h2, h1, h2, h4, .inl ⟨rfl, rfl, rfl⟩⟩
theorem turn_rot (p q r : Int × Int) : turnP q r p = turnP p q r := by unfold turnP turnI; grind
theorem triIn_rot (a b c p : Int × Int) : triIn b c a p = triIn a b c p := by
  unfold triIn
  cases decide (0 ≤ turnP a b p) <;> cases decide (0 ≤ turnP b c p) <;> cases decide (0 ≤ turnP c a p) <;> rfl

/-- While more than three are left, the corners before and behind one are no neighbors in the room. -/
theorem not_near {n : Nat} {l : List Nat} (h : Asc n l) (h3 : 3 < l.length) {k : Nat} (hk : k < l.length) :
    (pvx l k + 1) % n ≠ nxx l k ∧ (nxx l k + 1) % n ≠ pvx l k := by
  have hmod : ∀ x, x < n → (x + 1) % n = if x + 1 = n then 0 else x + 1 := by
    intro x hx
    split
    · rename_i e; rw [e, Nat.mod_self]
    · exact Nat.mod_eq_of_lt (by omega)
  unfold pvx nxx
  rw [pvN_eq hk, nxN_eq hk]
  by_cases k0 : k = 0
  · subst k0
    rw [if_pos rfl, if_neg (by omega)]
    have a1 := h.1 0 1 (by omega) (by omega)
    have a2 := h.1 1 2 (by omega) (by omega)
    have a3 := h.1 2 (l.length - 1) (by omega) (by omega)
    have a4 := h.2 (l.length - 1) (by omega)
    have a5 := h.2 (0 + 1) (by omega)
    rw [hmod _ a4, hmod _ a5]
    simp only [Nat.zero_add] at *
    constructor <;> split <;> omega
  · rw [if_neg k0]
    by_cases k1 : k + 1 = l.length
    · rw [if_pos k1]
      have a1 := h.1 0 1 (by omega) (by omega)
      have a2 := h.1 1 (k - 1) (by omega) (by omega)
      have a3 := h.1 (k - 1) k (by omega) (by omega)
      have a4 := h.2 k (by omega)
      have a5 := h.2 (k - 1) (by omega)
      have a6 := h.2 0 (by omega)
      rw [hmod _ a5, hmod _ a6]
      constructor <;> split <;> omega
    · rw [if_neg k1]
      have a1 := h.1 (k - 1) k (by omega) (by omega)
      have a2 := h.1 k (k + 1) (by omega) (by omega)
      have a4 := h.2 (k - 1) (by omega)
      have a5 := h.2 (k + 1) (by omega)
      rw [hmod _ a4, hmod _ a5]
      constructor
      · split <;> omega
      · split
        · rename_i e
          intro e2
          by_cases k2 : k - 1 = 0
          · have a6 := h.1 (k + 1) (l.length - 1) (by omega) (by omega)
            have a7 := h.2 (l.length - 1) (by omega)
            omega
          · have a6 := h.1 0 (k - 1) (by omega) (by omega)
            omega
        · omega

/-- The corner with number k of those that are left can be cut off, as the model asks. -/
def inAny (ps : List (Int × Int)) (l : List Nat) (a b c m : Nat) : Bool :=
  decide (ix l m = a) || decide (ix l m = b) || decide (ix l m = c) || !triIn (pt ps a) (pt ps b) (pt ps c) (pt ps (ix l m))
def nearN (n i j : Nat) : Bool := decide ((i + 1) % n = j) || decide ((j + 1) % n = i)
def earM (ps : List (Int × Int)) (l : List Nat) (k : Nat) : Bool :=
  decide (0 < turnP (pt ps (pvx l k)) (pt ps (ix l k)) (pt ps (nxx l k))) && (nearN ps.length (pvx l k) (nxx l k) || diagM ps (pvx l k) (nxx l k)) &&
    (List.range l.length).all (inAny ps l (pvx l k) (ix l k) (nxx l k))
/-- As the landed code asks: with the corners sorted. -/
def earI (ps : List (Int × Int)) (l : List Nat) (k a b c : Nat) : Bool :=
  diagM ps (pvx l k) (nxx l k) && decide (0 < turnP (pt ps a) (pt ps b) (pt ps c)) && (List.range l.length).all (inAny ps l a b c)
theorem inAny_rot (ps : List (Int × Int)) (l : List Nat) (a b c m : Nat) : inAny ps l b c a m = inAny ps l a b c m := by
  unfold inAny
  rw [triIn_rot]
  cases decide (ix l m = a) <;> cases decide (ix l m = b) <;> cases decide (ix l m = c) <;> rfl
theorem ear_eq {ps : List (Int × Int)} {l : List Nat} (h : Asc ps.length l) (h3 : 3 < l.length) {k : Nat} (hk : k < l.length) {a b c : Nat}
    (hr : (pvx l k = a ∧ ix l k = b ∧ nxx l k = c) ∨ (pvx l k = c ∧ ix l k = a ∧ nxx l k = b) ∨ (pvx l k = b ∧ ix l k = c ∧ nxx l k = a)) : earM ps l k = earI ps l k a b c := by
  obtain ⟨n1, n2⟩ := not_near h h3 hk
  unfold earM earI nearN
  rw [decide_eq_false n1, decide_eq_false n2, Bool.or_self, Bool.false_or, Bool.and_comm (decide _)]
  have e1 : inAny ps l b c a = inAny ps l a b c := funext fun m => inAny_rot ps l a b c m
  have e2 : inAny ps l c a b = inAny ps l a b c := funext fun m => (inAny_rot ps l c a b m).symm
  rcases hr with ⟨h1, h2, h4⟩ | ⟨h1, h2, h4⟩ | ⟨h1, h2, h4⟩
  · rw [h1, h2, h4]
  · rw [h1, h2, h4, turn_rot (pt ps b) (pt ps c) (pt ps a), turn_rot (pt ps a) (pt ps b) (pt ps c), e2]
  · rw [h1, h2, h4, turn_rot (pt ps a) (pt ps b) (pt ps c), e1]

/-- Where the first ear is, or -1. -/
def earAt (ps : List (Int × Int)) (l : List Nat) : Int := firstI l.length (earM ps l)
theorem earAt_lt (ps : List (Int × Int)) (l : List Nat) : earAt ps l < l.length ∧ -1 ≤ earAt ps l := by
  unfold earAt firstI
  split
  · rename_i k hk
    have := List.mem_range.1 (List.mem_of_find?_eq_some hk)
    omega
  · omega
def trisO (ps : List (Int × Int)) : Nat → List Nat → Option (List Tup3.Tu)
  | 0, l => some [triAt l 1]
  | f + 1, l => if l.length ≤ 3 then some [triAt l 1] else if earAt ps l < 0 then none else (trisO ps f (l.eraseIdx (earAt ps l).toNat)).map (triAt l (earAt ps l).toNat :: ·)
def trisF (ps : List (Int × Int)) (l : List Nat) : Option (List Tup3.Tu) := trisO ps l.length l
theorem trisF_end {ps : List (Int × Int)} {l : List Nat} (h : l.length ≤ 3) : trisF ps l = some [triAt l 1] := by
  unfold trisF
  cases e : l.length with
  | zero => rfl
  | succ m => unfold trisO; rw [if_pos h]
theorem trisF_none {ps : List (Int × Int)} {l : List Nat} (h : 3 < l.length) (he : earAt ps l < 0) : trisF ps l = none := by
  unfold trisF
  cases e : l.length with
  | zero => omega
  | succ m => unfold trisO; rw [if_neg (by omega), if_pos he]
theorem trisF_step {ps : List (Int × Int)} {l : List Nat} {k : Nat} (h : 3 < l.length) (he : earAt ps l = (k : Int)) : trisF ps l = (trisF ps (l.eraseIdx k)).map (triAt l k :: ·) := by
  have hk : k < l.length := by have := (earAt_lt ps l).1; omega
  have hm := erase_len hk
  unfold trisF
  rw [hm]
  cases e : l.length with
  | zero => omega
  | succ m =>
    conv => lhs; unfold trisO
    rw [if_neg (by omega), if_neg (by omega), he]
    rfl
def trisL (ps : List (Int × Int)) : List Tup3.Tu := if roomB ps then (trisF ps (List.range ps.length)).getD [] else []
theorem trisF_len {ps : List (Int × Int)} : ∀ (m : Nat) (l : List Nat) (L : List Tup3.Tu), l.length = m → trisF ps l = some L → L.length ≤ m + 1 ∧ 1 ≤ L.length
  | 0, l, L, hm, h => by
    rw [trisF_end (by omega)] at h
    injection h with h; subst h; simp
  | m + 1, l, L, hm, h => by
    by_cases h3 : l.length ≤ 3
    · rw [trisF_end h3] at h; injection h with h; subst h; simp
    · have hb := earAt_lt ps l
      by_cases he : earAt ps l < 0
      · rw [trisF_none (by omega) he] at h; cases h
      · obtain ⟨k, hk⟩ := Int.eq_ofNat_of_zero_le (show 0 ≤ earAt ps l by omega)
        rw [trisF_step (by omega) hk] at h
        have hkl : k < l.length := by omega
        cases hL : trisF ps (l.eraseIdx k) with
        | none => rw [hL] at h; cases h
        | some L' =>
          rw [hL] at h
          injection h with h; subst h
          have := trisF_len m _ L' (by rw [erase_len hkl]; omega) hL
          simp only [List.length_cons]; omega
theorem trisL_len (ps : List (Int × Int)) : (trisL ps).length ≤ ps.length + 1 := by
  unfold trisL
  split
  · cases h : trisF ps (List.range ps.length) with
    | none => simp
    | some L => exact (trisF_len _ _ _ (by simp) h).1
  · simp
end Go.Proofs.YtkcodmafakjkfaaGreat.TrisMath

/-
  Plain facts: which triangles share a side; three numbers sorted. No program stands here.
-/
namespace Go.Proofs.YtkcodmafakjkfaaGreat.TreeMath
open PointMath WallMath RoomMath AreaMath DiagMath TriMath TrisMath Tup3

def hasT (t : Tu) (x : Int) : Bool := decide (x = t.1) || decide (x = t.2.1) || decide (x = t.2.2)
def one (b : Bool) : Int := if b then 1 else 0
/-- How many corners of s are in t. -/
def common (s t : Tu) : Int := one (hasT t s.1) + one (hasT t s.2.1) + one (hasT t s.2.2)
def besideB (L : List Tu) (k i : Nat) : Bool := decide (common (tt L i) (tt L k) = 2)
theorem common_self (t : Tu) : common t t = 3 := by unfold common hasT one; simp
theorem beside_self (L : List Tu) (k : Nat) : besideB L k k = false := by unfold besideB; rw [common_self]; rfl
def nbrsL (L : List Tu) (k : Nat) : List Int := thatTo (besideB L k) L.length
def neighborsL (ps : List (Int × Int)) (k : Int) : List Int := if 0 ≤ k ∧ k < ((trisL ps).length : Int) then nbrsL (trisL ps) k.toNat else []
def leafB (L : List Tu) (k : Nat) : Bool := decide ((nbrsL L k).length = 1)
def leafL (ps : List (Int × Int)) : List Int := thatTo (leafB (trisL ps)) (trisL ps).length
theorem neighborsL_le (ps : List (Int × Int)) (k : Int) (h : ps.length ≤ 1048575) : (neighborsL ps k).length ≤ 1048576 := by
  unfold neighborsL nbrsL
  split
  · have h1 := thatTo_len (besideB (trisL ps) k.toNat) (trisL ps).length
    have h2 := trisL_len ps
    omega
  · simp
/-- Three different numbers, sorted. -/
theorem sorted3 {x y z a b c : Int} (hab : a < b) (hbc : b < c) (h1 : x = a ∨ x = b ∨ x = c) (h2 : y = a ∨ y = b ∨ y = c) (h3 : z = a ∨ z = b ∨ z = c) (n1 : x ≠ y) (n2 : y ≠ z) (n3 : x ≠ z) : sorted [x, y, z] = [a, b, c] := by
  have hl := sorted_length [x, y, z]
  have hp := sorted_pw [x, y, z]
  have hm := sorted_mem [x, y, z]
  generalize sorted [x, y, z] = l at *
  match l, hl with
  | [p, q, r], _ =>
    simp only [List.mem_cons, List.not_mem_nil, or_false] at hm
    simp only [List.pairwise_cons, List.mem_cons, List.not_mem_nil, or_false, forall_eq_or_imp, forall_eq] at hp
    have m1 := (hm x).2 (.inl rfl)
    have m2 := (hm y).2 (.inr (.inl rfl))
    have m3 := (hm z).2 (.inr (.inr rfl))
    have k1 := (hm p).1 (.inl rfl)
    have k2 := (hm q).1 (.inr (.inl rfl))
    have k3 := (hm r).1 (.inr (.inr rfl))
    obtain ⟨⟨h4, h5⟩, h6, _⟩ := hp
    have e1 : p = a := by omega
    have e2 : r = c := by omega
    have e3 : q = b := by omega
    rw [e1, e2, e3]
end Go.Proofs.YtkcodmafakjkfaaGreat.TreeMath

/-
  Plain facts: three colors for the corners of a room that is divided into triangles. No program stands here.
-/
namespace Go.Proofs.YtkcodmafakjkfaaGreat.ColMath
open PointMath WallMath RoomMath AreaMath DiagMath TriMath TrisMath

def cg (c : List Int) (k : Nat) : Int := c.getD k (-1)
theorem cg_at {c : List Int} {k : Nat} (h : k < c.length) : c[k]? = some (cg c k) := by
  unfold cg; rw [List.getD_eq_getElem?_getD, List.getElem?_eq_getElem h]; rfl
theorem cg_set {c : List Int} {k j : Nat} {v : Int} (h : k < c.length) : cg (c.set k v) j = if j = k then v else cg c j := by
  unfold cg
  rw [List.getD_eq_getElem?_getD, List.getD_eq_getElem?_getD, List.getElem?_set]
  by_cases e : k = j
  · subst e; rw [if_pos rfl, if_pos h, if_pos rfl]; rfl
  · rw [if_neg e, if_neg (fun x => e x.symm)]
theorem cg_rep {n k : Nat} : cg (List.replicate n (-1)) k = -1 := by
  unfold cg
  rw [List.getD_eq_getElem?_getD, List.getElem?_replicate]
  split <;> rfl
def colX (c : List Int) (s : Int × Int) (x : Nat) : Int × Int := if cg c x < 0 then ((x : Int), s.2) else (s.1, s.2 - cg c x)
def colAt (c : List Int) (t : Tup3.Tu) : Int × Int := colX c (colX c (colX c (-1, 3) t.1.toNat) t.2.1.toNat) t.2.2.toNat
def colStep (c : List Int) (t : Tup3.Tu) : List Int := if 0 ≤ (colAt c t).1 then c.set (colAt c t).1.toNat (colAt c t).2 else c
def colBase (n : Nat) (t : Tup3.Tu) : List Int := (((List.replicate n (-1)).set t.1.toNat 0).set t.2.1.toNat 1).set t.2.2.toNat 2
def colF (n : Nat) : List Tup3.Tu → List Int
  | [] => []
  | [t] => colBase n t
  | t :: s :: L => colStep (colF n (s :: L)) t
theorem colStep_len (c : List Int) (t : Tup3.Tu) : (colStep c t).length = c.length := by
  unfold colStep; split
  · simp
  · rfl
theorem colF_len (n : Nat) : ∀ (L : List Tup3.Tu), L ≠ [] → (colF n L).length = n
  | [], h => absurd rfl h
  | [t], _ => by simp [colF, colBase]
  | t :: s :: L, _ => by unfold colF; rw [colStep_len]; exact colF_len n (s :: L) (by simp)

/-- A color that a corner has: 0, 1 or 2. -/
def Has (c : List Int) (x : Nat) : Prop := 0 ≤ cg c x ∧ cg c x ≤ 2
/-- Of a triangle's corners just one has no color yet. -/
def Miss (n : Nat) (c : List Int) (t : Tup3.Tu) : Prop :=
  ∃ x y z : Nat, t = ((x : Int), (y : Int), (z : Int)) ∧ x < y ∧ y < z ∧ z < n ∧
    ((cg c x = -1 ∧ Has c y ∧ Has c z ∧ cg c y ≠ cg c z) ∨ (cg c y = -1 ∧ Has c x ∧ Has c z ∧ cg c x ≠ cg c z) ∨ (cg c z = -1 ∧ Has c x ∧ Has c y ∧ cg c x ≠ cg c y))
def Steps (n : Nat) : List Tup3.Tu → Prop
  | [] => True
  | [t] => ∃ x y z : Nat, t = ((x : Int), (y : Int), (z : Int)) ∧ x < y ∧ y < z ∧ z < n
  | t :: s :: L => Miss n (colF n (s :: L)) t ∧ Steps n (s :: L)
/-- The third color. -/
theorem miss_at {c : List Int} {t : Tup3.Tu} {b i j : Nat} (hb : cg c b = -1) (hi : Has c i) (hj : Has c j)
    (hr : (t = ((i : Int), (b : Int), (j : Int))) ∨ (t = ((b : Int), (j : Int), (i : Int))) ∨ (t = ((j : Int), (i : Int), (b : Int)))) : colAt c t = ((b : Int), 3 - cg c i - cg c j) := by
  have h1 : cg c b < 0 := by omega
  have h2 : ¬ cg c i < 0 := by have := hi.1; omega
  have h3 : ¬ cg c j < 0 := by have := hj.1; omega
  rcases hr with rfl | rfl | rfl
  · unfold colAt colX
    simp only [Int.toNat_natCast, h1, h2, h3, if_true, if_false]
  · unfold colAt colX
    simp only [Int.toNat_natCast, h1, h2, h3, if_true, if_false]
    rw [show (3 : Int) - cg c j - cg c i = 3 - cg c i - cg c j by omega]
  · unfold colAt colX
    simp only [Int.toNat_natCast, h1, h2, h3, if_true, if_false]
    rw [show (3 : Int) - cg c j - cg c i = 3 - cg c i - cg c j by omega]

theorem asc_inj {n : Nat} {l : List Nat} (h : Asc n l) {a b : Nat} (ha : a < l.length) (hb : b < l.length) (e : ix l a = ix l b) : a = b := by
  rcases Nat.lt_trichotomy a b with h1 | h1 | h1
  · have := h.1 a b h1 hb; omega
  · exact h1
  · have := h.1 b a h1 ha; omega

theorem tris_lt : True := trivial
set_option maxHeartbeats 1600000 in
theorem col_main {ps : List (Int × Int)} : ∀ (m : Nat) (l : List Nat) (L : List Tup3.Tu), l.length = m → 3 ≤ m → Asc ps.length l → trisF ps l = some L →
    L ≠ [] ∧ (∀ x, (∀ k, k < l.length → ix l k ≠ x) → cg (colF ps.length L) x = -1) ∧ (∀ k, k < l.length → Has (colF ps.length L) (ix l k)) ∧
      (∀ k, k < l.length → cg (colF ps.length L) (ix l k) ≠ cg (colF ps.length L) (ix l (nxN l.length k))) ∧ Steps ps.length L
  | 0, _, _, _, h, _, _ => by omega
  | m + 1, l, L, hm, h3, ha, hL => by
    by_cases hl3 : l.length ≤ 3
    · have e3 : l.length = 3 := by omega
      rw [trisF_end hl3] at hL
      injection hL with hL
      subst hL
      have a1 := ha.1 0 1 (by omega) (by omega)
      have a2 := ha.1 1 2 (by omega) (by omega)
      have a3 := ha.2 2 (by omega)
      have et : triAt l 1 = (((ix l 0 : Nat) : Int), ((ix l 1 : Nat) : Int), ((ix l 2 : Nat) : Int)) := by
        unfold triAt pvx nxx
        rw [e3]
        exact triS_123 a1 a2
      have hc : ∀ x, cg (colF ps.length [triAt l 1]) x = if x = ix l 2 then 2 else if x = ix l 1 then 1 else if x = ix l 0 then 0 else -1 := by
        intro x
        rw [et]
        unfold colF colBase
        simp only [Int.toNat_natCast]
        rw [cg_set (by simp; omega), cg_set (by simp; omega), cg_set (by simp; omega), cg_rep]
      refine ⟨by simp, ?_, ?_, ?_, ?_⟩
      · intro x hx
        rw [hc, if_neg (fun e => hx 2 (by omega) e.symm), if_neg (fun e => hx 1 (by omega) e.symm), if_neg (fun e => hx 0 (by omega) e.symm)]
      · intro k hk
        unfold Has
        rw [hc]
        split
        · omega
        · split
          · omega
          · split
            · omega
            · have : k = 0 ∨ k = 1 ∨ k = 2 := by omega
              rcases this with rfl | rfl | rfl <;> contradiction
      · intro k hk
        rw [hc, hc, nxN_eq hk]
        have : k = 0 ∨ k = 1 ∨ k = 2 := by omega
        rcases this with rfl | rfl | rfl <;> simp [e3] <;> (repeat' split) <;> omega
      · exact ⟨_, _, _, et, a1, a2, a3⟩
    · have hb := earAt_lt ps l
      by_cases he : earAt ps l < 0
      · rw [trisF_none (by omega) he] at hL; cases hL
      obtain ⟨k, hk⟩ := Int.eq_ofNat_of_zero_le (show 0 ≤ earAt ps l by omega)
      rw [trisF_step (by omega) hk] at hL
      have hkl : k < l.length := by omega
      have hel := erase_len hkl
      cases hL' : trisF ps (l.eraseIdx k) with
      | none => rw [hL'] at hL; cases hL
      | some L' =>
        rw [hL'] at hL
        injection hL with hL
        subst hL
        obtain ⟨ne, hx, hh, hd, hs⟩ := col_main m (l.eraseIdx k) L' (by omega) (by omega) (ha.erase hkl) hL'
        obtain ⟨s, L2, rfl⟩ : ∃ s L2, L' = s :: L2 := by
          cases L' with
          | nil => exact absurd rfl ne
          | cons s L2 => exact ⟨s, L2, rfl⟩
        have hlen : (colF ps.length (s :: L2)).length = ps.length := colF_len _ _ (by simp)
        generalize hc : colF ps.length (s :: L2) = c at *
        have hbm : cg c (ix l k) = -1 := by
          apply hx
          intro a hal e
          rw [ix_erase] at e
          split at e
          · have := asc_inj ha (a := a) (b := k) (by omega) hkl e; omega
          · have := asc_inj ha (a := a + 1) (b := k) (by omega) hkl e; omega
        -- the neighbors, one behind the other in the shorter list
        have hp : ∃ p, p < (l.eraseIdx k).length ∧ ix (l.eraseIdx k) p = pvx l k ∧ ix (l.eraseIdx k) (nxN (l.eraseIdx k).length p) = nxx l k := by
          unfold pvx nxx
          rw [pvN_eq hkl, nxN_eq hkl, hel]
          by_cases k0 : k = 0
          · subst k0
            refine ⟨l.length - 2, by omega, ?_, ?_⟩
            · rw [ix_erase, if_neg (by omega), if_pos rfl, show l.length - 2 + 1 = l.length - 1 by omega]
            · rw [nxN_eq (by omega), if_pos (by omega), if_neg (by omega), ix_erase, if_neg (by omega)]
          · refine ⟨k - 1, by omega, ?_, ?_⟩
            · rw [ix_erase, if_pos (by omega), if_neg k0]
            · rw [nxN_eq (by omega)]
              by_cases k1 : k + 1 = l.length
              · rw [if_pos (by omega), if_pos k1, ix_erase, if_pos (by omega)]
              · rw [if_neg (by omega), if_neg k1, ix_erase, if_neg (by omega), show k - 1 + 1 + 1 = k + 1 by omega]
        obtain ⟨p, hpl, ei, ej⟩ := hp
        have hi := hh p hpl
        have hj := hh (nxN (l.eraseIdx k).length p) (Nat.mod_lt _ (by omega))
        have hij := hd p hpl
        rw [ei] at hi hij
        rw [ej] at hj hij
        obtain ⟨x, y, z, et, hxy, hyz, hzn, hr⟩ := rot ha (by omega) hkl
        have hat : colAt c (triAt l k) = (((ix l k : Nat) : Int), 3 - cg c (pvx l k) - cg c (nxx l k)) := by
          apply miss_at hbm hi hj
          rw [et]
          rcases hr with ⟨h1, h2, h4⟩ | ⟨h1, h2, h4⟩ | ⟨h1, h2, h4⟩
          · rw [h1, h2, h4]; exact .inl rfl
          · rw [h1, h2, h4]; exact .inr (.inl rfl)
          · rw [h1, h2, h4]; exact .inr (.inr rfl)
        have hstep : ∀ x, cg (colF ps.length (triAt l k :: s :: L2)) x = if x = ix l k then 3 - cg c (pvx l k) - cg c (nxx l k) else cg c x := by
          intro x
          unfold colF colStep
          rw [hc, hat, if_pos (by simp)]
          simp only [Int.toNat_natCast]
          rw [cg_set (by have := ha.2 k hkl; omega)]
        have hix : ∀ q, q < l.length → q ≠ k → ∃ q', q' < (l.eraseIdx k).length ∧ ix (l.eraseIdx k) q' = ix l q := by
          intro q hq hne
          by_cases h1 : q < k
          · exact ⟨q, by omega, by rw [ix_erase, if_pos h1]⟩
          · exact ⟨q - 1, by omega, by rw [ix_erase, if_neg (by omega), show q - 1 + 1 = q by omega]⟩
        have hnk : ∀ q, q < l.length → q ≠ k → ix l q ≠ ix l k := fun q hq hne e => hne (asc_inj ha hq hkl e)
        refine ⟨by simp, ?_, ?_, ?_, ?_⟩
        · intro x hx2
          rw [hstep, if_neg (fun e => hx2 k hkl e.symm)]
          apply hx
          intro a hal
          rw [ix_erase]
          split
          · exact hx2 a (by omega)
          · exact hx2 (a + 1) (by omega)
        · intro q hq
          unfold Has
          rw [hstep]
          split
          · have := hi.1; have := hi.2; have := hj.1; have := hj.2; omega
          · rename_i e
            obtain ⟨q', hq', e2⟩ := hix q hq (fun x => e (by rw [x]))
            have := hh q' hq'
            rw [e2] at this
            exact this
        · intro q hq
          rw [hstep, hstep]
          have hqn : nxN l.length q < l.length := Nat.mod_lt _ (by omega)
          by_cases e1 : q = k
          · subst e1
            have hne : nxN l.length q ≠ q := by rw [nxN_eq hq]; split <;> omega
            rw [if_pos rfl, if_neg (hnk _ hqn hne)]
            show 3 - cg c (pvx l q) - cg c (nxx l q) ≠ cg c (nxx l q)
            have := hi.1; have := hi.2; have := hj.1; have := hj.2; omega
          · rw [if_neg (hnk _ hq e1)]
            by_cases e2 : nxN l.length q = k
            · rw [e2, if_pos rfl]
              have e3 : ix l q = pvx l k := by
                unfold pvx
                rw [pvN_eq hkl, ← e2, nxN_eq hq]
                by_cases e4 : q + 1 = l.length
                · rw [if_pos e4, if_pos rfl, show l.length - 1 = q by omega]
                · rw [if_neg e4, if_neg (by omega), show q + 1 - 1 = q by omega]
              rw [e3]
              have := hi.1; have := hi.2; have := hj.1; have := hj.2; omega
            · rw [if_neg (hnk _ hqn e2)]
              have hq3 : ∃ q', q' < (l.eraseIdx k).length ∧ ix (l.eraseIdx k) q' = ix l q ∧ ix (l.eraseIdx k) (nxN (l.eraseIdx k).length q') = ix l (nxN l.length q) := by
                rw [nxN_eq hq] at e2 ⊢
                by_cases h1 : q < k
                · refine ⟨q, by omega, by rw [ix_erase, if_pos h1], ?_⟩
                  rw [if_neg (show ¬ q + 1 = l.length by omega)] at e2 ⊢
                  rw [nxN_eq (by omega), if_neg (by omega), ix_erase, if_pos (by omega)]
                · refine ⟨q - 1, by omega, by rw [ix_erase, if_neg (by omega), show q - 1 + 1 = q by omega], ?_⟩
                  by_cases h2 : q + 1 = l.length
                  · rw [if_pos h2] at e2 ⊢
                    rw [nxN_eq (by omega), if_pos (by omega), ix_erase, if_pos (by omega)]
                  · rw [if_neg h2]
                    rw [nxN_eq (by omega), if_neg (by omega), ix_erase, if_neg (by omega), show q - 1 + 1 + 1 = q + 1 by omega]
              obtain ⟨q', hq', e3, e4⟩ := hq3
              have := hd q' hq'
              rw [e3, e4] at this
              exact this
        · refine ⟨?_, hs⟩
          rw [hc]
          refine ⟨x, y, z, et, hxy, hyz, hzn, ?_⟩
          rcases hr with ⟨h1, h2, h4⟩ | ⟨h1, h2, h4⟩ | ⟨h1, h2, h4⟩
          · rw [h1] at hi hij; rw [h2] at hbm; rw [h4] at hj hij
            exact .inr (.inl ⟨hbm, hi, hj, hij⟩)
          · rw [h1] at hi hij; rw [h2] at hbm; rw [h4] at hj hij
            exact .inl ⟨hbm, hj, hi, fun e => hij e.symm⟩
          · rw [h1] at hi hij; rw [h2] at hbm; rw [h4] at hj hij
            exact .inr (.inr ⟨hbm, hj, hi, fun e => hij e.symm⟩)

/-- The colors of a room's corners. -/
def colL (ps : List (Int × Int)) : List Int := colF ps.length (trisL ps)
theorem colL_nil {ps : List (Int × Int)} (h : trisL ps = []) : colL ps = [] := by unfold colL; rw [h]; rfl
theorem trisL_some {ps : List (Int × Int)} (h : trisL ps ≠ []) : roomB ps = true ∧ trisF ps (List.range ps.length) = some (trisL ps) := by
  unfold trisL at h ⊢
  cases hr : roomB ps
  · rw [hr] at h; simp at h
  · rw [hr] at h
    cases hf : trisF ps (List.range ps.length) with
    | none => rw [hf] at h; simp at h
    | some L => simp
theorem col_all {ps : List (Int × Int)} (h : trisL ps ≠ []) (h3 : 3 ≤ ps.length) : (colL ps).length = ps.length ∧ (∀ k, k < ps.length → Has (colL ps) k) ∧ Steps ps.length (trisL ps) := by
  obtain ⟨hr, hf⟩ := trisL_some h
  obtain ⟨_, _, hh, _, hs⟩ := col_main ps.length (List.range ps.length) (trisL ps) (by simp) h3 (asc_range _) hf
  refine ⟨colF_len _ _ h, ?_, hs⟩
  intro k hk
  have := hh k (by simpa using hk)
  rw [ix_range hk] at this
  exact this
end Go.Proofs.YtkcodmafakjkfaaGreat.ColMath

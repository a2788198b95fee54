/-
  Plain facts on sights: the landed way to ask (pieces of a doubled way) and the model's (free pairs) agree. No program stands here.
-/
import Derived.Test.YtonbpmabmjhdgabCutsMath
import Derived.Test.YtonbpmabmjhdgabFloorMath
namespace Go.Proofs.Ytonbpmabmjhdgab.SightMath
open PointMath WallMath RoomMath AreaMath PlaceMath FloorMath LineMath CutsMath

def dblP (p : Int × Int) : Int × Int := (2 * p.1, 2 * p.2)
def dblL (cs : List (Int × Int)) : List (Int × Int) := cs.map dblP
theorem dblL_len (cs : List (Int × Int)) : (dblL cs).length = cs.length := by unfold dblL; simp
theorem dblL_pt (cs : List (Int × Int)) (k : Nat) : pt (dblL cs) k = dblP (pt cs k) := by
  unfold pt dblL
  rw [List.getD_eq_getElem?_getD, List.getD_eq_getElem?_getD, List.getElem?_map]
  cases cs[k]? <;> rfl
theorem turn_dbl (a b c : Int × Int) : turnP (dblP a) (dblP b) (dblP c) = 4 * turnP a b c := by
  unfold turnP turnI dblP
  simp only
  grind
theorem mid_dbl (x a b : Int) : midB (2 * x) (2 * a) (2 * b) = midB x a b := by
  unfold midB
  rw [Bool.eq_iff_iff, decide_eq_true_eq, decide_eq_true_eq]
  omega
theorem btw_dbl (p a b : Int × Int) : btwP (dblP p) (dblP a) (dblP b) = btwP p a b := by
  have h := turn_dbl a b p
  unfold turnP at h
  unfold btwP btwB
  rw [h]
  unfold dblP
  simp only
  rw [mid_dbl, mid_dbl]
  congr 2
  rw [Bool.eq_iff_iff, decide_eq_true_eq, decide_eq_true_eq]
  omega
theorem sep_four (s t : Int) : sepB (4 * s) (4 * t) = sepB s t := by
  unfold sepB
  rw [Bool.eq_iff_iff]
  simp only [Bool.or_eq_true, Bool.and_eq_true, decide_eq_true_eq]
  omega
theorem cut_dbl (a b c d : Int × Int) : cutP (dblP a) (dblP b) (dblP c) (dblP d) = cutP a b c d := by
  have h1 := turn_dbl a b c
  have h2 := turn_dbl a b d
  have h3 := turn_dbl c d a
  have h4 := turn_dbl c d b
  unfold turnP at h1 h2 h3 h4
  unfold cutP cutW sepW
  rw [h1, h2, h3, h4, sep_four, sep_four]
theorem cross_dbl (cs : List (Int × Int)) (a b : Int × Int) : crossM (dblL cs) (dblP a) (dblP b) = crossM cs a b := by
  unfold crossM
  rw [dblL_len]
  congr 1
  funext k
  unfold cutK
  rw [dblL_len, dblL_pt, dblL_pt, cut_dbl]
theorem rise_dbl (a b p : Int × Int) : riseS (dblP a) (dblP b) (dblP p) = riseS a b p := by
  unfold riseS
  rw [turn_dbl]
  unfold dblP
  simp only
  rw [Bool.eq_iff_iff]
  simp only [Bool.or_eq_true, Bool.and_eq_true, decide_eq_true_eq]
  omega
theorem par_dbl (cs : List (Int × Int)) (p : Int × Int) : ∀ k, parS (dblL cs) (dblP p) k = parS cs p k
  | 0 => rfl
  | k + 1 => by
    simp only [parS]
    rw [par_dbl cs p k, dblL_len, dblL_pt, dblL_pt, rise_dbl]
theorem onK_dbl (cs : List (Int × Int)) (p : Int × Int) (k : Nat) : onK (dblL cs) (dblP p) k = onK cs p k := by
  unfold onK
  rw [dblL_len, dblL_pt, dblL_pt, btw_dbl]
theorem place_dbl (cs : List (Int × Int)) (p : Int × Int) : placeM (dblL cs) (dblP p) = placeM cs p := by
  unfold placeM onAny
  rw [dblL_len, par_dbl]
  have : (fun k => onK (dblL cs) (dblP p) k) = fun k => onK cs p k := funext fun k => onK_dbl cs p k
  rw [this]

def dblW (q : (Int × Int) × (Int × Int)) : (Int × Int) × (Int × Int) := (dblP q.1, dblP q.2)
theorem gt_dbl (L : List ((Int × Int) × (Int × Int))) (j : Nat) : gt (L.map dblW) j = dblW (gt L j) := by
  unfold gt
  rw [List.getD_eq_getElem?_getD, List.getD_eq_getElem?_getD, List.getElem?_map]
  cases L[j]? <;> rfl
theorem first_dbl (L : List ((Int × Int) × (Int × Int))) (p : Int × Int) : firstH (L.map dblW) (dblP p) = firstH L p := by
  unfold firstH
  rw [List.length_map]
  congr 1
  funext j
  unfold holdK
  rw [gt_dbl]
  exact btw_dbl _ _ _
theorem split_dbl (L : List ((Int × Int) × (Int × Int))) (p : Int × Int) : split (L.map dblW) (dblP p) = (split L p).map dblW := by
  cases h : firstH L p with
  | none => rw [split_none h, split_none (by rw [first_dbl]; exact h)]
  | some k =>
    rw [split_some h, split_some (k := k) (by rw [first_dbl]; exact h), gt_dbl, List.map_append, List.map_set]
    rfl
theorem cutTo_dbl (cs : List (Int × Int)) (a b : Int × Int) : ∀ k, cutTo (dblL cs) (dblP a, dblP b) k = (cutTo cs (a, b) k).map dblW
  | 0 => rfl
  | k + 1 => by
    simp only [cutTo]
    rw [cutTo_dbl cs a b k, dblL_pt, split_dbl]
/-- The middle of a piece, as the landed code counts. -/
def midP (q : (Int × Int) × (Int × Int)) : Int × Int := ((q.1.1 + q.2.1).tdiv 2, (q.1.2 + q.2.2).tdiv 2)
theorem tdiv_two (a b : Int) : (2 * a + 2 * b).tdiv 2 = a + b := by
  rw [← Int.mul_add]
  exact Int.mul_tdiv_cancel_left _ (by omega)
theorem mid_add (q : (Int × Int) × (Int × Int)) : midP (dblW q) = addP q.1 q.2 := by
  unfold midP dblW dblP addP
  simp only
  rw [tdiv_two, tdiv_two]

/-- Is the way free? As the landed code asks. -/
def clearI (cs : List (Int × Int)) (a b : Int × Int) : Bool :=
  decide (crossM cs a b < 0) && (List.range (cutTo cs (a, b) cs.length).length).all fun j => decide (placeM cs (midP (gt (cutTo cs (a, b) cs.length) j)) ≠ 0)
def pairB (cs C : List (Int × Int)) (i k : Nat) : Bool := !freeB C i k || decide (placeM (dblL cs) (addP (pt C i) (pt C k)) ≠ 0)
def pairsB (cs C : List (Int × Int)) : Bool := (List.range C.length).all fun i => (List.range i).all fun k => pairB cs C i k
/-- As the model asks. -/
def seesM (cs : List (Int × Int)) (a b : Int × Int) : Bool := decide (crossM cs a b < 0) && pairsB cs (cutsTo cs a b cs.length)

/-- The corners of a room differ. -/
theorem room_once {cs : List (Int × Int)} (h : roomB cs = true) : Once cs := by
  obtain ⟨h1, h2, h3, _⟩ := roomB_yes h
  have key : ∀ i j, i < j → j < cs.length → pt cs i ≠ pt cs j := by
    intro i j hij hj e
    have hi : i < cs.length := by omega
    have w1 := corner_wall h hi
    have w2 := corner_wall h hj
    by_cases hn : nearB cs.length i j = true
    · unfold nearB at hn
      simp only [Bool.or_eq_true, decide_eq_true_eq] at hn
      have nw : ∀ k, k < cs.length → pt cs k ≠ pt cs ((k + 1) % cs.length) := by
        intro k hk e2
        have := (okW_parts (corner_wall h hk)).2.2
        rw [← e2] at this
        exact this ⟨rfl, rfl⟩
      rcases hn with (hn | hn) | hn
      · omega
      · have := nw j hj
        rw [hn] at this
        exact this e.symm
      · have := nw i hi
        rw [hn] at this
        exact this e
    · have hr := h3 i hi
      unfold roundB at hr
      simp only [Bool.and_eq_true, List.all_eq_true] at hr
      have hm := hr.2 j (List.mem_range.2 hj)
      have hm2 : meetAt cs i j = false := by simpa [hn] using hm
      unfold meetAt meetP at hm2
      rw [meetB_meet2 w1 w2] at hm2
      unfold meet2 at hm2
      simp only [Bool.or_eq_false_iff] at hm2
      have hb := hm2.1.2.1
      have := btw_left (pt cs i) (pt cs ((i + 1) % cs.length))
      rw [e] at this hb
      unfold btwP at this
      rw [this] at hb
      cases hb
  intro i hi j hj e
  rcases Nat.lt_trichotomy i j with g | g | g
  · exact absurd e (key i j g hj)
  · exact g
  · exact absurd e.symm (key j i g hi)

theorem corner_on {cs : List (Int × Int)} {k : Nat} (hk : k < cs.length) : placeM cs (pt cs k) ≠ 0 := by
  rw [placeM_on hk (by unfold onK; exact btw_left _ _)]
  decide
theorem add_dbl (p : Int × Int) : addP p p = dblP p := by
  unfold addP dblP
  exact Prod.ext (by simp only; omega) (by simp only; omega)
theorem pairs_iff (cs C : List (Int × Int)) : pairsB cs C = true ↔ ∀ i, i < C.length → ∀ k, k < i → freeB C i k = true → decide (placeM (dblL cs) (addP (pt C i) (pt C k)) ≠ 0) = true := by
  unfold pairsB pairB
  rw [List.all_eq_true]
  constructor
  · intro h i hi k hk hf
    have h1 := h i (List.mem_range.2 hi)
    rw [List.all_eq_true] at h1
    have h2 := h1 k (List.mem_range.2 hk)
    rw [hf] at h2
    simpa using h2
  · intro h i hi
    rw [List.all_eq_true]
    intro k hk
    cases hf : freeB C i k
    · rfl
    · rw [h i (List.mem_range.1 hi) k (List.mem_range.1 hk) hf]; rfl
/-- The two ways to ask agree. -/
theorem clear_sees {cs : List (Int × Int)} (h : roomB cs = true) {a b : Int × Int} (ha : placeM cs a ≠ 0) (hb : placeM cs b ≠ 0) :
    clearI (dblL cs) (dblP a) (dblP b) = seesM cs a b := by
  unfold clearI seesM
  rw [cross_dbl, dblL_len, cutTo_dbl, List.length_map]
  congr 1
  rw [Bool.eq_iff_iff, pairs_iff]
  have hF : ∀ s, onWay cs a b cs.length s → decide (placeM (dblL cs) (addP s s) ≠ 0) = true := by
    intro s hs
    rw [add_dbl, place_dbl, decide_eq_true_eq]
    rcases hs with rfl | rfl | ⟨j, hj, rfl, _⟩
    · exact ha
    · exact hb
    · exact corner_on hj
  rw [List.all_eq_true]
  simp only [List.mem_range, gt_dbl, mid_add]
  by_cases e : a = b
  · subst e
    have hm : ∀ s, s ∈ cutsTo cs a a cs.length → s = a := by
      intro s hs
      rcases (cutsTo_mem cs a a cs.length s).1 hs with h1 | h1 | ⟨_, _, _, h1⟩
      · exact h1
      · exact h1
      · exact btw_self h1
    constructor
    · intro _ i hi k hk _
      rw [hm _ (pt_mem hi), hm _ (pt_mem (show k < (cutsTo cs a a cs.length).length by omega))]
      exact hF a (.inl rfl)
    · intro _ j hj
      rw [cut_point cs cs.length j hj]
      exact hF a (.inl rfl)
  · exact pieces_pairs (F := fun s => decide (placeM (dblL cs) s ≠ 0)) e (cut_inv e cs cs.length) (cutsTo_mem cs a b cs.length) (cutsTo_once e (room_once h) cs.length (Nat.le_refl _)) hF

def seesB (ps : List (Int × Int)) (ax ay bx bY : Int) : Bool := inB ps ax ay && inB ps bx bY && seesM ps (ax, ay) (bx, bY)
theorem inB_place {ps : List (Int × Int)} {x y : Int} (h : inB ps x y = true) : placeM ps (x, y) ≠ 0 := by
  have hp := inB_parts h
  unfold inB placeI at h
  rw [hp.1, hp.2] at h
  simpa using h

/-- The first k corners, doubled. -/
def bigTo (ps : List (Int × Int)) : Nat → List (Int × Int)
  | 0 => []
  | k + 1 => bigTo ps k ++ [dblP (pt ps k)]
theorem bigTo_len (ps : List (Int × Int)) : ∀ k, (bigTo ps k).length = k
  | 0 => rfl
  | k + 1 => by simp [bigTo, bigTo_len ps k]
theorem pt_take {ps : List (Int × Int)} {k : Nat} (hk : k < ps.length) : ps.take (k + 1) = ps.take k ++ [pt ps k] := by
  rw [List.take_succ_eq_append_getElem hk]
  have := pt_at hk
  rw [List.getElem?_eq_getElem hk] at this
  injection this with this
  rw [this]
theorem bigTo_take (ps : List (Int × Int)) : ∀ k, k ≤ ps.length → bigTo ps k = dblL (ps.take k)
  | 0, _ => rfl
  | k + 1, hk => by
    rw [pt_take (by omega)]
    simp only [bigTo]
    rw [bigTo_take ps k (by omega)]
    simp [dblL]
theorem bigTo_all {ps : List (Int × Int)} {n : Nat} (h : ps.length = n) : bigTo ps n = dblL ps := by
  rw [bigTo_take ps n (by omega), ← h, List.take_length]
/-- Is no other of the first j points between these two? -/
def freeTo (C : List (Int × Int)) (i k : Nat) : Nat → Bool
  | 0 => true
  | j + 1 => freeTo C i k j && (decide (j = i) || decide (j = k) || !btwP (pt C j) (pt C i) (pt C k))
theorem freeTo_iff (C : List (Int × Int)) (i k : Nat) : ∀ n, freeTo C i k n = (List.range n).all fun j => decide (j = i) || decide (j = k) || !btwP (pt C j) (pt C i) (pt C k)
  | 0 => rfl
  | n + 1 => by
    simp only [freeTo]
    rw [freeTo_iff C i k n, List.range_succ, List.all_append]
    simp
theorem freeTo_B (C : List (Int × Int)) (i k : Nat) : freeTo C i k C.length = freeB C i k := freeTo_iff C i k C.length
theorem pairs_at {cs C : List (Int × Int)} {i k : Nat} (hi : i < C.length) (hk : k < i) (h : pairB cs C i k = false) : pairsB cs C = false := by
  unfold pairsB
  rw [List.all_eq_false]
  refine ⟨i, List.mem_range.2 hi, ?_⟩
  rw [Bool.not_eq_true, List.all_eq_false]
  exact ⟨k, List.mem_range.2 hk, by simp [h]⟩
theorem pairs_of {cs C : List (Int × Int)} (h : ∀ i, i < C.length → ∀ k, k < i → pairB cs C i k = true) : pairsB cs C = true := by
  unfold pairsB
  rw [List.all_eq_true]
  intro i hi
  rw [List.all_eq_true]
  exact fun k hk => h i (List.mem_range.1 hi) k (List.mem_range.1 hk)
theorem sees_cut {cs : List (Int × Int)} {a b : Int × Int} {k : Nat} (hk : k < cs.length) (h : cutK cs a b k = true) : seesM cs a b = false := by
  unfold seesM crossM
  have : (0 : Int) ≤ firstI cs.length (cutK cs a b) := by
    unfold firstI
    cases e : (List.range cs.length).find? (cutK cs a b)
    · rw [List.find?_eq_none] at e
      exact absurd h (e k (List.mem_range.2 hk))
    · simp
  rw [show decide (firstI cs.length (cutK cs a b) < 0) = false from decide_eq_false (by omega)]
  rfl
theorem sees_free {cs : List (Int × Int)} {a b : Int × Int} (h : ∀ k, k < cs.length → cutK cs a b k = false) : seesM cs a b = pairsB cs (cutsTo cs a b cs.length) := by
  unfold seesM crossM
  rw [firstI_none h]
  rfl
theorem cuts_ok {cs : List (Int × Int)} {ax ay bx bY : Int} (h : okAll cs = true) (ha : okP ax ay = true) (hb : okP bx bY = true) {k j : Nat} (hk : k ≤ cs.length) (hj : j < (cutsTo cs (ax, ay) (bx, bY) k).length) :
    okP (pt (cutsTo cs (ax, ay) (bx, bY) k) j).1 (pt (cutsTo cs (ax, ay) (bx, bY) k) j).2 = true := by
  rcases (cutsTo_mem cs _ _ k _).1 (pt_mem hj) with e | e | ⟨i, hi, e, _⟩
  · rw [e]; exact ha
  · rw [e]; exact hb
  · rw [e]; exact okAll_at h (by omega)
theorem dbl_small {cs : List (Int × Int)} (h : okAll cs = true) : smAll (dblL cs) := by
  intro k hk
  rw [dblL_len] at hk
  have := okP_yes (okAll_at h hk)
  rw [dblL_pt]
  unfold smP dblP
  simp only
  omega
theorem okP_dbl {x y : Int} (h : okP x y = true) : smP (2 * x) (2 * y) := by
  have := okP_yes h
  unfold smP
  omega
/-- What the model asks of a pair that is free. -/
theorem pair_free {cs C : List (Int × Int)} {i k : Nat} (h : freeB C i k = true) : pairB cs C i k = decide (placeM (dblL cs) (addP (pt C i) (pt C k)) ≠ 0) := by
  unfold pairB; rw [h]; rfl
theorem pair_off {cs C : List (Int × Int)} {i k : Nat} (h : freeB C i k = false) : pairB cs C i k = true := by
  unfold pairB; rw [h]; rfl

theorem rowTo_in {ps : List (Int × Int)} {lx y : Int} : ∀ j p, p ∈ rowTo ps lx y j → lx ≤ p.1 ∧ p.1 < lx + j ∧ p.2 = y ∧ placeM ps p ≠ 0
  | 0, p, hp => by simp [rowTo] at hp
  | j + 1, p, hp => by
    simp only [rowTo] at hp
    split at hp
    · have := rowTo_in j p hp
      omega
    · rename_i h
      rcases List.mem_append.1 hp with h2 | h2
      · have := rowTo_in j p h2
        omega
      · simp at h2
        subst h2
        exact ⟨by simp only; omega, by simp only; omega, rfl, h⟩
theorem floorTo_in {ps : List (Int × Int)} {lx ly : Int} {w : Nat} : ∀ i p, p ∈ floorTo ps lx ly w i → (lx ≤ p.1 ∧ p.1 < lx + w) ∧ (ly ≤ p.2 ∧ p.2 < ly + i) ∧ placeM ps p ≠ 0
  | 0, p, hp => by simp [floorTo] at hp
  | i + 1, p, hp => by
    simp only [floorTo] at hp
    rcases List.mem_append.1 hp with h2 | h2
    · have := floorTo_in i p h2
      omega
    · have := rowTo_in w p h2
      omega
/-- The points of a floor are in the room. -/
theorem floorL_in {ps : List (Int × Int)} {p : Int × Int} (hp : p ∈ floorL ps) : inB ps p.1 p.2 = true := by
  unfold floorL at hp
  cases h : roomB ps
  · rw [h] at hp; simp at hp
  · rw [h] at hp
    simp only [if_true] at hp
    obtain ⟨h3, hok, _, _⟩ := roomB_yes h
    have hb := boxTo_bound hok (by omega) ps.length (Nat.le_refl _)
    have hi := floorTo_in _ p hp
    unfold widthI heightI at hi
    unfold inB placeI
    rw [h, okP_true (by omega) (by omega) (by omega) (by omega)]
    simpa using hi.2.2
theorem corner_in {ps : List (Int × Int)} (h : roomB ps = true) {k : Nat} (hk : k < ps.length) : inB ps (pt ps k).1 (pt ps k).2 = true := by
  unfold inB placeI
  rw [h, okAll_at (roomB_yes h).2.1 hk]
  simpa using corner_on hk
/-- Those of the first k points that are seen from a. -/
def seenTo (ps : List (Int × Int)) (a : Int × Int) (l : List (Int × Int)) : Nat → List (Int × Int)
  | 0 => []
  | k + 1 => if seesM ps a (pt l k) then seenTo ps a l k ++ [pt l k] else seenTo ps a l k
def seenL (ps : List (Int × Int)) (x y : Int) : List (Int × Int) := if inB ps x y then seenTo ps (x, y) (floorL ps) (floorL ps).length else []
theorem seenTo_len (ps : List (Int × Int)) (a : Int × Int) (l : List (Int × Int)) : ∀ k, (seenTo ps a l k).length ≤ k
  | 0 => by simp [seenTo]
  | k + 1 => by
    have := seenTo_len ps a l k
    simp only [seenTo]
    split
    · simp; omega
    · omega
theorem seenL_le (ps : List (Int × Int)) (x y : Int) : (seenL ps x y).length ≤ 1048576 := by
  unfold seenL
  split
  · exact Nat.le_trans (seenTo_len ps (x, y) (floorL ps) _) (floorL_le ps)
  · simp
/-- Those of the first k corners that are seen from a. -/
def cornTo (ps : List (Int × Int)) (a : Int × Int) : Nat → List Int
  | 0 => []
  | k + 1 => if seesM ps a (pt ps k) then cornTo ps a k ++ [(k : Int)] else cornTo ps a k
def cornL (ps : List (Int × Int)) (x y : Int) : List Int := if inB ps x y then cornTo ps (x, y) ps.length else []
theorem cornTo_len (ps : List (Int × Int)) (a : Int × Int) : ∀ k, (cornTo ps a k).length ≤ k
  | 0 => by simp [cornTo]
  | k + 1 => by
    have := cornTo_len ps a k
    simp only [cornTo]
    split
    · simp; omega
    · omega
theorem cornL_le (ps : List (Int × Int)) (x y : Int) : (cornL ps x y).length ≤ 1048576 := by
  unfold cornL
  split
  · rename_i h
    have := (roomB_yes (inB_parts h).1).1
    have := cornTo_len ps (x, y) ps.length
    omega
  · simp
/-- The landed way to ask, for points of the room. -/
theorem clear_in {ps : List (Int × Int)} {ax ay bx bY : Int} (ha : inB ps ax ay = true) (hb : inB ps bx bY = true) : clearI (dblL ps) (2 * ax, 2 * ay) (2 * bx, 2 * bY) = seesM ps (ax, ay) (bx, bY) :=
  clear_sees (inB_parts ha).1 (a := (ax, ay)) (b := (bx, bY)) (inB_place ha) (inB_place hb)
end Go.Proofs.Ytonbpmabmjhdgab.SightMath

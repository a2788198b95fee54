/-
  Plain facts on a way that is cut at corners: its pieces, one after the other, are the pairs of neighbors. No program stands here.
-/
import Derived.Test.YtonbpmabmjhdgabLineMath
namespace Go.Proofs.Ytonbpmabmjhdgab.CutsMath
open PointMath WallMath RoomMath AreaMath PlaceMath LineMath

def gt (L : List ((Int × Int) × (Int × Int))) (j : Nat) : (Int × Int) × (Int × Int) := L.getD j ((0, 0), (0, 0))
def holdK (L : List ((Int × Int) × (Int × Int))) (p : Int × Int) (j : Nat) : Bool := btwP p (gt L j).1 (gt L j).2
def firstH (L : List ((Int × Int) × (Int × Int))) (p : Int × Int) : Option Nat := (List.range L.length).find? (holdK L p)
/-- The first piece that holds the point is cut there. -/
def split (L : List ((Int × Int) × (Int × Int))) (p : Int × Int) : List ((Int × Int) × (Int × Int)) :=
  match firstH L p with
  | none => L
  | some k => L.set k ((gt L k).1, p) ++ [(p, (gt L k).2)]
/-- The pieces after the first k corners. -/
def cutTo (cs : List (Int × Int)) (w : (Int × Int) × (Int × Int)) : Nat → List ((Int × Int) × (Int × Int))
  | 0 => [w]
  | k + 1 => split (cutTo cs w k) (pt cs k)

theorem split_none {L : List ((Int × Int) × (Int × Int))} {p : Int × Int} (h : firstH L p = none) : split L p = L := by unfold split; rw [h]
theorem split_some {L : List ((Int × Int) × (Int × Int))} {p : Int × Int} {k : Nat} (h : firstH L p = some k) : split L p = L.set k ((gt L k).1, p) ++ [(p, (gt L k).2)] := by unfold split; rw [h]
theorem firstH_some {L : List ((Int × Int) × (Int × Int))} {p : Int × Int} {k : Nat} (h : firstH L p = some k) : k < L.length ∧ holdK L p k = true := by
  unfold firstH at h
  rw [List.find?_range_eq_some] at h
  exact ⟨List.mem_range.1 h.2.1, h.1⟩
theorem firstH_none {L : List ((Int × Int) × (Int × Int))} {p : Int × Int} (h : firstH L p = none) {k : Nat} (hk : k < L.length) : holdK L p k = false := by
  unfold firstH at h
  rw [List.find?_eq_none] at h
  simpa using h k (List.mem_range.2 hk)
theorem firstH_at {L : List ((Int × Int) × (Int × Int))} {p : Int × Int} {k : Nat} (hk : k < L.length) (h : holdK L p k = true) (h2 : ∀ j, j < k → holdK L p j = false) : firstH L p = some k := by
  unfold firstH
  rw [List.find?_range_eq_some]
  exact ⟨h, List.mem_range.2 hk, fun j hj => by simp [h2 j hj]⟩
theorem firstH_of {L : List ((Int × Int) × (Int × Int))} {p : Int × Int} (h : ∀ j, j < L.length → holdK L p j = false) : firstH L p = none := by
  unfold firstH
  rw [List.find?_eq_none]
  intro k hk
  simp [h k (List.mem_range.1 hk)]
theorem split_len {L : List ((Int × Int) × (Int × Int))} {p : Int × Int} : L.length ≤ (split L p).length ∧ (split L p).length ≤ L.length + 1 := by
  cases h : firstH L p
  · rw [split_none h]; omega
  · rw [split_some h]; simp
theorem cutTo_len (cs : List (Int × Int)) (w : (Int × Int) × (Int × Int)) : ∀ k, 1 ≤ (cutTo cs w k).length ∧ (cutTo cs w k).length ≤ k + 1
  | 0 => by simp [cutTo]
  | k + 1 => by
    have := cutTo_len cs w k
    have := split_len (L := cutTo cs w k) (p := pt cs k)
    simp only [cutTo]
    omega
theorem gt_set {L : List ((Int × Int) × (Int × Int))} {k j : Nat} {x y : (Int × Int) × (Int × Int)} (hk : k < L.length) :
    gt (L.set k x ++ [y]) j = if j = k then x else if j = L.length then y else gt L j := by
  unfold gt
  rw [List.getD_eq_getElem?_getD, List.getD_eq_getElem?_getD, List.getElem?_append, List.length_set]
  by_cases h1 : j < L.length
  · rw [if_pos h1, List.getElem?_set]
    by_cases h2 : j = k
    · subst h2; simp [h1]
    · rw [if_neg (fun e => h2 e.symm), if_neg h2, if_neg (by omega)]
  · rw [if_neg h1, if_neg (show ¬ j = k by omega)]
    by_cases h3 : j = L.length
    · subst h3; simp
    · rw [if_neg h3, List.getElem?_eq_none (by simp; omega), List.getElem?_eq_none (by omega)]

/-- The pieces of the way a-b that is cut at the points of S. -/
structure Inv (a b : Int × Int) (S : Int × Int → Prop) (L : List ((Int × Int) × (Int × Int))) : Prop where
  on : ∀ s, S s → turnP a b s = 0 ∧ 0 ≤ tI a b s ∧ tI a b s ≤ tI a b b
  sb : S b
  ends : ∀ j, j < L.length → S (gt L j).1 ∧ S (gt L j).2
  ord : ∀ j, j < L.length → tI a b (gt L j).1 ≤ tI a b (gt L j).2
  empt : ∀ j, j < L.length → ∀ s, S s → tI a b (gt L j).1 ≤ tI a b s → tI a b s ≤ tI a b (gt L j).2 → s = (gt L j).1 ∨ s = (gt L j).2
  cov : ∀ t, 0 ≤ t → t < tI a b b → ∃ j, j < L.length ∧ tI a b (gt L j).1 ≤ t ∧ t < tI a b (gt L j).2
  dis : ∀ i, i < L.length → ∀ j, j < L.length → i ≠ j → ∀ t, tI a b (gt L i).1 ≤ t → t ≤ tI a b (gt L i).2 → tI a b (gt L j).1 ≤ t → t ≤ tI a b (gt L j).2 → t = tI a b (gt L i).1 ∨ t = tI a b (gt L i).2

theorem Inv.hold {a b : Int × Int} {S : Int × Int → Prop} {L : List ((Int × Int) × (Int × Int))} (hab : a ≠ b) (I : Inv a b S L) {p : Int × Int} {j : Nat} (hj : j < L.length) :
    holdK L p j = true ↔ turnP a b p = 0 ∧ tI a b (gt L j).1 ≤ tI a b p ∧ tI a b p ≤ tI a b (gt L j).2 := by
  have e := I.ends j hj
  have o := I.ord j hj
  have h1 := (I.on _ e.1).1
  have h2 := (I.on _ e.2).1
  constructor
  · intro h
    have hp := btw_on hab h1 h2 h
    have := (btw_iff hab hp h1 h2).1 h
    exact ⟨hp, by omega⟩
  · rintro ⟨hp, h3⟩
    exact (btw_iff hab hp h1 h2).2 (.inl h3)

theorem inv_start {a b : Int × Int} (hab : a ≠ b) : Inv a b (fun s => s = a ∨ s = b) [(a, b)] := by
  have e := turn_ends a b
  have t := tI_ends hab
  have g : gt [(a, b)] 0 = (a, b) := rfl
  refine ⟨?_, .inr rfl, ?_, ?_, ?_, ?_, ?_⟩
  · rintro s (rfl | rfl)
    · exact ⟨e.1, by omega, by omega⟩
    · exact ⟨e.2, by omega, by omega⟩
  · intro j hj
    obtain rfl : j = 0 := by simpa using hj
    rw [g]; exact ⟨.inl rfl, .inr rfl⟩
  · intro j hj
    obtain rfl : j = 0 := by simpa using hj
    rw [g]; simp only; omega
  · intro j hj s hs _ _
    obtain rfl : j = 0 := by simpa using hj
    rw [g]; exact hs
  · intro x h1 h2
    refine ⟨0, by simp, ?_⟩
    rw [g]; simp only; omega
  · intro i hi j hj hne
    have : i = 0 := by simpa using hi
    have : j = 0 := by simpa using hj
    omega

theorem inv_step {a b : Int × Int} (hab : a ≠ b) {S : Int × Int → Prop} {L : List ((Int × Int) × (Int × Int))} (I : Inv a b S L) (p : Int × Int) :
    Inv a b (fun s => S s ∨ (s = p ∧ btwP p a b = true)) (split L p) := by
  have te := turn_ends a b
  have ta := tI_ends hab
  cases h : firstH L p with
  | none =>
    rw [split_none h]
    have hs : ∀ s, (S s ∨ (s = p ∧ btwP p a b = true)) → S s := by
      rintro s (hs | ⟨rfl, hp⟩)
      · exact hs
      · have hl := btw_line hp
        have ht := (btw_iff hab hl te.1 te.2).1 hp
        by_cases e : tI a b s = tI a b b
        · rw [line_inj hab hl te.2 e]; exact I.sb
        · obtain ⟨j, hj, h1, h2⟩ := I.cov (tI a b s) (by omega) (by omega)
          have := (I.hold hab hj).2 ⟨hl, h1, by omega⟩
          rw [firstH_none h hj] at this
          cases this
    exact ⟨fun s q => I.on s (hs s q), .inl I.sb, fun j hj => ⟨.inl (I.ends j hj).1, .inl (I.ends j hj).2⟩, I.ord, fun j hj s q => I.empt j hj s (hs s q), I.cov, I.dis⟩
  | some k =>
    obtain ⟨hk, hh⟩ := firstH_some h
    rw [split_some h]
    obtain ⟨hl, hu, hv⟩ := (I.hold hab hk).1 hh
    have ek := I.ends k hk
    have ou := I.on _ ek.1
    have ov := I.on _ ek.2
    have hp : btwP p a b = true := (btw_iff hab hl te.1 te.2).2 (by omega)
    have G := fun j => gt_set (L := L) (k := k) (j := j) (x := ((gt L k).1, p)) (y := (p, (gt L k).2)) hk
    have hlen : (L.set k ((gt L k).1, p) ++ [(p, (gt L k).2)]).length = L.length + 1 := by simp
    have D1 := fun j hj hne => I.dis k hk j hj hne
    have D2 := fun j hj hne => I.dis j hj k hk hne
    have E := I.empt k hk
    generalize hgk : gt L k = q at *
    obtain ⟨u, v⟩ := q
    simp only at hu hv ek ou ov G hlen D1 D2 E ⊢
    generalize hN : L.set k (u, p) ++ [(p, v)] = N at *
    have Gk : gt N k = (u, p) := by rw [G, if_pos rfl]
    have Gl : gt N L.length = (p, v) := by rw [G, if_neg (by omega), if_pos rfl]
    have Go : ∀ j, j < L.length → j ≠ k → gt N j = gt L j := fun j hj hne => by rw [G, if_neg hne, if_neg (by omega)]
    have cases3 : ∀ j, j < N.length → j = k ∨ j = L.length ∨ (j < L.length ∧ j ≠ k) := fun j hj => by omega
    refine ⟨?_, .inl I.sb, ?_, ?_, ?_, ?_, ?_⟩
    · rintro s (hs | ⟨rfl, _⟩)
      · exact I.on s hs
      · exact ⟨hl, by omega, by omega⟩
    · intro j hj
      rcases cases3 j hj with rfl | rfl | ⟨hj, hne⟩
      · rw [Gk]; exact ⟨.inl ek.1, .inr ⟨rfl, hp⟩⟩
      · rw [Gl]; exact ⟨.inr ⟨rfl, hp⟩, .inl ek.2⟩
      · rw [Go j hj hne]; exact ⟨.inl (I.ends j hj).1, .inl (I.ends j hj).2⟩
    · intro j hj
      rcases cases3 j hj with rfl | rfl | ⟨hj, hne⟩
      · rw [Gk]; exact hu
      · rw [Gl]; exact hv
      · rw [Go j hj hne]; exact I.ord j hj
    · intro j hj s hs
      rcases cases3 j hj with rfl | rfl | ⟨hj, hne⟩
      · rw [Gk]; simp only
        intro h1 h2
        rcases hs with hs | ⟨rfl, _⟩
        · rcases E s hs h1 (by omega) with e | e
          · exact .inl e
          · subst e
            exact .inr (line_inj hab ov.1 hl (by omega))
        · exact .inr rfl
      · rw [Gl]; simp only
        intro h1 h2
        rcases hs with hs | ⟨rfl, _⟩
        · rcases E s hs (by omega) h2 with e | e
          · subst e
            exact .inl (line_inj hab ou.1 hl (by omega))
          · exact .inr e
        · exact .inl rfl
      · rw [Go j hj hne]
        intro h1 h2
        rcases hs with hs | ⟨rfl, _⟩
        · exact I.empt j hj s hs h1 h2
        · have en := I.ends j hj
          rcases D2 j hj hne (tI a b s) h1 h2 hu hv with e | e
          · exact .inl (line_inj hab hl (I.on _ en.1).1 e)
          · exact .inr (line_inj hab hl (I.on _ en.2).1 e)
    · intro t h1 h2
      obtain ⟨j, hj, h3, h4⟩ := I.cov t h1 h2
      by_cases e : j = k
      · subst e
        rw [hgk] at h3 h4
        simp only at h3 h4
        by_cases e2 : t < tI a b p
        · exact ⟨j, by omega, by rw [Gk]; exact ⟨h3, e2⟩⟩
        · exact ⟨L.length, by omega, by rw [Gl]; simp only; omega⟩
      · exact ⟨j, by omega, by rw [Go j hj e]; exact ⟨h3, h4⟩⟩
    · intro i hi j hj hij t
      rcases cases3 i hi with rfl | rfl | ⟨hi, hni⟩
      · rcases cases3 j hj with rfl | rfl | ⟨hj, hne⟩
        · exact absurd rfl hij
        · rw [Gk, Gl]; simp only; omega
        · rw [Gk, Go j hj hne]; simp only
          intro h1 h2 h3 h4
          rcases D1 j hj (by omega) t h1 (by omega) h3 h4 with e | e <;> omega
      · rcases cases3 j hj with rfl | rfl | ⟨hj, hne⟩
        · rw [Gk, Gl]; simp only; omega
        · exact absurd rfl hij
        · rw [Gl, Go j hj hne]; simp only
          intro h1 h2 h3 h4
          rcases D1 j hj (by omega) t (by omega) h2 h3 h4 with e | e <;> omega
      · rcases cases3 j hj with rfl | rfl | ⟨hj, hne⟩
        · rw [Gk, Go i hi hni]; simp only
          intro h1 h2 h3 h4
          exact D2 i hi hni t h1 h2 h3 (by omega)
        · rw [Gl, Go i hi hni]; simp only
          intro h1 h2 h3 h4
          exact D2 i hi hni t h1 h2 (by omega) h4
        · rw [Go i hi hni, Go j hj hne]
          exact I.dis i hi j hj hij t

/-- The ends of the way, and those of the first k corners that lie on it. -/
def onWay (cs : List (Int × Int)) (a b : Int × Int) (k : Nat) (s : Int × Int) : Prop := s = a ∨ s = b ∨ ∃ j, j < k ∧ s = pt cs j ∧ btwP s a b = true
theorem Inv.congr {a b : Int × Int} {S S' : Int × Int → Prop} {L : List ((Int × Int) × (Int × Int))} (h : ∀ s, S s ↔ S' s) (I : Inv a b S L) : Inv a b S' L := by
  have : S = S' := funext fun s => propext (h s)
  rw [← this]; exact I
theorem cut_inv {a b : Int × Int} (hab : a ≠ b) (cs : List (Int × Int)) : ∀ k, Inv a b (onWay cs a b k) (cutTo cs (a, b) k)
  | 0 => (inv_start hab).congr (fun s => by unfold onWay; simp)
  | k + 1 => by
    refine (inv_step hab (cut_inv hab cs k) (pt cs k)).congr fun s => ?_
    unfold onWay
    constructor
    · rintro ((h | h | ⟨j, hj, e, hb⟩) | ⟨e, hb⟩)
      · exact .inl h
      · exact .inr (.inl h)
      · exact .inr (.inr ⟨j, by omega, e, hb⟩)
      · exact .inr (.inr ⟨k, by omega, e, by rw [e]; exact hb⟩)
    · rintro (h | h | ⟨j, hj, e, hb⟩)
      · exact .inl (.inl h)
      · exact .inl (.inr (.inl h))
      · by_cases hjk : j = k
        · subst hjk
          exact .inr ⟨e, by rw [← e]; exact hb⟩
        · exact .inl (.inr (.inr ⟨j, by omega, e, hb⟩))
/-- A way of one point has no other pieces. -/
theorem cut_point {a : Int × Int} (cs : List (Int × Int)) : ∀ k j, j < (cutTo cs (a, a) k).length → gt (cutTo cs (a, a) k) j = (a, a)
  | 0, j, hj => by
    obtain rfl : j = 0 := by simpa [cutTo] using hj
    rfl
  | k + 1, j, hj => by
    have ih := cut_point (a := a) cs k
    simp only [cutTo] at hj ⊢
    generalize cutTo cs (a, a) k = L at *
    cases h : firstH L (pt cs k) with
    | none => rw [split_none h] at hj ⊢; exact ih j hj
    | some i =>
      obtain ⟨hi, hh⟩ := firstH_some h
      rw [split_some h] at hj ⊢
      unfold holdK at hh
      rw [ih i hi] at hh ⊢
      have e := btw_self hh
      rw [gt_set hi, e]
      simp at hj
      split
      · rfl
      · split
        · rfl
        · exact ih j (by omega)

def addP (u v : Int × Int) : Int × Int := (u.1 + v.1, u.2 + v.2)
theorem addP_comm (u v : Int × Int) : addP u v = addP v u := by unfold addP; rw [Int.add_comm u.1, Int.add_comm u.2]
/-- The points at which the model cuts the way. -/
def cutsTo (cs : List (Int × Int)) (a b : Int × Int) : Nat → List (Int × Int)
  | 0 => [a, b]
  | k + 1 => if decide (pt cs k ≠ a) && decide (pt cs k ≠ b) && btwP (pt cs k) a b then cutsTo cs a b k ++ [pt cs k] else cutsTo cs a b k
def freeB (C : List (Int × Int)) (i k : Nat) : Bool := (List.range C.length).all fun j => decide (j = i) || decide (j = k) || !btwP (pt C j) (pt C i) (pt C k)
theorem cutsTo_len (cs : List (Int × Int)) (a b : Int × Int) : ∀ k, 2 ≤ (cutsTo cs a b k).length ∧ (cutsTo cs a b k).length ≤ k + 2
  | 0 => by simp [cutsTo]
  | k + 1 => by
    have := cutsTo_len cs a b k
    simp only [cutsTo]
    split
    · simp; omega
    · omega
theorem cutsTo_mem (cs : List (Int × Int)) (a b : Int × Int) : ∀ k s, s ∈ cutsTo cs a b k ↔ onWay cs a b k s
  | 0, s => by simp [cutsTo, onWay]
  | k + 1, s => by
    have ih := cutsTo_mem cs a b k s
    have e : onWay cs a b (k + 1) s ↔ onWay cs a b k s ∨ (s = pt cs k ∧ btwP s a b = true) := by
      unfold onWay
      constructor
      · rintro (h | h | ⟨j, hj, e, hb⟩)
        · exact .inl (.inl h)
        · exact .inl (.inr (.inl h))
        · by_cases hjk : j = k
          · subst hjk; exact .inr ⟨e, hb⟩
          · exact .inl (.inr (.inr ⟨j, by omega, e, hb⟩))
      · rintro ((h | h | ⟨j, hj, e, hb⟩) | ⟨e, hb⟩)
        · exact .inl h
        · exact .inr (.inl h)
        · exact .inr (.inr ⟨j, by omega, e, hb⟩)
        · exact .inr (.inr ⟨k, by omega, e, hb⟩)
    rw [e, ← ih]
    simp only [cutsTo]
    split
    · rename_i h
      simp only [Bool.and_eq_true, decide_eq_true_eq] at h
      simp only [List.mem_append, List.mem_singleton]
      constructor
      · rintro (h1 | h1)
        · exact .inl h1
        · exact .inr ⟨h1, by rw [h1]; exact h.2⟩
      · rintro (h1 | h1)
        · exact .inl h1
        · exact .inr h1.1
    · rename_i h
      constructor
      · exact .inl
      · rintro (h1 | ⟨e1, h1⟩)
        · exact h1
        · rw [ih]
          rw [← e1, h1] at h
          simp only [Bool.and_true, Bool.and_eq_true, decide_eq_true_eq, not_and, Decidable.not_not] at h
          by_cases ea : s = a
          · exact .inl ea
          · exact .inr (.inl (h ea))
/-- No point stands twice in the list. -/
def Once (C : List (Int × Int)) : Prop := ∀ i, i < C.length → ∀ j, j < C.length → pt C i = pt C j → i = j
theorem pt_append {C : List (Int × Int)} {x : Int × Int} {j : Nat} : pt (C ++ [x]) j = if j < C.length then pt C j else if j = C.length then x else (0, 0) := by
  unfold pt
  rw [List.getD_eq_getElem?_getD, List.getD_eq_getElem?_getD, List.getElem?_append]
  by_cases h1 : j < C.length
  · rw [if_pos h1, if_pos h1]
  · rw [if_neg h1, if_neg h1]
    by_cases h2 : j = C.length
    · subst h2; simp
    · rw [if_neg h2, List.getElem?_eq_none (by simp; omega)]; rfl
theorem pt_mem {C : List (Int × Int)} {j : Nat} (h : j < C.length) : pt C j ∈ C := List.mem_of_getElem? (pt_at h)
theorem mem_pt {C : List (Int × Int)} {s : Int × Int} (h : s ∈ C) : ∃ j, j < C.length ∧ pt C j = s := by
  obtain ⟨k, hk, e⟩ := List.mem_iff_getElem.1 h
  refine ⟨k, hk, ?_⟩
  have := pt_at hk
  rw [List.getElem?_eq_getElem hk, e] at this
  injection this with this
  exact this.symm
theorem once_append {C : List (Int × Int)} {x : Int × Int} (h : Once C) (hx : ¬ x ∈ C) : Once (C ++ [x]) := by
  intro i hi j hj e
  simp at hi hj
  rw [pt_append, pt_append] at e
  by_cases h1 : i < C.length
  · by_cases h2 : j < C.length
    · rw [if_pos h1, if_pos h2] at e
      exact h i h1 j h2 e
    · rw [if_pos h1, if_neg h2, if_pos (by omega)] at e
      exact absurd (e ▸ pt_mem h1) hx
  · by_cases h2 : j < C.length
    · rw [if_neg h1, if_pos h2, if_pos (show i = C.length by omega)] at e
      exact absurd (e ▸ pt_mem h2) hx
    · omega
theorem cutsTo_once {cs : List (Int × Int)} {a b : Int × Int} (hab : a ≠ b) (hc : Once cs) : ∀ k, k ≤ cs.length → Once (cutsTo cs a b k)
  | 0, _ => by
    intro i hi j hj e
    have h2 : (cutsTo cs a b 0).length = 2 := rfl
    have e0 : pt (cutsTo cs a b 0) 0 = a := rfl
    have e1 : pt (cutsTo cs a b 0) 1 = b := rfl
    have hi2 : i = 0 ∨ i = 1 := by omega
    have hj2 : j = 0 ∨ j = 1 := by omega
    rcases hi2 with rfl | rfl <;> rcases hj2 with rfl | rfl
    · rfl
    · rw [e0, e1] at e; exact absurd e hab
    · rw [e0, e1] at e; exact absurd e.symm hab
    · rfl
  | k + 1, hk => by
    have ih := cutsTo_once hab hc k (by omega)
    have hm := cutsTo_mem cs a b k (pt cs k)
    simp only [cutsTo]
    split
    · rename_i h
      simp only [Bool.and_eq_true, decide_eq_true_eq] at h
      refine once_append ih fun hx => ?_
      rcases hm.1 hx with h1 | h1 | ⟨j, hj, h1, _⟩
      · exact h.1.1 h1
      · exact h.1.2 h1
      · have := hc k (by omega) j (by omega) h1
        omega
    · exact ih

/-- The pieces are good just if the free pairs are. -/
theorem pieces_pairs {a b : Int × Int} (hab : a ≠ b) {S : Int × Int → Prop} {L : List ((Int × Int) × (Int × Int))} (I : Inv a b S L) {C : List (Int × Int)} (hC : ∀ s, s ∈ C ↔ S s) (ho : Once C)
    {F : Int × Int → Bool} (hF : ∀ s, S s → F (addP s s) = true) :
    (∀ j, j < L.length → F (addP (gt L j).1 (gt L j).2) = true) ↔ (∀ i, i < C.length → ∀ k, k < i → freeB C i k = true → F (addP (pt C i) (pt C k)) = true) := by
  have bt : ∀ {p u v}, S p → S u → S v → (btwP p u v = true ↔ (tI a b u ≤ tI a b p ∧ tI a b p ≤ tI a b v) ∨ (tI a b v ≤ tI a b p ∧ tI a b p ≤ tI a b u)) :=
    fun h1 h2 h3 => btw_iff hab (I.on _ h1).1 (I.on _ h2).1 (I.on _ h3).1
  have inj : ∀ {p q}, S p → S q → tI a b p = tI a b q → p = q := fun h1 h2 e => line_inj hab (I.on _ h1).1 (I.on _ h2).1 e
  have SC : ∀ {j}, j < C.length → S (pt C j) := fun h => (hC _).1 (pt_mem h)
  constructor
  · intro H
    -- two neighbors x before y: they are a piece
    have key : ∀ x y, S x → S y → tI a b x < tI a b y → (∀ s, S s → tI a b x ≤ tI a b s → tI a b s ≤ tI a b y → s = x ∨ s = y) → F (addP x y) = true := by
      intro x y hx hy hxy hn
      have ox := I.on x hx
      have oy := I.on y hy
      obtain ⟨j, hj, h1, h2⟩ := I.cov (tI a b x) ox.2.1 (by omega)
      have en := I.ends j hj
      have e1 : x = (gt L j).1 := by
        rcases I.empt j hj x hx h1 (by omega) with e | e
        · exact e
        · rw [← e] at h2; omega
      have e2 : (gt L j).2 = y := by
        by_cases h3 : tI a b (gt L j).2 ≤ tI a b y
        · rcases hn _ en.2 (by omega) h3 with e | e
          · rw [e] at h2; omega
          · exact e
        · rcases I.empt j hj y hy (by omega) (by omega) with e | e
          · rw [e, ← e1] at hxy; omega
          · exact e.symm
      have := H j hj
      rw [← e1, e2] at this
      exact this
    intro i hi k hk hfree
    have si := SC hi
    have sk := SC (show k < C.length by omega)
    have near : ∀ s, S s → (tI a b (pt C i) ≤ tI a b s ∧ tI a b s ≤ tI a b (pt C k)) ∨ (tI a b (pt C k) ≤ tI a b s ∧ tI a b s ≤ tI a b (pt C i)) → s = pt C i ∨ s = pt C k := by
      intro s hs hb
      obtain ⟨j, hj, e⟩ := mem_pt ((hC s).2 hs)
      unfold freeB at hfree
      rw [List.all_eq_true] at hfree
      have := hfree j (List.mem_range.2 hj)
      rw [e, (bt hs si sk).2 hb] at this
      simp at this
      rcases this with rfl | rfl
      · exact .inl e.symm
      · exact .inr e.symm
    rcases Int.lt_trichotomy (tI a b (pt C i)) (tI a b (pt C k)) with h | h | h
    · exact key _ _ si sk h (fun s hs h1 h2 => near s hs (.inl ⟨h1, h2⟩))
    · have := ho i hi k (by omega) (inj si sk h)
      omega
    · rw [addP_comm]
      exact key _ _ sk si h (fun s hs h1 h2 => (near s hs (.inr ⟨h1, h2⟩)).symm)
  · intro H j hj
    have en := I.ends j hj
    have od := I.ord j hj
    by_cases e : (gt L j).1 = (gt L j).2
    · rw [← e]; exact hF _ en.1
    · obtain ⟨i1, h1, e1⟩ := mem_pt ((hC _).2 en.1)
      obtain ⟨i2, h2, e2⟩ := mem_pt ((hC _).2 en.2)
      have em := I.empt j hj
      rw [← e1, ← e2] at em od e ⊢
      have s1 := SC h1
      have s2 := SC h2
      have hne : i1 ≠ i2 := fun z => e (by rw [z])
      have fr : ∀ j, j < C.length → (j = i1 ∨ j = i2) ∨ btwP (pt C j) (pt C i1) (pt C i2) = false := by
        intro j hj
        cases hb : btwP (pt C j) (pt C i1) (pt C i2)
        · exact .inr rfl
        · left
          have := (bt (SC hj) s1 s2).1 hb
          rcases em _ (SC hj) (by omega) (by omega) with q | q
          · exact .inl (ho _ hj _ h1 q)
          · exact .inr (ho _ hj _ h2 q)
      rcases Nat.lt_or_gt_of_ne hne with hlt | hlt
      · rw [addP_comm]
        refine H i2 h2 i1 hlt ?_
        unfold freeB
        rw [List.all_eq_true]
        intro j hj
        rcases fr j (List.mem_range.1 hj) with (q | q) | q
        · simp [q]
        · simp [q]
        · have : btwP (pt C j) (pt C i2) (pt C i1) = false := by
            cases hb : btwP (pt C j) (pt C i2) (pt C i1)
            · rfl
            · have hj := List.mem_range.1 hj
              rw [(bt (SC hj) s1 s2).2 ((bt (SC hj) s2 s1).1 hb).symm] at q
              cases q
          simp [this]
      · refine H i1 h1 i2 hlt ?_
        unfold freeB
        rw [List.all_eq_true]
        intro j hj
        rcases fr j (List.mem_range.1 hj) with (q | q) | q
        · simp [q]
        · simp [q]
        · simp [q]
end Go.Proofs.Ytonbpmabmjhdgab.CutsMath

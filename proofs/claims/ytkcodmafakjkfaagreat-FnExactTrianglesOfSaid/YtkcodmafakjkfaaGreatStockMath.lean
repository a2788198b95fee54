/-
  Checks of objects: when one was seen last, when it was missed first. No program stands here.
-/
import Derived.Test.YtkcodmafakjkfaaGreatTupIIB
import Derived.Test.YtkcodmafakjkfaaGreatFacts
namespace Go.Proofs.YtkcodmafakjkfaaGreat.StockMath
open TupIIB DiagMath

/-- The last moment at which the object was there, among the first k checks; -1 without one. -/
def seenTo (l : List Tu) (o : Int) : Nat → Int
  | 0 => -1
  | k + 1 => if (tt l k).2.1 = o ∧ (tt l k).2.2 = true then max (seenTo l o k) (tt l k).1 else seenTo l o k
def seenI (l : List Tu) (o : Int) : Int := seenTo l o l.length
theorem seen_step (l : List Tu) (o : Int) (k : Nat) : seenTo l o (k + 1) = if (tt l k).2.1 = o ∧ (tt l k).2.2 = true ∧ seenTo l o k < (tt l k).1 then (tt l k).1 else seenTo l o k := by
  show (if (tt l k).2.1 = o ∧ (tt l k).2.2 = true then max (seenTo l o k) (tt l k).1 else seenTo l o k) = _
  by_cases h1 : (tt l k).2.1 = o
  · by_cases h2 : (tt l k).2.2 = true
    · by_cases h3 : seenTo l o k < (tt l k).1
      · rw [if_pos ⟨h1, h2⟩, if_pos ⟨h1, h2, h3⟩]; omega
      · rw [if_pos ⟨h1, h2⟩, if_neg (fun h => h3 h.2.2)]; omega
    · rw [if_neg (fun h => h2 h.2), if_neg (fun h => h2 h.2.1)]
  · rw [if_neg (fun h => h1 h.1), if_neg (fun h => h1 h.1)]
/-- The first moment behind s at which the object was missed, among the first k checks; -1 without one. -/
def missTo (l : List Tu) (o s : Int) : Nat → Int
  | 0 => -1
  | k + 1 => if (tt l k).2.1 = o ∧ (tt l k).2.2 = false ∧ s < (tt l k).1 ∧ (missTo l o s k < 0 ∨ (tt l k).1 < missTo l o s k) then (tt l k).1 else missTo l o s k
def missI (l : List Tu) (o : Int) : Int := missTo l o (seenI l o) l.length
def missingB (l : List Tu) (o : Int) : Bool := decide (missI l o ≠ -1)
end Go.Proofs.YtkcodmafakjkfaaGreat.StockMath

/-
  An object that is missing: what the landed way adds to StockMath. No program stands here.
-/
import Derived.Test.YtdcekbhfbkiflaaDoorStockMath
namespace Go.Proofs.YtdcekbhfbkiflaaDoor.GoneMath
open TupIIB DiagMath StockMath

theorem seen_ge (l : List Tu) (o : Int) : ∀ k, -1 ≤ seenTo l o k
  | 0 => by simp [seenTo]
  | k + 1 => by
    have h := seen_ge l o k
    simp only [seenTo]
    split
    · omega
    · exact h
theorem miss_ge (l : List Tu) (o s : Int) (hs : -1 ≤ s) : ∀ k, -1 ≤ missTo l o s k
  | 0 => by simp [missTo]
  | k + 1 => by
    have h := miss_ge l o s hs k
    simp only [missTo]
    split
    · next h1 => omega
    · exact h
theorem missI_ge (l : List Tu) (o : Int) : -1 ≤ missI l o := miss_ge l o _ (seen_ge l o _) _
theorem missI_neg (l : List Tu) (o : Int) (h : missI l o < 0) : missI l o = -1 := by have := missI_ge l o; omega
end Go.Proofs.YtdcekbhfbkiflaaDoor.GoneMath

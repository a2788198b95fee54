/-
  A house that comes in by value (a number, and a slice of structs of two numbers), opened. No program stands here.
-/
import Derived.Test.YtagokcbldkbdmaaRoomArg
import Derived.Test.YtagokcbldkbdmaaMixArg
namespace Go.Proofs.Ytagokcbldkbdmaa.HouseArg
open Go Go.ChangeShapes Go.WideShapes Go.Deep Pts RoomArg MixArg

theorem open_house {H : Type} {enc : TypeId × Value → H} {P : Program} {w : World} {base : Nat} {spare : Nat → Bool} {held : Bool} {r : Reach} {b0 : Nat} {t ts te ti : TypeId} {g0 g1 : Field} {fs : Array Field} {v : Value} {d : DataW H} {p : List MemPlace}
    (ht : P.underlying t = some (.struct fs)) (hf : leavesB P 2 t = some [ti, ts]) (S : ShapeS P ts te ti g0 g1)
    (hv : Value.okWide P w r b0 t v) (h : DataW.Trod enc P w base spare held t v d p) :
    ∃ (z : Int) (A : Option Addr) (n cap : Nat) (ps : List (Int × Int)), v = .agg #[.int .i64 z, .slice A n cap] ∧ (Lit.int .i64 z).wf = true ∧ n ≤ maxLen ∧ ps.length = n ∧ PtsAt w w.heap.size A ps := by
  obtain ⟨cs, rfl, hL⟩ := mix_open ht hf hv h
  cases hL with
  | cons h1 r1 =>
    cases r1 with
    | cons h2 r2 =>
      cases r2
      obtain ⟨z, rfl, hz⟩ := leaf_int S.hi h1
      obtain ⟨A, n, cap, ps, rfl, hn, hl, hp⟩ := points_of S h2
      exact ⟨z, A, n, cap, ps, rfl, hz, hn, hl, hp⟩
end Go.Proofs.Ytagokcbldkbdmaa.HouseArg

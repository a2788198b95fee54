/-
  append of one integer to a row of the call's own, its element in a block of its own just made.
-/
import Derived.Test.YtgampbjdoncdoaaConcatI
namespace Go.Proofs.Ytgampbjdoncdoaa.AppOne
open Go.RowKit PointOk Blk Ints
open Go.Proofs.Ytgampbjdoncdoaa.Own (icells icells_length icells_at own_shape own_base own_below)

theorem append_one (w : World) {ops : Array Oper} {rest : List Oper} {o : Oper} {a : Act} {Q : Exit → Act → World → Prop} (hgd : o.guard = none) (s x : Operand)
    (ho : o.op = .call { callee := .builtin .append, args := #[s, x], argTypes := #[24, 24] })
    (B : Nat) (v : Value) (n : Nat) (xs : List Value) (hs : a.eval s = v) (hown : w.ownsRow B 3 1 v n xs)
    (z : Int) (hx : a.eval x = .slice (some ⟨w.heap.size, 0, none⟩) 1 1) (hN : n ≤ 1048575) (hB : B ≤ w.heap.size)
    (h : ∀ v' w', w'.ownsRow B 3 1 v' (n + 1) (xs ++ [.int .i64 z]) → Below B w w' → wpList Try.prog ops Q rest (a.put o.dst v') w') :
    wpList Try.prog ops Q (o :: rest) a (w.alloc (Obj.cells #[.int .i64 z] 3)) := by
  have hb : Below w.heap.size w (w.alloc (Obj.cells #[.int .i64 z] 3)) := below1 w _
  have hown1 := own_below hown hb
  have hq : IntsAt (w.alloc (Obj.cells #[.int .i64 z] 3)) (w.alloc (Obj.cells #[.int .i64 z] 3)).heap.size (some ⟨w.heap.size, 0, none⟩) [z] := by
    intro j hj
    simp at hj
    subst hj
    exact ⟨_, rfl, by simp, by simp [Addr.add]⟩
  refine ConcatI.append_ints _ hgd s x ho B v n xs hs hown1 (some ⟨w.heap.size, 0, none⟩) 1 1 [z] rfl hx hq (by omega) (by simp; omega) ?_
  intro v' w' h1 hg
  exact h v' w' h1 ((hb.mono hB).grown hg (by simp; omega) (fun g hg2 => (hown1.lt g hg2).1))
end Go.Proofs.Ytgampbjdoncdoaa.AppOne

/-
  A struct of two structs of two integers each that comes in by value (a wall: two points), opened and shut. No program stands here.
-/
import Derived.Lib.SmallJoins
import Derived.ChangeSame
namespace Go.Proofs.Ytkohfbffmljmcac.WallArg
open Go Go.ChangeShapes Go.WideShapes

section
variable {H : Type} {enc : TypeId × Value → H} {P : Program} {w : World} {base : Nat} {spare : Nat → Bool} {held : Bool}

/-- What is known of the types. -/
structure Shape (P : Program) (t tp ti : TypeId) (f0 f1 g0 g1 : Field) : Prop where
  hs : P.underlying t = some (.struct #[f0, f1])
  t0 : f0.type = tp
  t1 : f1.type = tp
  o0 : f0.offset = 0
  o1 : f1.offset = 2
  hC : P.cellsOf t = 4
  hp : P.underlying tp = some (.struct #[g0, g1])
  u0 : g0.type = ti
  u1 : g1.type = ti
  q0 : g0.offset = 0
  q1 : g1.offset = 1
  hCp : P.cellsOf tp = 2
  hi : P.underlying ti = some (.int .i64)
  hCi : P.cellsOf ti = 1

theorem array4 {cs : Array Value} (h : cs.size = 4) : ∃ a b c d, cs = #[a, b, c, d] := by
  obtain ⟨l⟩ := cs
  match l, h with
  | [a, b, c, d], _ => exact ⟨a, b, c, d, rfl⟩

theorem open_wall {r : Reach} {b0 : Nat} {t tp ti : TypeId} {f0 f1 g0 g1 : Field} {v : Value} {d : DataW H} {p : List MemPlace} (S : Shape P t tp ti f0 f1 g0 g1)
    (hv : Value.okWide P w r b0 t v) (h : DataW.Trod enc P w base spare held t v d p) :
    ∃ x1 y1 x2 y2 : Int, v = .agg #[.int .i64 x1, .int .i64 y1, .int .i64 x2, .int .i64 y2] ∧
      d = .agg [.agg [.lit (.int .i64 x1), .lit (.int .i64 y1)], .agg [.lit (.int .i64 x2), .lit (.int .i64 y2)]] ∧ p = [] ∧
      (Lit.int .i64 x1).wf = true ∧ (Lit.int .i64 y1).wf = true ∧ (Lit.int .i64 x2).wf = true ∧ (Lit.int .i64 y2).wf = true := by
  obtain ⟨cs, rfl, hsz⟩ := okWide_struct S.hs hv
  obtain ⟨c0, c1, c2, c3, rfl⟩ := array4 (hsz.trans S.hC)
  obtain ⟨fuel, hf⟩ := h
  obtain ⟨y0, y1, n, hx, _, h0, h1⟩ := trod_struct2 S.hs hf
  simp only [S.t0, S.t1, S.o0, S.o1, S.hCp, Value.cells] at h0 h1
  obtain ⟨a0, a1, n0, ha, _, h00, h01⟩ := trod_struct2 S.hp h0
  obtain ⟨b0, b1, n1, hb, _, h10, h11⟩ := trod_struct2 S.hp h1
  simp only [S.u0, S.u1, S.q0, S.q1, S.hCi] at h00 h01 h10 h11
  simp at h00 h01 h10 h11
  obtain ⟨x1, e0, rfl, w0⟩ := DataW.trod_int S.hi h00
  obtain ⟨z1, e1, rfl, w1⟩ := DataW.trod_int S.hi h01
  obtain ⟨x2, e2, rfl, w2⟩ := DataW.trod_int S.hi h10
  obtain ⟨z2, e3, rfl, w3⟩ := DataW.trod_int S.hi h11
  simp at e0 e1 e2 e3
  subst e0 e1 e2 e3 ha hb
  simp only [Prod.mk.injEq] at hx
  exact ⟨x1, z1, x2, z2, rfl, by simpa using hx.1, by simpa using hx.2, w0, w1, w2, w3⟩

theorem shut_wall {t tp ti : TypeId} {f0 f1 g0 g1 : Field} {x1 y1 x2 y2 : Int} (S : Shape P t tp ti f0 f1 g0 g1)
    (w1 : (Lit.int .i64 x1).wf = true) (w2 : (Lit.int .i64 y1).wf = true) (w3 : (Lit.int .i64 x2).wf = true) (w4 : (Lit.int .i64 y2).wf = true) :
    DataW.Trod enc P w base spare held t (.agg #[.int .i64 x1, .int .i64 y1, .int .i64 x2, .int .i64 y2])
      (.agg [.agg [.lit (.int .i64 x1), .lit (.int .i64 y1)], .agg [.lit (.int .i64 x2), .lit (.int .i64 y2)]]) [] := by
  have t1 := trod_int_mk (enc := enc) (P := P) (w := w) (base := base) (spare := spare) (held := held) 0 S.hi w1
  have t2 := trod_int_mk (enc := enc) (P := P) (w := w) (base := base) (spare := spare) (held := held) 0 S.hi w2
  have t3 := trod_int_mk (enc := enc) (P := P) (w := w) (base := base) (spare := spare) (held := held) 0 S.hi w3
  have t4 := trod_int_mk (enc := enc) (P := P) (w := w) (base := base) (spare := spare) (held := held) 0 S.hi w4
  have p1 := trod_struct2_mk (enc := enc) (w := w) (base := base) (spare := spare) (held := held) (n := 1) (cs := [.int .i64 x1, .int .i64 y1]) S.hp (by simp [S.hCp])
    (by simpa [S.u0, S.q0, S.hCi] using t1) (by simpa [S.u1, S.q1, S.hCi] using t2)
  have p2 := trod_struct2_mk (enc := enc) (w := w) (base := base) (spare := spare) (held := held) (n := 1) (cs := [.int .i64 x2, .int .i64 y2]) S.hp (by simp [S.hCp])
    (by simpa [S.u0, S.q0, S.hCi] using t3) (by simpa [S.u1, S.q1, S.hCi] using t4)
  have ts := trod_struct2_mk (enc := enc) (w := w) (base := base) (spare := spare) (held := held) (n := 2) (cs := [.int .i64 x1, .int .i64 y1, .int .i64 x2, .int .i64 y2]) S.hs (by simp [S.hC])
    (by simpa [S.t0, S.o0, S.hCp] using p1) (by simpa [S.t1, S.o1, S.hCp] using p2)
  exact ⟨_, by simpa [Value.cells] using ts⟩
end
end Go.Proofs.Ytkohfbffmljmcac.WallArg

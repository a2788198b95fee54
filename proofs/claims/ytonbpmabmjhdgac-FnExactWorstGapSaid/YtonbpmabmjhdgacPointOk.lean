/-
  What the model's test on points does, as a contract; the boxes that a call makes of its points; new memory alone is written.
-/
import Derived.Test.YtonbpmabmjhdgacFacts
import Derived.Test.YtonbpmabmjhdgacChecked
import Derived.WalkKit
import Derived.ProofKit
import Derived.WalkSpells
import Derived.Deep.AppendLies
import Derived.Deep.QuietTactic
import Derived.BigQuiet
import Derived.Deep.RegionHeld3
import Derived.Lib.MinMax
import Derived.Lib.Hide
import Derived.Outline
namespace Go.Proofs.Ytonbpmabmjhdgac.PointOk
open Go.RowKit PointMath

theorem ret_bool {a b : Bool} (h : a = b) : Ending.returned (.bool a) = .returned (.bool b) := by rw [h]
theorem ret_i64 {a b : Int} (h : a = b) : Ending.returned (.int .i64 a) = .returned (.int .i64 b) := by rw [h]

theorem l01In (x a b : Int) (w : World) : Calls Try.prog 104 #[.int .i64 x, .int .i64 a, .int .i64 b] w fun e w' => e = .returned (.bool (decide (a ≤ x ∧ x ≤ b))) ∧ w = w' := by
  by_cases h1 : a ≤ x
  · by_cases h2 : x ≤ b
    · have H : Hid (decide (a ≤ x ∧ x ≤ b) = true) := Lib.hid (by simp [h1, h2])
      generalize decide (a ≤ x ∧ x ≤ b) = r at H ⊢
      go_enter Try.func104, Try.ntmps104
      go_wp2_with fail
      go_ret
      exact ⟨ret_bool (by rw [H.out]), rfl⟩
    · have H : Hid (decide (a ≤ x ∧ x ≤ b) = false) := Lib.hid (by simp; omega)
      generalize decide (a ≤ x ∧ x ≤ b) = r at H ⊢
      go_enter Try.func104, Try.ntmps104
      go_wp2_with fail
      go_ret
      exact ⟨ret_bool (by rw [H.out]), rfl⟩
  · have H : Hid (decide (a ≤ x ∧ x ≤ b) = false) := Lib.hid (by simp; omega)
    generalize decide (a ≤ x ∧ x ≤ b) = r at H ⊢
    go_enter Try.func104, Try.ntmps104
    go_wp2_with fail
    go_ret
    exact ⟨ret_bool (by rw [H.out]), rfl⟩

theorem below1 (w : World) (o : Obj) : Below w.heap.size w (w.alloc o) := (Below.refl _ _).alloc (Nat.le_refl _) o
theorem below2 (w : World) (o1 o2 : Obj) : Below w.heap.size w ((w.alloc o1).alloc o2) := (below1 w o1).alloc (by simp) o2
theorem below3 (w : World) (o1 o2 o3 : Obj) : Below w.heap.size w (((w.alloc o1).alloc o2).alloc o3) := (below2 w o1 o2).alloc (by simp; omega) o3

theorem pointOk (x y : Int) (w : World) : Calls Try.prog 119 #[.agg #[.int .i64 x, .int .i64 y]] w fun e w' => e = .returned (.bool (okP x y)) ∧ Below w.heap.size w w' := by
  by_cases h1 : -40 ≤ x ∧ x ≤ 40
  · have hx : Hid (decide (-40 ≤ x ∧ x ≤ 40) = true) := Lib.hid (by simpa using h1)
    obtain ⟨r, hr⟩ : ∃ r, Hid (decide (-40 ≤ y ∧ y ≤ 40) = r) := ⟨_, Lib.hid rfl⟩
    have H : Hid (okP x y = r) := Lib.hid (by rw [← hr.out]; simp [okP, h1.1, h1.2])
    clear h1
    go_enter Try.func119, Try.ntmps119
    go_wp2_with fail
    refine (l01In x (-40) 40 _).mono ?_
    rintro e w' ⟨rfl, rfl⟩
    rw [hx.out]
    go_wp2_with fail
    refine (l01In y (-40) 40 _).mono ?_
    rintro e w' ⟨rfl, rfl⟩
    rw [hr.out]
    go_wp2_with fail
    go_ret
    exact ⟨ret_bool H.out.symm, below1 _ _⟩
  · have hx : Hid (decide (-40 ≤ x ∧ x ≤ 40) = false) := Lib.hid (by simp; omega)
    have H : Hid (okP x y = false) := Lib.hid (okP_false (by omega))
    clear h1
    go_enter Try.func119, Try.ntmps119
    go_wp2_with fail
    refine (l01In x (-40) 40 _).mono ?_
    rintro e w' ⟨rfl, rfl⟩
    rw [hx.out]
    go_wp2_with fail
    go_ret
    exact ⟨ret_bool H.out.symm, below1 _ _⟩

/-- A box of the call's own that holds a point. -/
def Box (w : World) (k : Nat) (x y : Int) : Prop := w.cell? ⟨k, 0, none⟩ = some (.int .i64 x) ∧ w.cell? ⟨k, 1, none⟩ = some (.int .i64 y)
theorem Box.later {w w' : World} {k : Nat} {x y : Int} (h : Box w k x y) (hb : Below w.heap.size w w') : Box w' k x y := ⟨cell_later hb h.1, cell_later hb h.2⟩
theorem Box.laterB {w w' : World} {b k : Nat} {x y : Int} (h : Box w k x y) (hk : k < b) (hb : Below b w w') : Box w' k x y := ⟨(hb.cell hk).trans h.1, (hb.cell hk).trans h.2⟩
theorem Box.alloc {w : World} {k : Nat} {x y : Int} (h : Box w k x y) (o : Obj) : Box (w.alloc o) k x y := h.later (below1 w o)
theorem box1 (w : World) (x y : Int) (T : TypeId) {k : Nat} (hk : k = w.heap.size) : Box (w.alloc (.cells #[.int .i64 x, .int .i64 y] T)) k x y := by
  subst hk
  have hn := heap_alloc_new w (.cells #[.int .i64 x, .int .i64 y] T)
  exact ⟨World.news_of_block hn 0 _ (by simp), World.news_of_block hn 1 _ (by simp)⟩

theorem below4 (w : World) (o1 o2 o3 o4 : Obj) : Below w.heap.size w ((((w.alloc o1).alloc o2).alloc o3).alloc o4) := (below3 w o1 o2 o3).alloc (by simp; omega) o4

/-- A box of the call's own that holds a wall: two points. -/
def Box4 (w : World) (k : Nat) (a b c d : Int) : Prop :=
  w.cell? ⟨k, 0, none⟩ = some (.int .i64 a) ∧ w.cell? ⟨k, 1, none⟩ = some (.int .i64 b) ∧ w.cell? ⟨k, 2, none⟩ = some (.int .i64 c) ∧ w.cell? ⟨k, 3, none⟩ = some (.int .i64 d)
theorem Box4.later {w w' : World} {k : Nat} {a b c d : Int} (h : Box4 w k a b c d) (hb : Below w.heap.size w w') : Box4 w' k a b c d :=
  ⟨cell_later hb h.1, cell_later hb h.2.1, cell_later hb h.2.2.1, cell_later hb h.2.2.2⟩
theorem Box4.alloc {w : World} {k : Nat} {a b c d : Int} (h : Box4 w k a b c d) (o : Obj) : Box4 (w.alloc o) k a b c d := h.later (below1 w o)
theorem box4 (w : World) (a b c d : Int) (T : TypeId) {k : Nat} (hk : k = w.heap.size) : Box4 (w.alloc (.cells #[.int .i64 a, .int .i64 b, .int .i64 c, .int .i64 d] T)) k a b c d := by
  subst hk
  have hn := heap_alloc_new w (.cells #[.int .i64 a, .int .i64 b, .int .i64 c, .int .i64 d] T)
  exact ⟨World.news_of_block hn 0 _ (by simp), World.news_of_block hn 1 _ (by simp), World.news_of_block hn 2 _ (by simp), World.news_of_block hn 3 _ (by simp)⟩

end Go.Proofs.Ytonbpmabmjhdgac.PointOk

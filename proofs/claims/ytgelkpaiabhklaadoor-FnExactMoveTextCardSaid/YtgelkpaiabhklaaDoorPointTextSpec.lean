/-
  What the model's PointText does, as a contract: the text of the point; new memory alone is written.
-/
import Derived.Test.YtgelkpaiabhklaaDoorFmtSpec
import Derived.Test.YtgelkpaiabhklaaDoorGround
import Derived.Lib.ItoaLen
import Derived.Lib.SmallJoins
namespace Go.Proofs.YtgelkpaiabhklaaDoor.PointTextSpec
open Go.RowKit PointMath PointOk Lib

theorem ret_str {a b : ByteArray} (h : a = b) : Ending.returned (.string a) = .returned (.string b) := by rw [h]
/-- The text of a point. -/
def pointText' (x y : Int) : ByteArray := if okP x y then ⟨(itoa x ++ [44] ++ itoa y).toArray⟩ else ⟨#[]⟩
theorem add3 (a b : List UInt8) {s t : ByteArray} (hs : s = ⟨a.toArray⟩) (ht : t = ⟨b.toArray⟩) : s ++ ⟨#[44]⟩ ++ t = ⟨(a ++ [44] ++ b).toArray⟩ := by
  subst hs ht
  apply ByteArray.ext
  simp

set_option maxRecDepth 100000 in
theorem pointText (x y : Int) (w : World) :
    Calls Tryd.prog 26 #[.agg #[.int .i64 x, .int .i64 y]] w fun e w' => e = .returned (.string (PointTextSpec.pointText' x y)) ∧ Below w.heap.size w w' := by
  cases hp : okP x y
  · skip
    go_enter Tryd.func26, Tryd.ntmps26
    go_wp2_with fail
    have X0 := PointOk.box1 w x y 59 (k := w.heap.size) (by simp)
    have b0 := PointOk.below1 w (Obj.cells #[.int .i64 x, .int .i64 y] 59)
    have HO : ∀ W W' : World, (PointOk.Box W (w.heap.size) x y ∧ Below w.heap.size w W) → Below W.heap.size W W' → (PointOk.Box W' (w.heap.size) x y ∧ Below w.heap.size w W') := fun W W' ⟨h0, hb⟩ h => ⟨h0.later h, hb.trans (h.mono hb.size)⟩
    have hz0_ : Hid (((w.alloc (Obj.cells #[.int .i64 x, .int .i64 y] 59))).heap.size = w.heap.size + 1) := Lib.hid (by simp)
    generalize (w.alloc (Obj.cells #[.int .i64 x, .int .i64 y] 59)) = w0 at X0 b0 hz0_ ⊢
    have S0 := (⟨X0, b0⟩ : PointOk.Box w0 (w.heap.size) x y ∧ Below w.heap.size w w0)
    clear X0 b0
    obtain ⟨⟨_, _⟩, _⟩ := id S0
    refine (PointOk.pointOk x y _).mono ?_
    rintro e w1 ⟨rfl, hb_⟩
    replace S0 := HO _ _ S0 hb_
    clear hb_
    obtain ⟨⟨_, _⟩, _⟩ := id S0
    rw [hp]
    go_wp2_with fail
    go_ret
    exact ⟨ret_str (by simp [pointText', hp]), S0.2⟩
  have hr := okP_yes hp
  obtain ⟨s, hs⟩ : ∃ s : ByteArray, ⟨(itoa x).toArray⟩ = s := ⟨_, rfl⟩
  obtain ⟨t, ht⟩ : ∃ t : ByteArray, ⟨(itoa y).toArray⟩ = t := ⟨_, rfl⟩
  have hs1 : s.size ≤ 21 := by rw [← hs]; simpa [ByteArray.size] using Lib.itoa_length_le x (by omega) (by omega)
  have ht1 : t.size ≤ 21 := by rw [← ht]; simpa [ByteArray.size] using Lib.itoa_length_le y (by omega) (by omega)
  have W1 : ¬ 9223372036854775807 < s.size + 1 := by omega
  have W2 : ¬ 9223372036854775807 < s.size + 1 + t.size := by omega
  have H1 := fun w => FmtSpec.format x (by omega) (by omega) w
  have H2 := fun w => FmtSpec.format y (by omega) (by omega) w
  rw [hs] at H1
  rw [ht] at H2
  have ER : Hid (pointText' x y = s ++ ⟨#[44]⟩ ++ t) := Lib.hid (by rw [add3 (itoa x) (itoa y) hs.symm ht.symm]; simp [pointText', hp])
  rw [ER.out]
  replace H1 := Lib.hid H1
  replace H2 := Lib.hid H2
  clear hs ht hr hs1 ht1 ER
  go_enter Tryd.func26, Tryd.ntmps26
  go_wp2_with fail
  have X0 := PointOk.box1 w x y 59 (k := w.heap.size) (by simp)
  have b0 := PointOk.below1 w (Obj.cells #[.int .i64 x, .int .i64 y] 59)
  have HO : ∀ W W' : World, (PointOk.Box W (w.heap.size) x y ∧ Below w.heap.size w W) → Below W.heap.size W W' → (PointOk.Box W' (w.heap.size) x y ∧ Below w.heap.size w W') := fun W W' ⟨h0, hb⟩ h => ⟨h0.later h, hb.trans (h.mono hb.size)⟩
  have hz0_ : Hid (((w.alloc (Obj.cells #[.int .i64 x, .int .i64 y] 59))).heap.size = w.heap.size + 1) := Lib.hid (by simp)
  generalize (w.alloc (Obj.cells #[.int .i64 x, .int .i64 y] 59)) = w0 at X0 b0 hz0_ ⊢
  have S0 := (⟨X0, b0⟩ : PointOk.Box w0 (w.heap.size) x y ∧ Below w.heap.size w w0)
  clear X0 b0
  obtain ⟨⟨_, _⟩, _⟩ := id S0
  refine (PointOk.pointOk x y _).mono ?_
  rintro e w2 ⟨rfl, hb_⟩
  replace S0 := HO _ _ S0 hb_
  clear hb_
  obtain ⟨⟨_, _⟩, _⟩ := id S0
  rw [hp]
  go_wp2_with fail
  refine Settle.region (fun W => PointOk.Box W (w.heap.size) x y ∧ Below w.heap.size w W) (by kernel_rfl) (by kernel_rfl) (by kernel_rfl) (by kernel_rfl) (HO _ _ S0 ((Below.refl _ _).drew)) ?_
  clear S0
  repeat (first
    | (refine Settle.Settles.off (by rfl) ?_; simp only [Act.put, List.setIfInBounds_toArray, List.set_cons_zero, List.set_cons_succ])
    | (refine Settle.Settles.quiet (v := ?_) (by rfl) ?_ ?_
       rotate_left
       · (intro W hS; obtain ⟨⟨_, _⟩, _⟩ := hS; go_simp; with_reducible rfl)
       simp only [Act.put, List.setIfInBounds_toArray, List.set_cons_zero, List.set_cons_succ])
    | (refine Settle.Settles.call (v := ?_) (f := ?_) (args := ?_) (by rfl) ?_ ?_ ?_
       rotate_left 3
       · (intro W; go_simp; refine ⟨?_, ?_⟩ <;> with_reducible rfl)
       · (intro W hS; first | (go_at_call 18; (with_reducible refine (H1.out _).mono ?_); rintro e W1 ⟨rfl, hb⟩; refine ⟨?_, HO _ _ hS hb⟩; with_reducible rfl) | (go_at_call 18; (with_reducible refine (H2.out _).mono ?_); rintro e W1 ⟨rfl, hb⟩; refine ⟨?_, HO _ _ hS hb⟩; with_reducible rfl))
       simp only [Act.put, List.setIfInBounds_toArray, List.set_cons_zero, List.set_cons_succ]))
  refine Settle.Settles.nil ?_
  intro wr S0
  obtain ⟨⟨_, _⟩, _⟩ := id S0
  go_wp2_with fail
  go_ret
  exact ⟨rfl, S0.2⟩

end Go.Proofs.YtgelkpaiabhklaaDoor.PointTextSpec


/-
  What the model draws for Clamp: three numbers; what the landed Clamp answers.
-/
import Derived.Test.YtipaagcnkflebaaDrawNum
namespace Go.Proofs.Ytipaagcnkflebaa.DrawClamp
open Go.RowKit Draw DrawNum

/-- Three numbers came back; nothing that was there was written. -/
def ThreeP (w : World) (e : Ending) (w' : World) : Prop :=
  ∃ a b c : Int, e = .returned (.tuple #[.int .i64 a, .int .i64 b, .int .i64 c]) ∧ Below w.heap.size w w'

theorem below_of {w w1 w' : World} {cb : Nat} (hb : Below w.heap.size w w1) (h : w1.grownBy w' (some cb)) (hc : w.heap.size ≤ cb) : Below w.heap.size w w' :=
  hb.grown h hb.size (fun k e => by injection e with e; omega)

set_option maxRecDepth 100000 in
set_option maxHeartbeats 800000 in
theorem drawClamp (w : World) (A : Option Addr) (n cap : Nat) (hn : n ≤ 1048576) (hcode : Draw.Code w w.heap.size A n) :
    Calls Try.prog 9 #[.slice A n cap] w (ThreeP w) := by
  have HC := Lib.hid hcode
  clear hcode
  go_enter Try.func9, Try.ntmps9
  go_wp2_with fail
  refine (newCur _ A n cap hn HC.out).mono ?_
  rintro e w1 ⟨rfl, hs1, hb1⟩
  go_wp2_with fail
  refine (once _ w.heap.size A n cap hs1 4 (by omega)).mono ?_
  rintro e w2 ⟨b, rfl, hs2, hg2⟩
  have hb2 := below_of hb1 hg2 (Nat.le_refl _)
  clear hs1 hg2 hb1
  cases b
  · go_wp2_with fail
    refine (below _ w.heap.size A n cap hs2 40 (by omega)).mono ?_
    rintro e w3 ⟨x, ⟨hx0, hx1⟩, rfl, hs3, hg3⟩
    go_wp2_with fail
    refine (below _ w.heap.size A n cap hs3 80 (by omega)).mono ?_
    rintro e w4 ⟨y, ⟨hy0, hy1⟩, rfl, hs4, hg4⟩
    go_wp2_with fail
    refine (below _ w.heap.size A n cap hs4 30 (by omega)).mono ?_
    rintro e w5 ⟨z, ⟨hz0, hz1⟩, rfl, hs5, hg5⟩
    go_wp2_with fail
    go_ret3
    exact ⟨_, _, _, rfl, below_of hb2 (grown_trans (grown_trans hg3 hg4) hg5) (Nat.le_refl _)⟩
  · go_wp2_with fail
    refine (number _ w.heap.size A n cap hs2).mono ?_
    rintro e w3 ⟨x, _, rfl, hs3, hg3⟩
    go_wp2_with fail
    refine (number _ w.heap.size A n cap hs3).mono ?_
    rintro e w4 ⟨y, _, rfl, hs4, hg4⟩
    go_wp2_with fail
    refine (number _ w.heap.size A n cap hs4).mono ?_
    rintro e w5 ⟨z, _, rfl, hs5, hg5⟩
    go_wp2_with fail
    go_ret3
    exact ⟨_, _, _, rfl, below_of hb2 (grown_trans (grown_trans hg3 hg4) hg5) (Nat.le_refl _)⟩

def clampI (n lo hi : Int) : Int := if hi < lo ∨ n < lo then lo else if hi < n then hi else n
theorem ret_i64 {a b : Int} (h : a = b) : Ending.returned (.int .i64 a) = .returned (.int .i64 b) := by rw [h]

theorem clamp (n lo hi : Int) (w : World) :
    Calls Try.prog 10 #[.int .i64 n, .int .i64 lo, .int .i64 hi] w fun e w' => e = .returned (.int .i64 (clampI n lo hi)) ∧ w = w' := by
  by_cases h1 : hi < n
  · by_cases h2 : lo < hi
    · have H : Hid (clampI n lo hi = hi) := Lib.hid (by unfold clampI; rw [if_neg (by omega), if_pos h1])
      go_enter Try.func10, Try.ntmps10
      go_wp2_with fail
      go_ret
      exact ⟨ret_i64 (by rw [H.out]), rfl⟩
    · have H : Hid (clampI n lo hi = lo) := Lib.hid (by unfold clampI; by_cases h3 : hi < lo; (rw [if_pos (.inl h3)]); (obtain rfl : hi = lo := by omega); (rw [if_neg (by omega), if_pos h1]))
      go_enter Try.func10, Try.ntmps10
      go_wp2_with fail
      go_ret
      exact ⟨ret_i64 (by rw [H.out]), rfl⟩
  · by_cases h2 : lo < n
    · have H : Hid (clampI n lo hi = n) := Lib.hid (by unfold clampI; rw [if_neg (by omega), if_neg h1])
      go_enter Try.func10, Try.ntmps10
      go_wp2_with fail
      go_ret
      exact ⟨ret_i64 (by rw [H.out]), rfl⟩
    · have H : Hid (clampI n lo hi = lo) := Lib.hid (by unfold clampI; by_cases h3 : hi < lo ∨ n < lo; (rw [if_pos h3]); (rw [if_neg h3, if_neg h1]; omega))
      go_enter Try.func10, Try.ntmps10
      go_wp2_with fail
      go_ret
      exact ⟨ret_i64 (by rw [H.out]), rfl⟩
end Go.Proofs.Ytipaagcnkflebaa.DrawClamp

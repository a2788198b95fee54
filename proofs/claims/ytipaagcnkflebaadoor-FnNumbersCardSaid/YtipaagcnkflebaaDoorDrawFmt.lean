/-
  What the model draws for FormatInt: one int; and what the numeral of any int reads as.
-/
import Derived.Test.YtipaagcnkflebaaDoorDrawNum
import Derived.Test.YtipaagcnkflebaaDoorNumMath
namespace Go.Proofs.YtipaagcnkflebaaDoor.DrawFmt
open Go.RowKit Draw DrawNum NumMath FmtMath Go.Lib

/-- An int came back; nothing that was there was written. -/
def OneP (w : World) (e : Ending) (w' : World) : Prop := ∃ n : Int, Fits n ∧ e = .returned (.int .i64 n) ∧ Below w.heap.size w w'
theorem below_of {w w1 w' : World} {cb : Nat} (hb : Below w.heap.size w w1) (h : w1.grownBy w' (some cb)) (hc : w.heap.size ≤ cb) : Below w.heap.size w w' :=
  hb.grown h hb.size (fun k e => by injection e with e; omega)

set_option maxRecDepth 100000 in
set_option maxHeartbeats 800000 in
theorem drawFmt (w : World) (A : Option Addr) (n cap : Nat) (hn : n ≤ 1048576) (hcode : Draw.Code w w.heap.size A n) :
    Calls Tryd.prog 13 #[.slice A n cap] w (OneP w) := by
  have HC := Lib.hid hcode
  clear hcode
  go_enter Tryd.func13, Tryd.ntmps13
  go_wp2_with fail
  refine (newCur _ A n cap hn HC.out).mono ?_
  rintro e w1 ⟨rfl, hs1, hb1⟩
  go_wp2_with fail
  refine (once _ w.heap.size A n cap hs1 3 (by omega)).mono ?_
  rintro e w2 ⟨b, rfl, hs2, hg2⟩
  have hb2 := below_of hb1 hg2 (Nat.le_refl _)
  clear hs1 hg2 hb1
  cases b
  · go_wp2_with fail
    refine (number _ w.heap.size A n cap hs2).mono ?_
    rintro e w3 ⟨x, hx, rfl, hs3, hg3⟩
    have hx2 := Lib.hid hx
    clear hx
    go_wp2_with fail
    go_ret
    exact ⟨_, hx2.out, rfl, below_of hb2 hg3 (Nat.le_refl _)⟩
  · go_wp2_with fail
    refine (below _ w.heap.size A n cap hs2 1000000 (by omega)).mono ?_
    rintro e w3 ⟨x, ⟨hx0, hx1⟩, rfl, hs3, hg3⟩
    go_wp2_with fail
    refine (below _ w.heap.size A n cap hs3 2000000 (by omega)).mono ?_
    rintro e w4 ⟨y, ⟨hy0, hy1⟩, rfl, hs4, hg4⟩
    go_wp2_with fail
    go_ret
    exact ⟨_, (by unfold Fits; first | exact wrap64_wf _ | exact wf_wrap .i64 _ | exact wf_wrap _), rfl, below_of hb2 (grown_trans hg3 hg4) (Nat.le_refl _)⟩

/-- The numeral of a number in the range reads as that number; no other int's numeral does. -/
theorem ans_in {n : Int} (h0 : 0 ≤ n) (h1 : n ≤ 1000000000) : ansB (itoa n) = true ∧ (ansN (itoa n) : Int) = n := by
  obtain ⟨m, rfl⟩ := Int.eq_ofNat_of_zero_le h0
  rw [itoa_pos rfl]
  have := ansN_yes (l := decDigits m) (n := m) (by omega) rfl
  exact ⟨this.1, by rw [this.2]⟩
theorem ans_out {n : Int} (h : n < 0 ∨ 1000000000 < n) : ansB (itoa n) = false := by
  rcases h with h | h
  · obtain ⟨m, rfl⟩ : ∃ m : Nat, n = -(m : Int) := ⟨n.natAbs, by omega⟩
    rw [itoa_neg (by omega) rfl]
    exact ansB_bad (c := 45) (by simp) (by decide)
  · obtain ⟨m, rfl⟩ := Int.eq_ofNat_of_zero_le (show 0 ≤ n by omega)
    rw [itoa_pos rfl]
    exact ansB_val (.inl (by rw [val_decDigits]; omega))
theorem itoa_len (n : Int) (h0 : -9223372036854775808 ≤ n) (h1 : n ≤ 9223372036854775807) : (itoa n).length ≤ 21 := by
  unfold itoa
  split
  · rw [List.length_cons, decDigits_length]
    have := nDigits_le 20 n.natAbs (by omega) (by omega)
    omega
  · rw [decDigits_length]
    have := nDigits_le 20 n.toNat (by omega) (by omega)
    omega
theorem itoa_ne (n : Int) : itoa n ≠ [] := by
  unfold itoa
  split
  · simp
  · intro e
    have := decDigits_length n.toNat
    rw [e] at this
    have := nDigits_pos n.toNat
    simp at *
    omega
end Go.Proofs.YtipaagcnkflebaaDoor.DrawFmt

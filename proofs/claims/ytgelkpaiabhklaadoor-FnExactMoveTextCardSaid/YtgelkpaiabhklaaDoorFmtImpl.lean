/-
  What the landed FormatInt does, as a contract: the decimal numeral; no old cell is written. It leans on the library's table of powers of ten, which the row lists.
-/
import Derived.Test.YtgelkpaiabhklaaDoorFmtMath
import Derived.Test.YtgelkpaiabhklaaDoorShelf
import Derived.Test.YtgelkpaiabhklaaDoorChecked
import Derived.WalkKit
import Derived.ProofKit
import Derived.Lib.Hide
import Derived.Lib.AppendIntMem
namespace Go.Proofs.YtgelkpaiabhklaaDoor.FmtImpl
open Go.RowKit Go.Lib FmtMath

theorem format (n : Int) (h0 : -9223372036854775808 ≤ n) (h1 : n ≤ 9223372036854775807) (w : World) (htab : Lib.TabIs Tryd.prog w "internal/strconv.uint64pow10" .u64 Lib.pow10Tab) :
    Calls Tryd.prog 20 #[.int .i64 n] w fun e w' => e = .returned (.string ⟨(itoa n).toArray⟩) ∧ Below w.heap.size w w' := by
  have hc := (Tryd.strconv_Itoa n h0 h1 w htab).mono (R' := fun e w' => e = .returned (.string ⟨(itoa n).toArray⟩) ∧ Below w.heap.size w w') fun e w' ⟨he, k, os, hw⟩ => ⟨he, by rw [hw]; exact Lib.below_grow _ w (Nat.le_refl _) k os⟩
  have HC := Lib.hid hc
  generalize (⟨(itoa n).toArray⟩ : ByteArray) = S at HC ⊢
  clear hc htab h0 h1
  go_enter Tryd.func20, Tryd.ntmps20
  go_wp2_with fail
  refine HC.out.mono ?_
  rintro e w1 ⟨rfl, hb⟩
  go_wp2_with fail
  go_ret
  exact ⟨rfl, hb⟩

/-- .. at a number below a hundred: no table is read. -/
theorem format_small (i : Nat) (hi : i < 100) (w : World) :
    Calls Tryd.prog 20 #[.int .i64 (i : Int)] w fun e w' => e = .returned (.string ⟨(decDigits i).toArray⟩) ∧ w = w' := by
  have HC := Lib.hid (Tryd.strconv_Itoa_small i hi w)
  generalize (⟨(decDigits i).toArray⟩ : ByteArray) = S at HC ⊢
  go_enter Tryd.func20, Tryd.ntmps20
  go_wp2_with fail
  refine HC.out.mono ?_
  rintro e w1 ⟨rfl, rfl⟩
  go_wp2_with fail
  go_ret
  exact ⟨rfl, rfl⟩
end Go.Proofs.YtgelkpaiabhklaaDoor.FmtImpl

/-
  'string([]byte{c})' is a text of one byte.
-/
import Derived.Test.YtipaagcnkflebaaDoorChecked
import Derived.WalkKit
import Derived.ProofKit
import Derived.Deep.AppendLies
import Derived.Laws.IdiomStrings
namespace Go.Proofs.YtipaagcnkflebaaDoor.ConvOne
open Go.RowKit

theorem conv_one (W : World) (c : UInt8) : ∃ C : ByteArray, C.data.toList = [c] ∧
    (convert 22 9 (.slice (some ⟨W.heap.size, 0, none⟩) 1 1)).run Tryd.prog (W.alloc (.cells #[.int .u8 (c.toNat : Int)] 5)) = .ok (.string C) (W.alloc (.cells #[.int .u8 (c.toNat : Int)] 5)) := by
  refine ⟨⟨[c].toArray⟩, rfl, ?_⟩
  exact run_convert_bytes_back (P := Tryd.prog) (W.alloc (.cells #[.int .u8 (c.toNat : Int)] 5)) 22 9 5 ⟨W.heap.size, 0, none⟩ 1 [c] Tryd.underlying22 Tryd.underlying5 Tryd.underlying9 (fun j hj => by
    have hj0 : j = 0 := by simpa using hj
    subst hj0
    exact World.news_of_block (heap_alloc_new W (.cells #[.int .u8 (c.toNat : Int)] 5)) 0 _ (by simp))
/-- .. at a byte that a drawn number gives. -/
theorem conv_num (W : World) (x : Int) (h0 : 0 ≤ x) (h1 : x ≤ 255) : ∃ C : ByteArray, C.size ≤ 1 ∧
    (convert 22 9 (.slice (some ⟨W.heap.size, 0, none⟩) 1 1)).run Tryd.prog (W.alloc (.cells #[.int .u8 x] 5)) = .ok (.string C) (W.alloc (.cells #[.int .u8 x] 5)) := by
  obtain ⟨C, hC, h⟩ := conv_one W (UInt8.ofNat x.toNat)
  have e : ((UInt8.ofNat x.toNat).toNat : Int) = x := by simp; omega
  rw [e] at h
  exact ⟨C, by show C.data.size ≤ 1; rw [← Array.length_toList, hC]; exact Nat.le_refl _, h⟩
end Go.Proofs.YtipaagcnkflebaaDoor.ConvOne

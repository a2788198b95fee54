/-
  Plain facts on the fields of a line: what is complete and what is open behind each byte. No program stands here.
-/
import Derived.WalkKit
namespace Go.Proofs.Ytcfoleiooohbhaa.SplitMath
open Go.RowKit

/-- Behind one byte more: the complete fields, the open one. -/
def st (x : List (List UInt8) × List UInt8) (c : UInt8) : List (List UInt8) × List UInt8 :=
  if c = 32 then (if x.2 = [] then (x.1, []) else (x.1 ++ [x.2], [])) else (x.1, x.2 ++ [c])
def run (l : List UInt8) : List (List UInt8) × List UInt8 := l.foldl st ([], [])
def done (l : List UInt8) : List (List UInt8) := (run l).1
def cur (l : List UInt8) : List UInt8 := (run l).2
def fields (l : List UInt8) : List (List UInt8) := if cur l = [] then done l else done l ++ [cur l]
def okByte (c : UInt8) : Bool := decide (32 ≤ c.toNat ∧ c.toNat ≤ 126)

def ansB (l : List UInt8) : Bool := decide (l.length ≤ 600) && l.all okByte && decide ((fields l).length ≤ 24)
def ansF (l : List UInt8) : List (List UInt8) := if ansB l = true then fields l else []

theorem run_snoc (l : List UInt8) (c : UInt8) : run (l ++ [c]) = st (run l) c := by simp [run, List.foldl_append]
theorem done_nil : done [] = [] := rfl
theorem cur_nil : cur [] = [] := rfl
theorem step_other {l : List UInt8} {c : UInt8} (h : c ≠ 32) : done (l ++ [c]) = done l ∧ cur (l ++ [c]) = cur l ++ [c] := by
  unfold done cur; rw [run_snoc]; simp [st, h]
theorem step_space_empty {l : List UInt8} (h : cur l = []) : done (l ++ [32]) = done l ∧ cur (l ++ [32]) = [] := by
  unfold done cur at *; rw [run_snoc]; simp [st, h]
theorem step_space_full {l : List UInt8} (h : cur l ≠ []) : done (l ++ [32]) = done l ++ [cur l] ∧ cur (l ++ [32]) = [] := by
  unfold done cur at *; rw [run_snoc]; simp [st, h]
theorem fields_empty {l : List UInt8} (h : cur l = []) : fields l = done l := by simp [fields, h]
theorem fields_full {l : List UInt8} (h : cur l ≠ []) : fields l = done l ++ [cur l] := by simp [fields, h]

/-- Never more fields, and never a longer open one, than bytes. -/
theorem sizes (l : List UInt8) : (done l).length + (cur l).length ≤ l.length := by
  generalize hn : l.length = n
  induction n generalizing l with
  | zero =>
    have : l = [] := List.eq_nil_of_length_eq_zero hn
    subst this; simp [done_nil, cur_nil]
  | succ n ih =>
    have hne : l ≠ [] := by intro e; subst e; simp at hn
    obtain ⟨r, c, rfl⟩ : ∃ r c, l = r ++ [c] := ⟨l.dropLast, l.getLast hne, (List.dropLast_concat_getLast hne).symm⟩
    simp only [List.length_append, List.length_cons, List.length_nil] at hn
    have := ih r (by omega)
    by_cases hc : c = 32
    · subst hc
      by_cases h : cur r = []
      · rw [(step_space_empty h).1, (step_space_empty h).2]; simp; omega
      · have h1 : 0 < (cur r).length := List.length_pos_iff.2 h
        rw [(step_space_full h).1, (step_space_full h).2]; simp; omega
    · rw [(step_other hc).1, (step_other hc).2]; simp; omega

theorem ansB_long {l : List UInt8} (h : 600 < l.length) : ansB l = false := by
  have : decide (l.length ≤ 600) = false := by simp; omega
  simp [ansB, this]
theorem ansB_bad {l : List UInt8} {c : UInt8} (hc : c ∈ l) (h : okByte c = false) : ansB l = false := by
  have : l.all okByte = false := by
    cases e : l.all okByte with
    | false => rfl
    | true => rw [List.all_eq_true] at e; rw [e c hc] at h; cases h
  simp [ansB, this]
theorem ansB_many {l : List UInt8} (h : 24 < (fields l).length) : ansB l = false := by
  have : decide ((fields l).length ≤ 24) = false := by simp; omega
  simp [ansB, this]
theorem ansB_good {l : List UInt8} (h1 : l.length ≤ 600) (h2 : l.all okByte = true) (h3 : (fields l).length ≤ 24) : ansB l = true := by simp [ansB, h1, h2, h3]
theorem ansF_no {l : List UInt8} (h : ansB l = false) : ansF l = [] := by simp [ansF, h]
theorem ansF_yes {l : List UInt8} (h : ansB l = true) : ansF l = fields l := by simp [ansF, h]

/-- A list of texts as cells. -/
def strCells (fs : List (List UInt8)) : List Value := fs.map fun f => .string ⟨f.toArray⟩
theorem strCells_length (fs : List (List UInt8)) : (strCells fs).length = fs.length := by simp [strCells]
theorem strCells_snoc (fs : List (List UInt8)) (f : List UInt8) : strCells fs ++ [.string ⟨f.toArray⟩] = strCells (fs ++ [f]) := by simp [strCells]
theorem take_snoc (s : ByteArray) (k : Nat) (h : k < s.size) : s.data.toList.take (k + 1) = s.data.toList.take k ++ [s[k]] := by
  rw [List.take_succ_eq_append_getElem (by simpa using h)]; rfl
theorem mem_at (s : ByteArray) (k : Nat) (h : k < s.size) : s[k] ∈ s.data.toList := by
  have : s[k] = s.data.toList[k]'(by simpa using h) := rfl
  rw [this]; exact List.getElem_mem _
end Go.Proofs.Ytcfoleiooohbhaa.SplitMath

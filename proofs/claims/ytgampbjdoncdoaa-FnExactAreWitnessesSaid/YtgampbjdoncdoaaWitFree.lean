/-
  The corners that no witness has taken: a set of the call's own. How a number is taken out of it; what freeCorners makes.
-/
import Derived.Maps.OwnSet
import Derived.Test.YtgampbjdoncdoaaIntSet
import Derived.Test.YtgampbjdoncdoaaInNumImpl
import Derived.Test.YtgampbjdoncdoaaSeeImpl
import Derived.Test.YtgampbjdoncdoaaGround
namespace Go.Proofs.Ytgampbjdoncdoaa.WitFree
open Go.RowKit Go.Maps Own PointMath RoomMath Pts Blk IntSet
open PointOk (ret_bool ret_i64 below1 below2 below3)

section
variable {ops : Array Oper} {rest : List Oper} {o : Oper} {a : Act} {Q : Exit → Act → World → Prop}
set_option maxRecDepth 100000 in
theorem wpList_delete_set (w : World) (hg : o.guard = none) (m x : Operand) (t k : TypeId) (hop : o.op = Op.call { callee := Callee.builtin Builtin.delete, args := #[m, x], argTypes := #[t, k] }) (hk : k = 3)
    (ht : Try.prog.underlying t = some (.map 3 4)) (b n : Nat) (f : Int → Bool) (hm : a.eval m = .map (some b)) (hs : SetAt w b n f)
    (px : Int) (hx : a.eval x = .int .i64 px) (wx : (Lit.int .i64 px).wf = true)
    (hK : ∀ w', SetAt w' b n (fun p => f p && !decide (p = px)) → w.grownBy w' (some b) → wpList Try.prog ops Q rest (a.put o.dst (.tuple #[])) w') : wpList Try.prog ops Q (o :: rest) a w := by
  subst hk
  obtain ⟨D, hown, hmap, hat⟩ := hs
  obtain ⟨kl, hkey⟩ := key_some wx
  refine wpList_delete_own w hg m x t _ hop _ keyed ht _ b n D hm hown _ kl hx hkey ?_
  intro w' h1 h2
  refine hK w' ⟨_, h1, hmap.del _, ?_⟩ h2.grown
  intro x' kl' hkl
  by_cases e : kl' = kl
  · subst e
    have e2 := keyed.inj hkl hkey
    injection e2 with e2 e3
    subst e3
    rw [atKey_del_same]
    simp
  · rw [atKey_del_other e, hat x' kl' hkl]
    have hne : x' ≠ px := fun h => by
      subst h
      rw [hkey] at hkl
      injection hkl with hkl
      exact e hkl.symm
    simp [hne]
end

def upF (k : Nat) : Int → Bool := fun x => decide (0 ≤ x) && decide (x < (k : Int))
theorem upF_zero : upF 0 = fun _ => false := by
  funext x; unfold upF; rw [Bool.eq_iff_iff]; simp <;> omega
theorem upF_succ (k : Nat) : (fun x => decide (x = (k : Int)) || upF k x) = upF (k + 1) := by
  funext x; unfold upF; rw [Bool.eq_iff_iff]; simp <;> omega

set_option maxRecDepth 100000 in
set_option maxHeartbeats 1600000 in
theorem freeCorners (A : Option Addr) (n cap : Nat) (w : World) (hn : n ≤ 1000) :
    Calls Try.prog 104 #[.agg #[.slice A n cap]] w fun e w' => ∃ b, e = .returned (.map (some b)) ∧ SetAt w' b n (upF n) ∧ w.heap.size ≤ b ∧ Below w.heap.size w w' := by
  have hmm := @run_makeMap Try.prog
  go_enter Try.func104, Try.ntmps104
  go_wp2_with fail
  have X0 : Holds ((w.alloc (Obj.cells #[.slice A n cap] 63)).alloc (.map #[] 0)) w.heap.size #[.slice A n cap] 63 := (Holds.new w _ _).alloc _
  obtain ⟨_, _⟩ := X0.one
  have HM := made (w.alloc (Obj.cells #[.slice A n cap] 63))
  have hz : (w.alloc (Obj.cells #[.slice A n cap] 63)).heap.size = w.heap.size + 1 := by simp
  rw [hz] at HM
  rw [← upF_zero] at HM
  replace HM := Lib.hid HM
  have hB : Below w.heap.size w ((w.alloc (Obj.cells #[.slice A n cap] 63)).alloc (.map #[] 0)) := (below1 w _).trans ((Below.refl _ _).alloc (by simp) _)
  go_wp2_with fail
  clear hmm
  generalize ((w.alloc (Obj.cells #[.slice A n cap] 63)).alloc (.map #[] 0)) = w0 at *
  clear hz
  go_loopw [9] (fun q wr => ∃ k : Nat, k ≤ n ∧ q = .int .i64 k ∧ Hid (SetAt wr (w.heap.size + 1) k (upF k)) ∧ Below w.heap.size w wr)
    (fun q _ => n - (intOf q).toNat)
  case atStart => exact ⟨0, Nat.zero_le _, rfl, HM, hB⟩
  case round =>
    clear HM hB
    obtain ⟨k, hkn, rfl, hset, hB⟩ := hrel
    by_cases hlt : k < n
    · have hk1 : (k : Int) < (n : Int) := by omega
      have hk0 : (0 : Int) ≤ (k : Int) := by omega
      have uk : IntKind.i64.wrap ((k : Int) + 1) = (k : Int) + 1 := IntWalk.i64_in _ (by omega)
      have wk := wf_small (x := (k : Int)) (by omega)
      have hsz := hB.size
      go_wp2_with (at_mapUpdate; refine wpList_update_set _ rfl _ _ _ 129 rfl Try.underlying129 (w.heap.size + 1) k _ rfl hset.out (by unfold maxLen; omega) (k : Int) rfl wk rfl ?_)
      intro w5 h5 hg5
      have hB5 : Below w.heap.size w w5 := hB.grown hg5 hsz (fun i hi => by injection hi with hi; omega)
      rw [upF_succ] at h5
      replace h5 := Lib.hid h5
      clear hset hB hg5
      go_wp2_with fail
      first
        | exact ⟨⟨k + 1, by omega, by go_num, h5, hB5⟩, by simp [intOf]; omega⟩
        | (go_roundw <;> first | exact ⟨k + 1, by omega, by go_num, h5, hB5⟩ | (simp [intOf]; omega))
    · obtain rfl : n = k := by omega
      go_wp2_with fail
      go_ret
      exact ⟨_, rfl, hset.out, by omega, hB⟩

set_option maxRecDepth 100000 in
theorem taken (k : Int) (C b nn : Nat) (f : Int → Bool) (w : World) (hC : Holds w C #[.map (some b)] 129) (hs : SetAt w b nn f) (wk : (Lit.int .i64 k).wf = true) :
    Calls Try.prog 147 (#[.int .i64 k] ++ #[.pointer (some ⟨C, 0, none⟩)]) w fun e w' => e = .returned (.bool (!f k)) ∧ Below w.heap.size w w' := by
  show Calls Try.prog 147 #[.int .i64 k, .pointer (some ⟨C, 0, none⟩)] w _
  obtain ⟨c, hc⟩ : ∃ c, f k = c := ⟨_, rfl⟩
  rw [hc]
  obtain ⟨_, _⟩ := hC.one
  replace hs := Lib.hid hs
  replace hc := Lib.hid hc
  go_enter Try.func147, Try.ntmps147
  go_wp2_with (at_lookup; refine wpList_lookup_set _ rfl _ _ 129 rfl Try.underlying129 b nn _ rfl hs.out k rfl wk c hc.out ?_)
  go_ret
  exact ⟨rfl, Below.refl _ _⟩
end Go.Proofs.Ytgampbjdoncdoaa.WitFree

/-
  What the landed MoveRoom does, as a contract: the room in new memory and whether it may stand; no old cell is written.
-/
import Derived.Test.YtgelkpaiabhklaaMovImpl
namespace Go.Proofs.Ytgelkpaiabhklaa.MovRoom
open Go.RowKit Own PointMath WallMath RoomMath Pts Blk AreaMath TurnrMath MovMath RoomRes
open PointOk (ret_bool ret_i64 below1 below2 below3)

/-- A room of these corners in memory of its own, and a word on it. -/
def GivesRB (T : TypeId) (w : World) (l : List (Int × Int)) (b : Bool) (en : Ending) (w' : World) : Prop :=
  ∃ A c, en = .returned (.tuple #[.agg #[.slice A l.length c], .bool b]) ∧ w'.ownsRow w.heap.size T 2 (.slice A l.length c) l.length (cellsP l) ∧ Below w.heap.size w w'
theorem own_pts {w : World} {b T n c : Nat} {A : Option Addr} {ps : List (Int × Int)} (h : w.ownsRow b T 2 (.slice A n c) n (cellsP ps)) (hl : ps.length = n) : PtsAt w w.heap.size A ps := by
  intro j hj
  obtain ⟨g, c', hv, hb, hlt⟩ := h.form (by omega)
  obtain ⟨rfl, rfl⟩ : A = some ⟨g, 0, none⟩ ∧ c = c' := by injection hv with h1 _ h3; exact ⟨h1, h3⟩
  obtain ⟨e0, e1⟩ := cellsP_at ps j hj
  exact ⟨_, rfl, hlt, by rw [add_head]; exact (h.cellAt (j * 2) (by omega)).trans e0, by rw [add_head]; exact (h.cellAt (j * 2 + 1) (by omega)).trans e1⟩

set_option maxRecDepth 100000 in
theorem isMove (n : Int) (w : World) : Calls Try.prog 88 #[.int .i64 n] w fun e w' => e = .returned (.bool (isMv n)) ∧ w = w' := by
  by_cases h1 : -80 ≤ n
  · by_cases h2 : n ≤ 80
    · rw [show isMv n = true from decide_eq_true ⟨h1, h2⟩]
      go_enter Try.func88, Try.ntmps88
      go_wp2_with fail
      go_ret
      exact ⟨rfl, rfl⟩
    · rw [show isMv n = false from decide_eq_false (fun h => h2 h.2)]
      go_enter Try.func88, Try.ntmps88
      go_wp2_with fail
      go_ret
      exact ⟨rfl, rfl⟩
  · rw [show isMv n = false from decide_eq_false (fun h => h1 h.1)]
    go_enter Try.func88, Try.ntmps88
    go_wp2_with fail
    go_ret
    exact ⟨rfl, rfl⟩

set_option maxRecDepth 100000 in
set_option maxHeartbeats 4000000 in
theorem moveRoom (A : Option Addr) (n cap : Nat) (dx dy : Int) (w : World) (ps : List (Int × Int)) (hl : ps.length = n) (hn : n ≤ 1048576) (_hcap : n ≤ cap) (hp : PtsAt w w.heap.size A ps) :
    Calls Try.prog 35 #[.agg #[.slice A n cap], .int .i64 dx, .int .i64 dy] w (GivesRB 118 w (if movOk dx dy ps then movL dx dy ps else []) (movOk dx dy ps)) := by
  obtain ⟨o, ho⟩ : ∃ o, movOk dx dy ps = o := ⟨_, rfl⟩
  have HR := Lib.hid ho
  rw [ho]
  clear ho
  obtain ⟨l0, hl0⟩ : ∃ l0, (if o = true then movL dx dy ps else []) = l0 := ⟨_, rfl⟩
  have HL0 := Lib.hid hl0
  rw [hl0]
  clear hl0
  have hmf : ∀ (fn : Fn) (first cap : Array Value) (w : World), (Instr.makeFunc fn first cap).run Try.prog w = .ok (.func fn first cap) w := fun _ _ _ _ => rfl
  go_enter Try.func35, Try.ntmps35
  go_wp2_with fail
  have X0 := (Pts.boxR w (.slice A n cap) 50 (k := w.heap.size) (by simp)).alloc (Obj.cells #[.slice none 0 0] 50)
  have X1 := Blk.Holds.box (w.alloc (Obj.cells #[.slice A n cap] 50)) #[.slice none 0 0] 50 (k := w.heap.size + 1) (by simp)
  have b0 := PointOk.below2 w (Obj.cells #[.slice A n cap] 50) (Obj.cells #[.slice none 0 0] 50)
  have HO : ∀ W W' : World, (Pts.BoxR W (w.heap.size) (.slice A n cap) ∧ Blk.Holds W (w.heap.size + 1) #[.slice none 0 0] 50 ∧ PtsAt W w.heap.size A ps ∧ w.heap.size + 2 ≤ W.heap.size ∧ Below w.heap.size w W) → Below W.heap.size W W' → (Pts.BoxR W' (w.heap.size) (.slice A n cap) ∧ Blk.Holds W' (w.heap.size + 1) #[.slice none 0 0] 50 ∧ PtsAt W' w.heap.size A ps ∧ w.heap.size + 2 ≤ W'.heap.size ∧ Below w.heap.size w W') := fun W W' ⟨h0, h1, x0, x1, hb⟩ h => ⟨h0.later h, h1.later h, x0.later (h.mono hb.size), Nat.le_trans x1 h.size, hb.trans (h.mono hb.size)⟩
  have hz0_ : Hid ((((w.alloc (Obj.cells #[.slice A n cap] 50)).alloc (Obj.cells #[.slice none 0 0] 50))).heap.size = w.heap.size + 1 + 1) := Lib.hid (by simp)
  have Y0 : PtsAt (((w.alloc (Obj.cells #[.slice A n cap] 50)).alloc (Obj.cells #[.slice none 0 0] 50))) w.heap.size A ps := hp.later b0
  have Y1 : w.heap.size + 2 ≤ (((w.alloc (Obj.cells #[.slice A n cap] 50)).alloc (Obj.cells #[.slice none 0 0] 50))).heap.size := by simp
  generalize ((w.alloc (Obj.cells #[.slice A n cap] 50)).alloc (Obj.cells #[.slice none 0 0] 50)) = w0 at X0 X1 Y0 Y1 b0 hz0_ ⊢
  have S0 := (⟨X0, X1, Y0, Y1, b0⟩ : Pts.BoxR w0 (w.heap.size) (.slice A n cap) ∧ Blk.Holds w0 (w.heap.size + 1) #[.slice none 0 0] 50 ∧ PtsAt w0 w.heap.size A ps ∧ w.heap.size + 2 ≤ w0.heap.size ∧ Below w.heap.size w w0)
  clear X0 X1 Y0 Y1 b0
  obtain ⟨⟨_, _⟩, _, _, _, _⟩ := id S0
  refine (RoomOkImpl.roomOk A n cap _ ps hl hn (S0.2.2.1.wide S0.2.2.2.2.size)).mono ?_
  rintro e w1 ⟨rfl, hb_⟩
  replace S0 := HO _ _ S0 hb_
  clear hb_
  obtain ⟨⟨_, _⟩, _, _, _, _⟩ := id S0
  have QX := Lib.hid fun w => isMove dx w
  have QY := Lib.hid fun w => isMove dy w
  have HE : Hid (o = (roomB ps && isMv dx && isMv dy && roomB (movL dx dy ps))) := Lib.hid (by rw [← HR.out]; rfl)
  have hR := S0.2.1
  have E_ := Blk.set_own hR 0 (.slice none 0 0)
  obtain ⟨r0_, _⟩ := Blk.Holds.one E_
  have hb4 := Lib.hid (S0.2.2.2.2.trans (below_set w1 w.heap.size (w.heap.size + 1) 0 (.slice none 0 0) (by omega)))
  obtain ⟨_, _⟩ := hR.one
  cases hr : roomB ps
  · have E : Hid (o = false) := Lib.hid (by rw [HE.out, hr]; rfl)
    have EL : Hid (l0 = []) := Lib.hid (by rw [← HL0.out, E.out]; rfl)
    clear hl HR HE HL0 hR QX QY
    go_wp2_with fail
    refine bodyPost_ret (v := .tuple #[.agg #[.slice none 0 0], .bool false]) (by simp [results, Try.results35, go_sem, r0_]) rfl ⟨none, 0, by rw [E.out, EL.out]; rfl, by rw [EL.out]; exact World.ownsRow_nil _ _ _ _, hb4.out⟩
  go_wp2_with fail
  refine (QX.out _).mono ?_
  rintro e w_ ⟨rfl, rfl⟩
  cases hx : isMv dx
  · have E : Hid (o = false) := Lib.hid (by rw [HE.out, hr, hx]; rfl)
    have EL : Hid (l0 = []) := Lib.hid (by rw [← HL0.out, E.out]; rfl)
    clear hl HR HE HL0 hR QX QY
    go_wp2_with fail
    refine bodyPost_ret (v := .tuple #[.agg #[.slice none 0 0], .bool false]) (by simp [results, Try.results35, go_sem, r0_]) rfl ⟨none, 0, by rw [E.out, EL.out]; rfl, by rw [EL.out]; exact World.ownsRow_nil _ _ _ _, hb4.out⟩
  go_wp2_with fail
  refine (QY.out _).mono ?_
  rintro e w_ ⟨rfl, rfl⟩
  cases hy : isMv dy
  · have E : Hid (o = false) := Lib.hid (by rw [HE.out, hr, hx, hy]; rfl)
    have EL : Hid (l0 = []) := Lib.hid (by rw [← HL0.out, E.out]; rfl)
    clear hl HR HE HL0 hR QX QY
    go_wp2_with fail
    refine bodyPost_ret (v := .tuple #[.agg #[.slice none 0 0], .bool false]) (by simp [results, Try.results35, go_sem, r0_]) rfl ⟨none, 0, by rw [E.out, EL.out]; rfl, by rw [EL.out]; exact World.ownsRow_nil _ _ _ _, hb4.out⟩
  have hoka := (roomB_yes hr).2.1
  have QM : Hid (∀ w hp, _) := Lib.hid fun w hp => MovImpl.movedBy dx dy (of_decide_eq_true hx) (of_decide_eq_true hy) A n cap w ps hl hn (fun k hk => okAll_at hoka (k := k) (by omega)) hp
  obtain ⟨q, hq⟩ : ∃ q, mvTo (gPlus dx dy ps) n = q := ⟨_, rfl⟩
  have hql : q.length = n := by rw [← hq, mvTo_len]
  have hqm : movL dx dy ps = q := by unfold movL; rw [hl]; exact hq
  have HE2 : Hid (o = roomB q) := Lib.hid (by rw [HE.out, hr, hx, hy, hqm]; rfl)
  rw [hq] at QM
  rw [hqm] at HL0
  unfold GivesR at QM
  rw [hql] at QM
  clear hl HR HE hr hoka hq hqm hx hy QX QY r0_ hb4 hR
  go_wp2_with fail
  refine (QM.out _ (S0.2.2.1.wide S0.2.2.2.2.size)).mono ?_
  rintro e w5 ⟨A1, c1, rfl, H1, hb_⟩
  have hw1 : w.heap.size + 2 ≤ w1.heap.size := S0.2.2.2.1
  replace S0 := HO _ _ S0 hb_
  replace H1 := own_base H1 (b' := w.heap.size + 2) hw1
  clear hb_ QM hw1
  obtain ⟨kb, hkb⟩ : ∃ kb, kb = w5.heap.size := ⟨_, rfl⟩
  have HB := Blk.Holds.box w5 #[.slice A1 n c1] 50 (k := kb) hkb
  have H2 := own_below H1 (below1 w5 (Obj.cells #[.slice A1 n c1] 50))
  replace S0 := HO _ _ S0 (below1 w5 (Obj.cells #[.slice A1 n c1] 50))
  clear H1
  go_wp2_with fail
  try rw [← hkb]
  generalize w5.alloc (Obj.cells #[.slice A1 n c1] 50) = w6 at *
  try clear hkb
  have QV := Lib.hid (RoomOkImpl.roomOk A1 n c1 w6 q hql hn (own_pts H2 hql))
  refine QV.out.mono ?_
  rintro e w7 ⟨rfl, hb_⟩
  replace S0 := HO _ _ S0 hb_
  replace HB := HB.later hb_
  replace H2 := own_below H2 hb_
  clear hb_ QV
  obtain ⟨_, _⟩ := HB.one
  have hR := S0.2.1
  obtain ⟨_, _⟩ := hR.one
  cases hq2 : roomB q
  · have E : Hid (o = false) := Lib.hid (by rw [HE2.out, hq2])
    have EL : Hid (l0 = []) := Lib.hid (by rw [← HL0.out, E.out]; rfl)
    have E_ := Blk.set_own hR 0 (.slice none 0 0)
    obtain ⟨r0_, _⟩ := Blk.Holds.one E_
    have hb4 := Lib.hid (S0.2.2.2.2.trans (below_set w7 w.heap.size (w.heap.size + 1) 0 (.slice none 0 0) (by omega)))
    clear HE2 HL0 hR H2 hql
    go_wp2_with fail
    refine bodyPost_ret (v := .tuple #[.agg #[.slice none 0 0], .bool false]) (by simp [results, Try.results35, go_sem, r0_]) rfl ⟨none, 0, by rw [E.out, EL.out]; rfl, by rw [EL.out]; exact World.ownsRow_nil _ _ _ _, hb4.out⟩
  · have E : Hid (o = true) := Lib.hid (by rw [HE2.out, hq2])
    have EL : Hid (l0 = q) := Lib.hid (by rw [← HL0.out, E.out]; rfl)
    have E_ := Blk.set_own hR 0 (.slice A1 n c1)
    obtain ⟨r0_, _⟩ := Blk.Holds.one E_
    have hown4 := Lib.hid (own_set H2 (w.heap.size + 1) 0 (.slice A1 n c1) (by omega))
    have hb4 := Lib.hid (S0.2.2.2.2.trans (below_set w7 w.heap.size (w.heap.size + 1) 0 (.slice A1 n c1) (by omega)))
    have hql := Lib.hid hql
    clear HE2 HL0 hR H2
    go_wp2_with fail
    refine bodyPost_ret (v := .tuple #[.agg #[.slice A1 n c1], .bool true]) (by simp [results, Try.results35, go_sem, r0_]) rfl ⟨A1, c1, by rw [E.out, EL.out, hql.out], by rw [EL.out, hql.out]; exact own_base hown4.out (by omega), hb4.out⟩

end Go.Proofs.Ytgelkpaiabhklaa.MovRoom


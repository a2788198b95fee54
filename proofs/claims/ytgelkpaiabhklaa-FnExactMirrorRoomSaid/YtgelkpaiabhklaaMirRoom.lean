/-
  What the landed MirrorRoom does, as a contract: the room in new memory; no old cell is written.
-/
import Derived.Test.YtgelkpaiabhklaaMirImpl
import Derived.Test.YtgelkpaiabhklaaRevImpl
namespace Go.Proofs.Ytgelkpaiabhklaa.MirRoom
open Go.RowKit Own PointMath WallMath RoomMath Pts Blk AreaMath TurnrMath MirMath RoomRes
open PointOk (ret_bool ret_i64 below1 below2 below3)

set_option maxRecDepth 100000 in
set_option maxHeartbeats 4000000 in
theorem mirrorRoom (A : Option Addr) (n cap : Nat) (w : World) (ps : List (Int × Int)) (hl : ps.length = n) (hn : n ≤ 1048576) (_hcap : n ≤ cap) (hp : PtsAt w w.heap.size A ps) :
    Calls Try.prog 31 #[.agg #[.slice A n cap]] w (GivesR 118 w (mirL ps)) := by
  obtain ⟨r, hr⟩ : ∃ r, mirL ps = r := ⟨_, rfl⟩
  have HR := Lib.hid hr
  rw [hr]
  clear hr
  go_enter Try.func31, Try.ntmps31
  go_wp2_with fail
  have X0 := (Pts.boxR w (.slice A n cap) 50 (k := w.heap.size) (by simp)).alloc (Obj.cells #[.slice none 0 0] 50)
  have X1 := Blk.Holds.box (w.alloc (Obj.cells #[.slice A n cap] 50)) #[.slice none 0 0] 50 (k := w.heap.size + 1) (by simp)
  have b0 := PointOk.below2 w (Obj.cells #[.slice A n cap] 50) (Obj.cells #[.slice none 0 0] 50)
  have HO : ∀ W W' : World, (Pts.BoxR W (w.heap.size) (.slice A n cap) ∧ Blk.Holds W (w.heap.size + 1) #[.slice none 0 0] 50 ∧ PtsAt W w.heap.size A ps ∧ w.heap.size + 2 ≤ W.heap.size ∧ Below w.heap.size w W) → Below W.heap.size W W' → (Pts.BoxR W' (w.heap.size) (.slice A n cap) ∧ Blk.Holds W' (w.heap.size + 1) #[.slice none 0 0] 50 ∧ PtsAt W' w.heap.size A ps ∧ w.heap.size + 2 ≤ W'.heap.size ∧ Below w.heap.size w W') := fun W W' ⟨h0, h1, x0, x1, hb⟩ h => ⟨h0.later h, h1.later h, x0.later (h.mono hb.size), Nat.le_trans x1 h.size, hb.trans (h.mono hb.size)⟩
  have hz0_ : Hid ((((w.alloc (Obj.cells #[.slice A n cap] 50)).alloc (Obj.cells #[.slice none 0 0] 50))).heap.size = w.heap.size + 1 + 1) := Lib.hid (by simp)
  have Y0 : PtsAt (((w.alloc (Obj.cells #[.slice A n cap] 50)).alloc (Obj.cells #[.slice none 0 0] 50))) w.heap.size A ps := hp.later b0
  have Y1 : w.heap.size + 2 ≤ (((w.alloc (Obj.cells #[.slice A n cap] 50)).alloc (Obj.cells #[.slice none 0 0] 50))).heap.size := by simp
  generalize ((w.alloc (Obj.cells #[.slice A n cap] 50)).alloc (Obj.cells #[.slice none 0 0] 50)) = w0 at X0 X1 Y0 Y1 b0 hz0_ ⊢
  have S0 := (⟨X0, X1, Y0, Y1, b0⟩ : Pts.BoxR w0 (w.heap.size) (.slice A n cap) ∧ Blk.Holds w0 (w.heap.size + 1) #[.slice none 0 0] 50 ∧ PtsAt w0 w.heap.size A ps ∧ w.heap.size + 2 ≤ w0.heap.size ∧ Below w.heap.size w w0)
  clear X0 X1 Y0 Y1 b0
  obtain ⟨⟨_, _⟩, _, _, _, _⟩ := id S0
  refine (RoomOkImpl.roomOk A n cap _ ps hl hn (S0.2.2.1.wide S0.2.2.2.2.size)).mono ?_
  rintro e w1 ⟨rfl, hb_⟩
  replace S0 := HO _ _ S0 hb_
  clear hb_
  obtain ⟨⟨_, _⟩, _, _, _, _⟩ := id S0
  cases hr : roomB ps
  · have E : Hid (r = []) := Lib.hid (by rw [← HR.out]; exact mirL_no hr)
    have hR := S0.2.1
    obtain ⟨_, _⟩ := hR.one
    have E_ := Blk.set_own hR 0 (.slice none 0 0)
    obtain ⟨r0_, _⟩ := Blk.Holds.one E_
    have hb4 := Lib.hid (S0.2.2.2.2.trans (below_set w1 w.heap.size (w.heap.size + 1) 0 (.slice none 0 0) (by omega)))
    clear hl HR hR
    go_wp2_with fail
    refine bodyPost_ret (v := .agg #[.slice none 0 0]) (by simp [results, Try.results31, go_sem, r0_]) rfl ⟨none, 0, by rw [E.out]; rfl, by rw [E.out]; exact World.ownsRow_nil _ _ _ _, hb4.out⟩
  have hoka := (roomB_yes hr).2.1
  have hn0 : 0 < n := by have := (roomB_yes hr).1; omega
  have QM : Hid (∀ w hp, _) := Lib.hid fun w hp => MirImpl.movedBy A n cap w ps hl hn (fun k hk => okAll_at hoka (k := k) (by omega)) hp
  obtain ⟨q, hq⟩ : ∃ q, mvTo (gFlip ps) n = q := ⟨_, rfl⟩
  have hql : q.length = n := by rw [← hq, mvTo_len]
  have E : Hid (q.reverse = r) := Lib.hid (by rw [← HR.out, mirL_yes hr, ← hq, flip_mir ps hl, hl])
  have hlr : r.length = n := by rw [← E.out, List.length_reverse, hql]
  rw [hq] at QM
  unfold GivesR at QM
  rw [hql] at QM
  clear hl HR hr hoka hq
  go_wp2_with fail
  refine (QM.out _ (S0.2.2.1.wide S0.2.2.2.2.size)).mono ?_
  rintro e w5 ⟨A1, c1, rfl, H1, hb_⟩
  replace S0 := HO _ _ S0 hb_
  replace H1 := own_base H1 (b' := w.heap.size + 2) (by have := S0.2.2.2.1; have := hb_.size; omega)
  clear hb_ QM
  obtain ⟨g, c1', hv, hbg, hlt⟩ := H1.form (by omega)
  obtain ⟨rfl, rfl⟩ : A1 = some ⟨g, 0, none⟩ ∧ c1 = c1' := by injection hv with h1 _ h3; exact ⟨h1, h3⟩
  clear hv
  obtain ⟨kb, hkb⟩ : ∃ kb, kb = w5.heap.size := ⟨_, rfl⟩
  have HB := Blk.Holds.box w5 #[.slice (some ⟨g, 0, none⟩) n c1] 50 (k := kb) hkb
  have H2 := own_below H1 (below1 w5 (Obj.cells #[.slice (some ⟨g, 0, none⟩) n c1] 50))
  replace S0 := HO _ _ S0 (below1 w5 (Obj.cells #[.slice (some ⟨g, 0, none⟩) n c1] 50))
  have hgk : g < kb := by omega
  clear H1 hlt
  go_wp2_with fail
  rw [← hkb]
  generalize w5.alloc (Obj.cells #[.slice (some ⟨g, 0, none⟩) n c1] 50) = w6 at *
  clear hkb
  obtain ⟨⟨_, _⟩, _, _, _, _⟩ := id S0
  obtain ⟨_, _⟩ := HB.one
  have QV := Lib.hid (RevImpl.reverse (w.heap.size + 2) g n c1 q hql hn w6 H2)
  rw [E.out] at QV
  clear hql E H2
  go_wp2_with fail
  refine QV.out.mono ?_
  rintro e w7 ⟨rfl, H1, hg_⟩
  have hbl : Below (w.heap.size + 2) w6 w7 := (Below.refl _ _).grown hg_ (by have := S0.2.2.2.1; omega) (fun g' hg' => by cases hg'; omega)
  have hlk := HB.lt
  have HB7 : Blk.Holds w7 kb #[.slice (some ⟨g, 0, none⟩) n c1] 50 := (hg_.block kb hlk (by simp; omega)).trans HB
  have hR7 : Blk.Holds w7 (w.heap.size + 1) #[.slice none 0 0] 50 := (hbl.block _ (by omega)).trans S0.2.1
  have hb7 : Below w.heap.size w w7 := S0.2.2.2.2.trans (hbl.mono (by omega))
  clear S0 HB hg_ hbl QV
  obtain ⟨_, _⟩ := HB7.one
  obtain ⟨_, _⟩ := hR7.one
  have E_ := Blk.set_own hR7 0 (.slice (some ⟨g, 0, none⟩) n c1)
  obtain ⟨r0_, _⟩ := Blk.Holds.one E_
  have hown4 := Lib.hid (own_set H1 (w.heap.size + 1) 0 (.slice (some ⟨g, 0, none⟩) n c1) (by omega))
  have hb4 := Lib.hid (hb7.trans (below_set w7 w.heap.size (w.heap.size + 1) 0 (.slice (some ⟨g, 0, none⟩) n c1) (by omega)))
  clear H1 hR7 hb7
  go_wp2_with fail
  refine bodyPost_ret (v := .agg #[.slice (some ⟨g, 0, none⟩) n c1]) (by simp [results, Try.results31, go_sem, r0_]) rfl ⟨some ⟨g, 0, none⟩, c1, by rw [hlr], by rw [hlr]; exact own_base hown4.out (by omega), hb4.out⟩

end Go.Proofs.Ytgelkpaiabhklaa.MirRoom


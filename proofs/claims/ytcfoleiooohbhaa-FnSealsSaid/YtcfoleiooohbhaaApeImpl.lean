/-
  What the landed AppendEntry does, as a contract: the record and, where it may be laid, the new entry behind it, in new memory.
-/
import Derived.Test.YtcfoleiooohbhaaApeMath
import Derived.Test.YtcfoleiooohbhaaEntRow
import Derived.Test.YtcfoleiooohbhaaEntryImpl
import Derived.Laws.OwnMore
namespace Go.Proofs.Ytcfoleiooohbhaa.ApeImpl
open Go.RowKit Own PointOk Blk TupISI SealMath EntryMath ApeMath EntRow

theorem ts_one (w : World) (z0 : Int) (z1 : ByteArray) (z2 : Int) (T : TypeId) : TsAt (w.alloc (Obj.cells #[.int .i64 z0, .string z1, .int .i64 z2] T)) (w.alloc (Obj.cells #[.int .i64 z0, .string z1, .int .i64 z2] T)).heap.size (some ⟨w.heap.size, 0, none⟩) [(z0, z1, z2)] := by
  intro j hj
  obtain rfl : j = 0 := by simpa using hj
  exact ⟨_, rfl, by simp, by simp [Addr.add], by simp [Addr.add], by simp [Addr.add]⟩

set_option maxRecDepth 100000 in
set_option maxHeartbeats 3200000 in
theorem appendEntry (A : Option Addr) (n cap : Nat) (m : Int) (s : ByteArray) (w : World) (ps : List Tu) (hl : ps.length = n) (hn : n ≤ 1048576) (hp : TsAt w w.heap.size A ps) (hc : n ≤ cap) :
    Calls Try.prog 22 #[.slice A n cap, .int .i64 m, .string s] w (GivesA 57 w (apeL ps m s) (okE ps m s)) := by
  have OFF : Hid (∀ (A1 : Option Addr) (c1 : Nat) (W : World), okE ps m s = false → W.ownsRow w.heap.size 57 3 (.slice A1 n c1) n (cellsT ps) → Below w.heap.size w W → GivesA 57 w (apeL ps m s) (okE ps m s) (.returned (.tuple #[.slice A1 n c1, .bool false])) W) := Lib.hid (fun A1 c1 W h ho hb => by
    rw [h, apeL_no h]
    exact ⟨A1, c1, by rw [hl], by rw [hl]; exact ho, hb⟩)
  have ON : Hid (∀ (A1 : Option Addr) (c1 : Nat) (W : World), okE ps m s = true → W.ownsRow w.heap.size 57 3 (.slice A1 (n + 1) c1) (n + 1) (cellsT ps ++ cellsT [(m, s, sealI (lastI ps) m s)]) → Below w.heap.size w W → GivesA 57 w (apeL ps m s) (okE ps m s) (.returned (.tuple #[.slice A1 (n + 1) c1, .bool true])) W) := Lib.hid (fun A1 c1 W h ho hb => by
    rw [h, apeL_yes h]
    have e : (ps ++ [(m, s, sealI (lastI ps) m s)]).length = n + 1 := by simp [hl]
    exact ⟨A1, c1, by rw [e], by rw [e, cellsT_app]; exact ho, hb⟩)
  generalize GivesA 57 w (apeL ps m s) (okE ps m s) = G at *
  have hn2 : n ≤ 1048576 := by omega
  go_enter Try.func22, Try.ntmps22
  go_wp2_with fail
  refine (clone A n cap w ps hl hn2 hp).mono ?_
  rintro e w1 ⟨A1, c1, rfl, hown, hb⟩
  rw [hl] at hown ⊢
  go_wp2_with fail
  refine (EntryImpl.isSealed A n cap w1 ps hl hn2 ((hp.later hb).wide hb.size) hc).mono ?_
  rintro e w2 ⟨rfl, hb2⟩
  replace hown := own_below hown hb2
  replace hb := hb.trans (hb2.mono hb.size)
  clear hb2
  cases hs : sealedB ps
  · have E := Lib.hid (OFF.out A1 c1 w2 (ok_sealed hs) hown hb)
    clear ON OFF hown hl hs
    go_wp2_with fail
    first | exact E.out | (go_ret2; exact E.out)
  have hn30 : n ≤ 30 := by have := seal_le hs; omega
  by_cases h30 : n = 30
  · subst h30
    have E := Lib.hid (OFF.out A1 c1 w2 (ok_full (by omega)) hown hb)
    clear ON OFF hown hl hs
    go_wp2_with fail
    first | exact E.out | (go_ret2; exact E.out)
  have h30' : ¬ (n : Int) = 30 := by omega
  replace hown := Lib.hid hown
  replace hs := Lib.hid hs
  go_wp2_with fail
  refine (EntryImpl.lastSeal A n cap w2 ps hl hn2 ((hp.later hb).wide hb.size)).mono ?_
  rintro e w3 ⟨rfl, hb3⟩
  replace hown := Lib.hid (own_below hown.out hb3)
  replace hb := hb.trans (hb3.mono hb.size)
  clear hb3
  go_wp2_with fail
  refine (SealImpl.sealAfter (lastI ps) m s w3).mono ?_
  rintro e w4 ⟨rfl, hb4⟩
  replace hown := Lib.hid (own_below hown.out hb4)
  replace hb := hb.trans (hb4.mono hb.size)
  clear hb4
  have HP := Lib.hid ((hp.later hb).wide hb.size)
  by_cases hneg : sealI (lastI ps) m s < 0
  · have E := Lib.hid (OFF.out A1 c1 w4 (ok_seal hneg) hown.out hb)
    generalize sealI (lastI ps) m s = z at *
    clear ON OFF hown hl hs
    go_wp2_with fail
    first | exact E.out | (go_ret2; exact E.out)
  have QM := Lib.hid (EntryImpl.lastMoment A n cap w4 ps hl hn2 HP.out)
  have HE : Hid (m < momentI ps → okE ps m s = false) := Lib.hid ok_early
  have HY : Hid (¬ m < momentI ps → okE ps m s = true) := Lib.hid (fun h => ok_yes hs.out (by omega) hneg h)
  generalize sealI (lastI ps) m s = z at *
  generalize momentI ps = mm at *
  go_wp2_with fail
  refine QM.out.mono ?_
  rintro e w5 ⟨rfl, hb5⟩
  replace hown := Lib.hid (own_below hown.out hb5)
  replace hb := hb.trans (hb5.mono hb.size)
  clear hb5 QM HP hs
  by_cases hm : m < mm
  · have E := Lib.hid (OFF.out A1 c1 w5 (HE.out hm) hown.out hb)
    clear ON OFF hown hl HE HY
    go_wp2_with fail
    first | exact E.out | (go_ret2; exact E.out)
  have hok := Lib.hid (HY.out (by simpa using hm))
  have T1 := Lib.hid (ts_one w5 m s z 57)
  have hba := below1 w5 (Obj.cells #[.int .i64 m, .string s, .int .i64 z] 57)
  have hown6 := Lib.hid (own_below hown.out hba)
  have hb6 := hb.trans (hba.mono hb.size)
  have hsz6 := hb6.size
  clear HE HY hown hba
  go_wp2_with (at_builtin; refine append_ents _ rfl _ _ rfl w.heap.size _ n (cellsT ps) rfl hown6.out _ 1 1 [(m, s, z)] rfl rfl T1.out (by omega) hsz6 ?_)
  intro v' w7 hown7 hg7
  have hb7 : Below w.heap.size w w7 := hb6.grown hg7 hsz6 (fun k hk => (hown6.out.lt k hk).1)
  obtain ⟨A7, c7, rfl⟩ := own_shape hown7
  have E := Lib.hid (ON.out A7 c7 w7 hok.out hown7 hb7)
  clear ON OFF hown6 hown7 hg7 T1 hl hok
  go_wp2_with fail
  first | exact E.out | (go_ret2; exact E.out)
end Go.Proofs.Ytcfoleiooohbhaa.ApeImpl

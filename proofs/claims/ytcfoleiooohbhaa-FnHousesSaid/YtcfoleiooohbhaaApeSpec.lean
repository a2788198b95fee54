/-
  What the model's AppendEntry does, as a contract: the record and, where it may be laid, the new entry behind it, in new memory.
-/
import Derived.Test.YtcfoleiooohbhaaApeMath
import Derived.Test.YtcfoleiooohbhaaEntRow
import Derived.Test.YtcfoleiooohbhaaEntrySpec
import Derived.Laws.OwnMore
namespace Go.Proofs.Ytcfoleiooohbhaa.ApeSpec
open Go.RowKit Own PointOk Blk TupISI SealMath EntryMath ApeMath EntRow

theorem ts_one (w : World) (z0 : Int) (z1 : ByteArray) (z2 : Int) (T : TypeId) : TsAt (w.alloc (Obj.cells #[.int .i64 z0, .string z1, .int .i64 z2] T)) (w.alloc (Obj.cells #[.int .i64 z0, .string z1, .int .i64 z2] T)).heap.size (some ⟨w.heap.size, 0, none⟩) [(z0, z1, z2)] := by
  intro j hj
  obtain rfl : j = 0 := by simpa using hj
  exact ⟨_, rfl, by simp, by simp [Addr.add], by simp [Addr.add], by simp [Addr.add]⟩

theorem mom0 {l : List Tu} (h : l.length = 0) : momentI l = 0 := by unfold momentI; rw [h]; rfl

set_option maxRecDepth 100000 in
set_option maxHeartbeats 3200000 in
theorem appendEntry (A : Option Addr) (n cap : Nat) (m : Int) (s : ByteArray) (w : World) (ps : List Tu) (hl : ps.length = n) (hn : n ≤ 1048576) (hp : TsAt w w.heap.size A ps) (hc : n ≤ cap) :
    Calls Try.prog 64 #[.slice A n cap, .int .i64 m, .string s] w (GivesA 57 w (apeL ps m s) (okE ps m s)) := by
  have OFF : Hid (∀ (A1 : Option Addr) (c1 : Nat) (W : World), okE ps m s = false → W.ownsRow w.heap.size 57 3 (.slice A1 n c1) n (cellsT ps) → Below w.heap.size w W → GivesA 57 w (apeL ps m s) (okE ps m s) (.returned (.tuple #[.slice A1 n c1, .bool false])) W) := Lib.hid (fun A1 c1 W h ho hb => by
    rw [h, apeL_no h]
    exact ⟨A1, c1, by rw [hl], by rw [hl]; exact ho, hb⟩)
  have ON : Hid (∀ (A1 : Option Addr) (c1 : Nat) (W : World), okE ps m s = true → W.ownsRow w.heap.size 57 3 (.slice A1 (n + 1) c1) (n + 1) (cellsT ps ++ cellsT [(m, s, sealI (lastI ps) m s)]) → Below w.heap.size w W → GivesA 57 w (apeL ps m s) (okE ps m s) (.returned (.tuple #[.slice A1 (n + 1) c1, .bool true])) W) := Lib.hid (fun A1 c1 W h ho hb => by
    rw [h, apeL_yes h]
    have e : (ps ++ [(m, s, sealI (lastI ps) m s)]).length = n + 1 := by simp [hl]
    exact ⟨A1, c1, by rw [e], by rw [e, cellsT_app]; exact ho, hb⟩)
  generalize GivesA 57 w (apeL ps m s) (okE ps m s) = G at *
  have hn2 : n ≤ 1048576 := by omega
  go_enter Try.func64, Try.ntmps64
  go_wp2_with fail
  refine (copy A n cap w ps hl hn2 hp).mono ?_
  rintro e w1 ⟨A1, c1, rfl, hown, hb⟩
  rw [hl] at hown ⊢
  replace hown := Lib.hid hown
  go_wp2_with fail
  refine (EntrySpec.lastSeal A n cap w1 ps hl hn2 ((hp.later hb).wide hb.size)).mono ?_
  rintro e w3 ⟨rfl, hb3⟩
  replace hown := Lib.hid (own_below hown.out hb3)
  replace hb := hb.trans (hb3.mono hb.size)
  clear hb3
  go_wp2_with fail
  refine (SealSpec.sealAfter (lastI ps) m s w3).mono ?_
  rintro e w3' ⟨rfl, rfl⟩
  have QS := Lib.hid (EntrySpec.isSealed A n cap w3 ps hl hn2 ((hp.later hb).wide hb.size) hc)
  have H0 := Lib.hid (seal_moment (p := lastI ps) (m := m) (s := s))
  have HS := Lib.hid (ok_seal (l := ps) (m := m) (s := s))
  have HY : Hid (sealedB ps = true → n ≠ 30 → ¬ sealI (lastI ps) m s < 0 → ¬ m < momentI ps → okE ps m s = true) := Lib.hid (fun a b c d => ok_yes a (by omega) c d)
  generalize sealI (lastI ps) m s = z at *
  go_wp2_with fail
  refine QS.out.mono ?_
  rintro e w4 ⟨rfl, hb4⟩
  replace hown := Lib.hid (own_below hown.out hb4)
  replace hb := hb.trans (hb4.mono hb.size)
  clear hb4 QS
  cases hs : sealedB ps
  · have E := Lib.hid (OFF.out A1 c1 w4 (ok_sealed hs) hown.out hb)
    clear ON OFF hown hl hs H0 HS HY
    go_wp2_with fail
    first | exact E.out | (go_ret2; exact E.out)
  have hn30 : n ≤ 30 := by have := seal_le hs; omega
  by_cases h30 : n = 30
  · subst h30
    have E := Lib.hid (OFF.out A1 c1 w4 (ok_full (by omega)) hown.out hb)
    clear ON OFF hown hl hs H0 HS HY
    go_wp2_with fail
    first | exact E.out | (go_ret2; exact E.out)
  have h30' : ¬ (n : Int) = 30 := by omega
  have HY2 := Lib.hid (HY.out hs h30)
  by_cases hneg : z < 0
  · have E := Lib.hid (OFF.out A1 c1 w4 (HS.out hneg) hown.out hb)
    clear ON OFF hown hl hs H0 HS HY HY2
    go_wp2_with fail
    first | exact E.out | (go_ret2; exact E.out)
  have hm0 := H0.out (by omega)
  have HP := (hp.later hb).wide hb.size
  have T1 := Lib.hid (ts_one w4 m s z 57)
  have hba := below1 w4 (Obj.cells #[.int .i64 m, .string s, .int .i64 z] 57)
  have hown6 := Lib.hid (own_below hown.out hba)
  have hb6 := hb.trans (hba.mono hb.size)
  have hsz6 := hb6.size
  replace hs := Lib.hid hs
  by_cases h0 : n = 0
  · subst h0
    have hok := Lib.hid (HY2.out (by omega) (by have e : momentI ps = 0 := mom0 hl; omega))
    clear HY HY2 HS H0 hown hba hp HP hs
    go_wp2_with (at_builtin; refine append_ents _ rfl _ _ rfl w.heap.size _ 0 (cellsT ps) rfl hown6.out _ 1 1 [(m, s, z)] rfl rfl T1.out (by omega) hsz6 ?_)
    intro v' w7 hown7 hg7
    have hb7 : Below w.heap.size w w7 := hb6.grown hg7 hsz6 (fun k hk => (hown6.out.lt k hk).1)
    obtain ⟨A7, c7, rfl⟩ := own_shape hown7
    have E := Lib.hid (ON.out A7 c7 w7 hok.out hown7 hb7)
    clear ON OFF hown6 hown7 hg7 T1 hl hok
    go_wp2_with fail
    first | exact E.out | (go_ret2; exact E.out)
  have h1 : (0 : Int) < (n : Int) := by omega
  obtain ⟨j, hj⟩ : ∃ j, n - 1 = j := ⟨_, rfl⟩
  have uj : IntKind.i64.wrap ((n : Int) - 1) = (j : Int) := by rw [IntWalk.i64_in _ (by omega)]; omega
  have hj1 : (j : Int) < (n : Int) := by omega
  have hj0 : (0 : Int) ≤ (j : Int) := by omega
  have p0 := tt_at (ps := ps) (k := j) (by omega)
  obtain ⟨a, s2, b, hg⟩ : ∃ a s b, tt ps j = (a, s, b) := ⟨_, _, _, rfl⟩
  have HM : momentI ps = a := by unfold momentI; rw [hl, if_neg h0, hj, hg]
  rw [hg] at p0
  rw [HM] at HY2
  obtain ⟨bd, eB, bB, pB⟩ := HP.get p0
  subst eB
  obtain ⟨_, _, _⟩ := pB
  by_cases hm : m < a
  · have E := Lib.hid (OFF.out A1 c1 w4 (ok_early (by rw [HM]; exact hm)) hown.out hb)
    clear ON OFF hown hl hs HY HY2 HS H0 hba hp HP p0 hg HM T1 hown6 hb6 hsz6 hj
    go_wp2_with fail
    first | exact E.out | (go_ret2; exact E.out)
  have hok := Lib.hid (HY2.out (by omega) (by omega))
  have h30b : ((n : Int) == 30) = false := by simpa using h30'
  have hnb : decide (z < 0) = false := decide_eq_false hneg
  have hmb : decide (m < a) = false := decide_eq_false hm
  clear HY HY2 HS H0 hown hba hp HP p0 hg HM hs hj
  go_wp2_with (at_builtin; refine append_ents _ rfl _ _ rfl w.heap.size _ n (cellsT ps) rfl hown6.out _ 1 1 [(m, s, z)] rfl rfl T1.out (by omega) hsz6 ?_)
  intro v' w7 hown7 hg7
  have hb7 : Below w.heap.size w w7 := hb6.grown hg7 hsz6 (fun k hk => (hown6.out.lt k hk).1)
  obtain ⟨A7, c7, rfl⟩ := own_shape hown7
  have E := Lib.hid (ON.out A7 c7 w7 hok.out hown7 hb7)
  clear ON OFF hown6 hown7 hg7 T1 hl hok
  go_wp2_with fail
  first | exact E.out | (go_ret2; exact E.out)
end Go.Proofs.Ytcfoleiooohbhaa.ApeSpec

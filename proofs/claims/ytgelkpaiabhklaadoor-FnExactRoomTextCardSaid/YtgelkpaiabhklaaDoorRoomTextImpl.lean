/-
  What the landed RoomText does, as a contract: the text of the room; new memory alone is written.
-/
import Derived.Test.YtgelkpaiabhklaaDoorRoomOkImpl
import Derived.Test.YtgelkpaiabhklaaDoorTextMath
import Derived.Test.YtgelkpaiabhklaaDoorPointTextImpl
import Derived.Test.YtgelkpaiabhklaaDoorShelfJoin
import Derived.Test.YtgelkpaiabhklaaDoorGround
namespace Go.Proofs.YtgelkpaiabhklaaDoor.RoomTextImpl
open Go.RowKit Own PointMath WallMath RoomMath Pts Blk TextMath PointTextSpec RowDoor
open PointOk (ret_bool ret_i64 below1 below2 below3)

theorem infoS : (Tryd.prog.info? 9).map (fun i => (i.zero, i.size, i.bytes)) = some (some (.string ⟨#[]⟩), 1, 16) := by kernel_rfl
/-- The texts, as the cells of a slice. -/
def scells (l : List (List UInt8)) : List Value := l.map fun a => .string ⟨a.toArray⟩
theorem scells_snoc (l : List (List UInt8)) (a : List UInt8) : scells (l ++ [a]) = scells l ++ [.string ⟨a.toArray⟩] := by simp [scells]
theorem scells_at {l : List (List UInt8)} {j : Nat} {x : ByteArray} (h : (l.map fun a => (⟨a.toArray⟩ : ByteArray))[j]? = some x) : (scells l)[j]? = some (.string x) := by
  unfold scells
  rw [List.getElem?_map] at h ⊢
  cases e : l[j]? with
  | none => rw [e] at h; cases h
  | some a =>
    rw [e] at h
    injection h with h
    rw [← h]; rfl

set_option maxRecDepth 100000 in
set_option maxHeartbeats 1600000 in
theorem roomText (A : Option Addr) (n cap : Nat) (w : World) (ps : List (Int × Int)) (hl : ps.length = n) (hn : n ≤ 1048576) (hp : PtsAt w w.heap.size A ps) (htab : Lib.TabIs Tryd.prog w "internal/strconv.uint64pow10" .u64 Lib.pow10Tab) :
    Calls Tryd.prog 15 #[.agg #[.slice A n cap]] w fun e w' => e = .returned (.string (TextMath.roomText ps)) ∧ Below w.heap.size w w' := by
  obtain ⟨r, hr⟩ : ∃ r, TextMath.roomText ps = r := ⟨_, rfl⟩
  have HR := Lib.hid hr
  rw [hr]
  clear hr
  obtain ⟨j0, ji, jz0, jz1, jz2⟩ := info_parts infoS
  go_enter Tryd.func15, Tryd.ntmps15
  go_wp2_with fail
  have X0 := Pts.boxR w (.slice A n cap) 42 (k := w.heap.size) (by simp)
  have b0 := PointOk.below1 w (Obj.cells #[.slice A n cap] 42)
  have HO : ∀ W W' : World, (Pts.BoxR W (w.heap.size) (.slice A n cap) ∧ PtsAt W w.heap.size A ps ∧ w.heap.size + 1 ≤ W.heap.size ∧ Below w.heap.size w W) → Below W.heap.size W W' → (Pts.BoxR W' (w.heap.size) (.slice A n cap) ∧ PtsAt W' w.heap.size A ps ∧ w.heap.size + 1 ≤ W'.heap.size ∧ Below w.heap.size w W') := fun W W' ⟨h0, x0, x1, hb⟩ h => ⟨h0.later h, x0.later (h.mono hb.size), Nat.le_trans x1 h.size, hb.trans (h.mono hb.size)⟩
  have hz0_ : Hid (((w.alloc (Obj.cells #[.slice A n cap] 42))).heap.size = w.heap.size + 1) := Lib.hid (by simp)
  have Y0 : PtsAt ((w.alloc (Obj.cells #[.slice A n cap] 42))) w.heap.size A ps := hp.later b0
  have Y1 : w.heap.size + 1 ≤ ((w.alloc (Obj.cells #[.slice A n cap] 42))).heap.size := by simp
  generalize (w.alloc (Obj.cells #[.slice A n cap] 42)) = w0 at X0 Y0 Y1 b0 hz0_ ⊢
  have S0 := (⟨X0, Y0, Y1, b0⟩ : Pts.BoxR w0 (w.heap.size) (.slice A n cap) ∧ PtsAt w0 w.heap.size A ps ∧ w.heap.size + 1 ≤ w0.heap.size ∧ Below w.heap.size w w0)
  clear X0 Y0 Y1 b0
  obtain ⟨⟨_, _⟩, _, _, _⟩ := id S0
  have HO2 : ∀ W W' : World, (Pts.BoxR W (w.heap.size) (.slice A n cap) ∧ PtsAt W w.heap.size A ps ∧ w.heap.size + 1 ≤ W.heap.size ∧ Below w.heap.size w W) → Below (w.heap.size + 1) W W' → (Pts.BoxR W' (w.heap.size) (.slice A n cap) ∧ PtsAt W' w.heap.size A ps ∧ w.heap.size + 1 ≤ W'.heap.size ∧ Below w.heap.size w W') := fun W W' ⟨h0, x0, x1, hb⟩ h => ⟨⟨(h.cell (by simp)).trans h0.1, trivial⟩, x0.later (h.mono (by omega)), Nat.le_trans x1 h.size, hb.trans (h.mono (by omega))⟩
  refine (RoomOkImpl.roomOk A n cap _ ps hl hn (S0.2.1.wide S0.2.2.2.size)).mono ?_
  rintro e w1 ⟨rfl, hb_⟩
  replace S0 := HO _ _ S0 hb_
  clear hb_
  obtain ⟨⟨_, _⟩, _, _, _⟩ := id S0
  cases hr : roomB ps
  · have E : Hid (r = ⟨#[]⟩) := Lib.hid (by rw [← HR.out]; unfold TextMath.roomText; rw [hr]; rfl)
    clear hl HR
    go_wp2_with fail
    go_ret
    exact ⟨ret_str E.out.symm, S0.2.2.2⟩
  have h3 := roomB_len hr
  have hok := Lib.hid (roomB_ok hr)
  have HR2 : Hid ((⟨(Lib.join (txTo ps n) [32]).toArray⟩ : ByteArray) = r) := Lib.hid (by rw [← HR.out]; unfold TextMath.roomText; rw [hr, hl]; rfl)
  have hlj := spTo_len hok.out n (by omega)
  rw [spTo_join] at hlj
  clear hr HR
  go_wp2_with fail
  go_loopw [3, 12] (fun v q wr => ∃ k : Nat, k ≤ n ∧ q = .int .i64 k ∧ wr.ownsRow (w.heap.size + 1) 9 1 v k (scells (txTo ps k)) ∧ (Pts.BoxR wr (w.heap.size) (.slice A n cap) ∧ PtsAt wr w.heap.size A ps ∧ w.heap.size + 1 ≤ wr.heap.size ∧ Below w.heap.size w wr))
    (fun _ q _ => n - (intOf q).toNat)
  case atStart => exact ⟨0, Nat.zero_le _, rfl, World.ownsRow_nil _ _ _ _, S0⟩
  case round =>
    clear S0
    obtain ⟨k, hkn, rfl, hown, S0⟩ := hrel
    obtain ⟨⟨_, _⟩, _, _, _⟩ := id S0
    by_cases hlt : k < n
    · have hk1 : (k : Int) < (n : Int) := by omega
      have hk0 : (0 : Int) ≤ (k : Int) := by omega
      have HG : Hid (txTo ps (k + 1) = txTo ps k ++ [tx ps k]) := Lib.hid rfl
      have htx := tx_text (okAll_at hok.out (k := k) (by omega))
      have p0 := pt_at (ps := ps) (k := k) (by omega)
      obtain ⟨x, y, hx⟩ : ∃ x y, pt ps k = (x, y) := ⟨_, _, rfl⟩
      rw [hx] at p0 htx
      obtain ⟨tb, htb⟩ : ∃ b : ByteArray, (⟨(tx ps k).toArray⟩ : ByteArray) = b := ⟨_, rfl⟩
      rw [htb] at htx
      have htx2 : pointText' x y = tb := htx
      have QP : Hid (∀ W, Below w.heap.size w W → _) := Lib.hid fun W hb => PointTextImpl.pointText x y W (Go.Joins.tab_stays gPow htab hb (Nat.le_refl _))
      rw [htx2] at QP
      obtain ⟨ad, eA, bA, pA⟩ := S0.2.1.get p0
      subst eA
      obtain ⟨_, _⟩ := id pA
      have X3 := PointOk.box1 wr x y 59 (k := wr.heap.size) rfl
      have b1_ := below1 wr (Obj.cells #[.int .i64 x, .int .i64 y] 59)
      replace S0 := HO _ _ S0 b1_
      replace hown := Lib.hid (own_below hown b1_)
      obtain ⟨_, _⟩ := id X3
      clear b1_ p0 hx pA htx htx2 X3
      go_wp2_with fail
      generalize wr.alloc (Obj.cells #[.int .i64 x, .int .i64 y] 59) = v1 at *
      obtain ⟨⟨_, _⟩, _, _, _⟩ := id S0
      refine (QP.out _ S0.2.2.2).mono ?_
      rintro e w4 ⟨rfl, hb_⟩
      replace S0 := HO _ _ S0 hb_
      have hown2 := own_below hown.out hb_
      have hzB := S0.2.2.1
      clear hb_ QP hown
      go_wp2_with (at_builtin; refine wpList_append_own _ rfl _ _ 51 rfl (w.heap.size + 1) 9 j0 (.string ⟨#[]⟩) 1 16 Tryd.underlying51 ji jz0 jz1 jz2 rfl (by decide) _ _ _ rfl (hown2.alloc _) ⟨w4.heap.size, 0, none⟩ 1 1 [.string tb] rfl rfl ?c1 ?c2 ?c3 ?c4 ?c5 ?_)
      case c1 => (intro a u ha; match a, ha with | 0, ha => (simp at ha; subst ha; simp [Addr.add]))
      case c2 => (intro u hu; simp at hu; subst hu; rfl)
      case c3 => (unfold maxLen; omega)
      case c4 => omega
      case c5 => (simp; omega)
      intro v1_ wa_ ho_ hg_ _
      have HN : Hid (wa_.ownsRow (w.heap.size + 1) 9 1 v1_ (k + 1) (scells (txTo ps (k + 1))) ∧ (Pts.BoxR wa_ (w.heap.size) (.slice (some ad) n cap) ∧ PtsAt wa_ w.heap.size (some ad) ps ∧ w.heap.size + 1 ≤ wa_.heap.size ∧ Below w.heap.size w wa_)) := Lib.hid (by
        have hb0 : Below (w.heap.size + 1) w4 (w4.alloc (Obj.cells #[.string tb] 9)) := (below1 _ _).mono hzB
        have hb1 := hb0.grown hg_ (by simp; omega) (fun g hg => (hown2.lt g hg).1)
        rw [HG.out, scells_snoc, htb]
        exact ⟨ho_, HO2 _ _ S0 hb1⟩)
      clear ho_ hg_ hown2 HG S0
      go_wp2_with fail
      first
        | exact ⟨⟨k + 1, by omega, by go_num, HN.out.1, HN.out.2⟩, by simp [intOf]; omega⟩
        | (go_roundw <;> first | exact ⟨k + 1, by omega, by go_num, HN.out.1, HN.out.2⟩ | (simp [intOf]; omega))
    · obtain rfl : n = k := by omega
      obtain ⟨A2, c2, rfl⟩ := own_shape hown
      obtain ⟨g, rfl, _, hgl, _, _⟩ := own_cell hown (j := 0) (by omega) (show (scells (txTo ps n))[0]? = some ((scells (txTo ps n))[0]'(by simp [scells, txTo_len]; omega)) from List.getElem?_eq_getElem _)
      have hcap : n ≤ c2 := by
        rcases hown.2 with ⟨h, _⟩ | ⟨g', cap', cur, h, _, _, h4, _⟩
        · cases h
        · injection h with _ _ h; omega
      have QJ := Tryd.strings_Join g 0 c2 ((txTo ps n).map fun a => (⟨a.toArray⟩ : ByteArray)) ⟨#[32]⟩ wr (fun j x hj => by
        have hjl : j < n := by
          have := (List.getElem?_eq_some_iff.1 hj).1
          simpa [txTo_len] using this
        obtain ⟨g2, e2, _, _, c, _⟩ := own_cell hown hjl (scells_at hj)
        injection e2 with e2
        injection e2 with e2
        subst e2
        rw [Nat.zero_add]
        exact c) hgl (by simp [txTo_len]; omega) (by simp [txTo_len]; exact hcap) (by rw [map_data]; show (Lib.join (txTo ps n) [32]).length ≤ _; omega)
      rw [map_data, List.length_map, txTo_len] at QJ
      have E9 : (⟨(Lib.join (txTo ps n) (⟨#[32]⟩ : ByteArray).data.toList).toArray⟩ : ByteArray) = r := HR2.out
      rw [E9] at QJ
      clear HR2 hown E9 htab
      go_wp2_with fail
      refine QJ.mono ?_
      rintro e w5 ⟨rfl, hb_⟩
      replace S0 := HO _ _ S0 hb_
      go_wp2_with fail
      go_ret
      exact ⟨rfl, S0.2.2.2⟩

end Go.Proofs.YtgelkpaiabhklaaDoor.RoomTextImpl


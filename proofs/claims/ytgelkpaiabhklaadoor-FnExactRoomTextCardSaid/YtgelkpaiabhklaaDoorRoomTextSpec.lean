/-
  What the model's RoomText does, as a contract: the text of the room; new memory alone is written.
-/
import Derived.Test.YtgelkpaiabhklaaDoorRoomOkSpec
import Derived.Test.YtgelkpaiabhklaaDoorTextMath
namespace Go.Proofs.YtgelkpaiabhklaaDoor.RoomTextSpec
open Go.RowKit PointMath WallMath RoomMath Pts Blk TextMath PointTextSpec
open PointOk (ret_bool ret_i64 below1 below2 below3)

theorem bytes_add {s : ByteArray} {a b : List UInt8} (h : s = ⟨a.toArray⟩) (t : ByteArray) (ht : t = ⟨b.toArray⟩) : s ++ t = ⟨(a ++ b).toArray⟩ := by subst h ht; exact cat a b

set_option maxRecDepth 100000 in
set_option maxHeartbeats 1600000 in
theorem roomText (A : Option Addr) (n cap : Nat) (w : World) (ps : List (Int × Int)) (hl : ps.length = n) (hn : n ≤ 1048576) (hp : PtsAt w w.heap.size A ps) :
    Calls Tryd.prog 13 #[.agg #[.slice A n cap]] w fun e w' => e = .returned (.string (TextMath.roomText ps)) ∧ Below w.heap.size w w' := by
  obtain ⟨r, hr⟩ : ∃ r, TextMath.roomText ps = r := ⟨_, rfl⟩
  have HR := Lib.hid hr
  rw [hr]
  clear hr
  go_enter Tryd.func13, Tryd.ntmps13
  go_wp2_with fail
  have X0 := Pts.boxR w (.slice A n cap) 42 (k := w.heap.size) (by simp)
  have b0 := PointOk.below1 w (Obj.cells #[.slice A n cap] 42)
  have HO : ∀ W W' : World, (Pts.BoxR W (w.heap.size) (.slice A n cap) ∧ PtsAt W w.heap.size A ps ∧ Below w.heap.size w W) → Below W.heap.size W W' → (Pts.BoxR W' (w.heap.size) (.slice A n cap) ∧ PtsAt W' w.heap.size A ps ∧ Below w.heap.size w W') := fun W W' ⟨h0, x0, hb⟩ h => ⟨h0.later h, x0.later (h.mono hb.size), hb.trans (h.mono hb.size)⟩
  have hz0_ : Hid (((w.alloc (Obj.cells #[.slice A n cap] 42))).heap.size = w.heap.size + 1) := Lib.hid (by simp)
  have Y0 : PtsAt ((w.alloc (Obj.cells #[.slice A n cap] 42))) w.heap.size A ps := hp.later b0
  generalize (w.alloc (Obj.cells #[.slice A n cap] 42)) = w0 at X0 Y0 b0 hz0_ ⊢
  have S0 := (⟨X0, Y0, b0⟩ : Pts.BoxR w0 (w.heap.size) (.slice A n cap) ∧ PtsAt w0 w.heap.size A ps ∧ Below w.heap.size w w0)
  clear X0 Y0 b0
  obtain ⟨⟨_, _⟩, _, _⟩ := id S0
  go_loopw [3, 4] (fun s q wr => ∃ k : Nat, k ≤ n ∧ (k = 0 ∨ roomB ps = true) ∧ q = .int .i64 k ∧ s = .string ⟨(spTo ps k).toArray⟩ ∧ (Pts.BoxR wr (w.heap.size) (.slice A n cap) ∧ PtsAt wr w.heap.size A ps ∧ Below w.heap.size w wr))
    (fun _ q _ => n - (intOf q).toNat)
  case atStart => exact ⟨0, Nat.zero_le _, .inl rfl, rfl, rfl, S0⟩
  case round =>
    clear S0
    obtain ⟨k, hkn, hc, rfl, rfl, S0⟩ := hrel
    obtain ⟨⟨_, _⟩, _, _⟩ := id S0
    have HX : Hid ((roomB ps = false ∨ n = k) → (⟨(spTo ps k).toArray⟩ : ByteArray) = r) := Lib.hid (fun h => by
      rw [← HR.out]; unfold TextMath.roomText
      rcases hc with hc | hc
      · subst hc
        rcases h with h | h
        · rw [h]; rfl
        · cases hr : roomB ps
          · rfl
          · have := roomB_len hr; omega
      · rw [hc]
        rcases h with h | h
        · rw [hc] at h; cases h
        · rw [spTo_join, ← h, hl]; rfl)
    by_cases hlt : k < n
    · have hk1 : (k : Int) < (n : Int) := by omega
      have hk0 : (0 : Int) ≤ (k : Int) := by omega
      have HG : Hid (spTo ps (k + 1) = (if k = 0 then spTo ps k else spTo ps k ++ [32]) ++ tx ps k) := Lib.hid rfl
      have hgo : ∀ b : Bool, roomB ps = b → True := fun _ _ => trivial
      have HL : Hid (roomB ps = true → (spTo ps k).length ≤ 440 ∧ (tx ps k).length ≤ 43 ∧ pointText' (pt ps k).1 (pt ps k).2 = ⟨(tx ps k).toArray⟩) := Lib.hid (fun h => by
        have hr := roomB_ok h
        have h3 := roomB_len h
        have := spTo_len hr k (by omega)
        exact ⟨by omega, tx_len (okAll_at hr (k := k) (by omega)), tx_text (okAll_at hr (k := k) (by omega))⟩)
      generalize spTo ps k = s0 at *
      generalize tx ps k = t0 at *
      obtain ⟨sb, hsb⟩ : ∃ b : ByteArray, (⟨s0.toArray⟩ : ByteArray) = b := ⟨_, rfl⟩
      have hss : sb.size = s0.length := by rw [← hsb, size_mk]
      rw [hsb] at HX
      rw [hsb]
      replace hsb := Lib.hid hsb
      go_wp2_with fail
      refine (RoomOkSpec.roomOk A n cap _ ps hl hn (S0.2.1.wide S0.2.2.size)).mono ?_
      rintro e w1 ⟨rfl, hb_⟩
      replace S0 := HO _ _ S0 hb_
      clear hb_
      obtain ⟨⟨_, _⟩, _, _⟩ := id S0
      cases hr : roomB ps
      · have E : Hid (sb = r) := Lib.hid (HX.out (.inl hr))
        clear hl HR hc HX HL HG hss
        go_wp2_with fail
        go_ret
        exact ⟨ret_str E.out, S0.2.2⟩
      obtain ⟨hs0, ht0, htx⟩ := HL.out hr
      have p0 := pt_at (ps := ps) (k := k) (by omega)
      obtain ⟨x, y, hx⟩ : ∃ x y, pt ps k = (x, y) := ⟨_, _, rfl⟩
      rw [hx] at p0 htx
      obtain ⟨tb, htb⟩ : ∃ b : ByteArray, (⟨t0.toArray⟩ : ByteArray) = b := ⟨_, rfl⟩
      rw [htb] at htx
      have hts : tb.size = t0.length := by rw [← htb, size_mk]
      have QP : Hid (∀ w, _) := Lib.hid fun w => PointTextSpec.pointText x y w
      have htx2 : pointText' x y = tb := htx
      rw [htx2] at QP
      obtain ⟨ad, eA, bA, pA⟩ := S0.2.1.get p0
      subst eA
      obtain ⟨_, _⟩ := id pA
      replace hr := Lib.hid hr
      replace htb := Lib.hid htb
      have W1 : ¬ 9223372036854775807 < sb.size + 1 := by omega
      have W2 : ¬ 9223372036854775807 < sb.size + 1 + tb.size := by omega
      have W3 : ¬ 9223372036854775807 < sb.size + tb.size := by omega
      clear HX HL HR hl hc htx htx2 p0 hx
      by_cases hk9 : k = 0
      · subst hk9
        have e0 : ad.add (0 * 2) = ad := by simp [Addr.add]
        have pA2 := pA
        unfold PtAt at pA2
        rw [e0] at pA2
        obtain ⟨_, _⟩ := pA2
        clear e0
        have HG2 : Hid (spTo ps (0 + 1) = s0 ++ t0) := Lib.hid (by rw [HG.out]; rfl)
        have E9 : Hid ((⟨(spTo ps (0 + 1)).toArray⟩ : ByteArray) = sb ++ tb) := Lib.hid (by rw [HG2.out, ← hsb.out, ← htb.out, cat])
        clear HG HG2 hss hts pA
        go_wp2_with fail
        refine (QP.out _).mono ?_
        rintro e w2 ⟨rfl, hb_⟩
        replace S0 := HO _ _ S0 hb_
        clear hb_
        obtain ⟨⟨_, _⟩, _, _⟩ := id S0
        go_wp2_with fail
        exact ⟨⟨1, by omega, .inr hr.out, by go_num, by rw [← E9.out], S0⟩, by simp [intOf]; omega⟩
      · have hk9i : (0 : Int) < (k : Int) := by omega
        have HG2 : Hid (spTo ps (k + 1) = s0 ++ [32] ++ t0) := Lib.hid (by rw [HG.out, if_neg hk9])
        have E9 : Hid ((⟨(spTo ps (k + 1)).toArray⟩ : ByteArray) = sb ++ ⟨#[32]⟩ ++ tb) := Lib.hid (by rw [HG2.out, ← hsb.out, ← htb.out, cat, cat])
        clear HG HG2 hss hts pA
        go_wp2_with fail
        refine (QP.out _).mono ?_
        rintro e w3 ⟨rfl, hb_⟩
        replace S0 := HO _ _ S0 hb_
        clear hb_
        obtain ⟨⟨_, _⟩, _, _⟩ := id S0
        go_wp2_with fail
        exact ⟨⟨k + 1, by omega, .inr hr.out, by go_num, by rw [← E9.out], S0⟩, by simp [intOf]; omega⟩
    · obtain rfl : n = k := by omega
      have E : Hid ((⟨(spTo ps n).toArray⟩ : ByteArray) = r) := Lib.hid (HX.out (.inr rfl))
      rw [E.out]
      clear hl HR hc HX
      go_wp2_with fail
      go_ret
      exact ⟨rfl, S0.2.2⟩

end Go.Proofs.YtgelkpaiabhklaaDoor.RoomTextSpec


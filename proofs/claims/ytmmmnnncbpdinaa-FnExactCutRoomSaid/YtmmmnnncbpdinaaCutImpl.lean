/-
  What the landed partOf and CutRoom do, as contracts: the corners i to k in new memory; the two rooms.
-/
import Derived.Test.YtmmmnnncbpdinaaDiagImpl
import Derived.Test.YtmmmnnncbpdinaaRoomOkImpl
import Derived.Test.YtmmmnnncbpdinaaCutMath
import Derived.Test.YtmmmnnncbpdinaaPtRow
namespace Go.Proofs.Ytmmmnnncbpdinaa.CutImpl
open Go.RowKit Own PointMath WallMath RoomMath Pts Blk AreaMath PlaceMath FloorMath LineMath CutsMath SightMath DiagMath StartMath EarMath CutMath RoomRes
open PointOk (ret_bool ret_i64 below1 below2 below3)

set_option maxRecDepth 100000 in
set_option maxHeartbeats 6400000 in
theorem part (A : Option Addr) (n cap i k : Nat) (w : World) (ps : List (Int × Int)) (hl : ps.length = n) (hn : n ≤ 1048576) (hi : i < n) (hk : k < n) (hp : PtsAt w w.heap.size A ps) :
    Calls Try.prog 31 #[.agg #[.slice A n cap], .int .i64 (i : Int), .int .i64 (k : Int)] w (GivesR 58 w (partI ps i k)) := by
  unfold partI
  rw [hl]
  have hd := dIK_lt (n := n) (i := i) (k := k) (by omega)
  have HM : Hid (∀ t, t ≤ dIK n i k → dIK n ((i + t) % n) k = dIK n i k - t) := Lib.hid (fun t ht => turn_rest hi hk ht)
  have HT : Hid (∀ t, t < n → ((i + t) % n = k ↔ t = dIK n i k)) := Lib.hid (fun t ht => turn_end hi hk ht)
  generalize dIK n i k = d at *
  obtain ⟨r, hr⟩ : ∃ r, startTo ps i (d + 1) = r := ⟨_, rfl⟩
  have HR := Lib.hid hr
  rw [hr]
  clear hr
  have him : i % n = i := Nat.mod_eq_of_lt hi
  have p0 := pt_at (ps := ps) (k := i) (by omega)
  obtain ⟨x0, y0, hc0⟩ : ∃ x y, pt ps i = (x, y) := ⟨_, _, rfl⟩
  rw [hc0] at p0
  obtain ⟨ad, eA, bA, pA⟩ := hp.get p0
  subst eA
  obtain ⟨_, _⟩ := id pA
  have i0 : (0 : Int) ≤ (i : Int) := by omega
  have i1 : (i : Int) < (n : Int) := by omega
  have HG : Hid (∀ t, startTo ps i (t + 1) = startTo ps i t ++ [pt ps ((i + t) % n)]) := Lib.hid (fun t => by rw [← hl]; rfl)
  have hlr : r.length = d + 1 := by rw [← HR.out]; exact startTo_len _ _ _
  unfold GivesR
  rw [hlr]
  have QX : Hid (∀ q w, _) := Lib.hid fun (q : Int) w => RoomImpl.indexAround (some ad) n cap q (by omega) hn w
  obtain ⟨_, _⟩ := (pA.later bA (PointOk.below2 w (Obj.cells #[.slice (some ad) n cap] 28) (Obj.cells #[.slice none 0 0] 28)))
  go_enter Try.func31, Try.ntmps31
  go_wp2_with fail
  have X0 := (Pts.boxR w (.slice (some ad) n cap) 28 (k := w.heap.size) (by simp)).alloc (Obj.cells #[.slice none 0 0] 28)
  have X1 := Blk.Holds.box (w.alloc (Obj.cells #[.slice (some ad) n cap] 28)) #[.slice none 0 0] 28 (k := w.heap.size + 1) (by simp)
  have b0 := PointOk.below2 w (Obj.cells #[.slice (some ad) n cap] 28) (Obj.cells #[.slice none 0 0] 28)
  have HO : ∀ W W' : World, (Pts.BoxR W (w.heap.size) (.slice (some ad) n cap) ∧ Blk.Holds W (w.heap.size + 1) #[.slice none 0 0] 28 ∧ PtsAt W w.heap.size (some ad) ps ∧ Below w.heap.size w W) → Below W.heap.size W W' → (Pts.BoxR W' (w.heap.size) (.slice (some ad) n cap) ∧ Blk.Holds W' (w.heap.size + 1) #[.slice none 0 0] 28 ∧ PtsAt W' w.heap.size (some ad) ps ∧ Below w.heap.size w W') := fun W W' ⟨h0, h1, x0, hb⟩ h => ⟨h0.later h, h1.later h, x0.later (h.mono hb.size), hb.trans (h.mono hb.size)⟩
  have hz0_ : Hid ((((w.alloc (Obj.cells #[.slice (some ad) n cap] 28)).alloc (Obj.cells #[.slice none 0 0] 28))).heap.size = w.heap.size + 1 + 1) := Lib.hid (by simp)
  have Y0 : PtsAt (((w.alloc (Obj.cells #[.slice (some ad) n cap] 28)).alloc (Obj.cells #[.slice none 0 0] 28))) w.heap.size (some ad) ps := hp.later b0
  generalize ((w.alloc (Obj.cells #[.slice (some ad) n cap] 28)).alloc (Obj.cells #[.slice none 0 0] 28)) = w0 at X0 X1 Y0 b0 hz0_ ⊢
  have S0 := (⟨X0, X1, Y0, b0⟩ : Pts.BoxR w0 (w.heap.size) (.slice (some ad) n cap) ∧ Blk.Holds w0 (w.heap.size + 1) #[.slice none 0 0] 28 ∧ PtsAt w0 w.heap.size (some ad) ps ∧ Below w.heap.size w w0)
  clear X0 X1 Y0 b0
  obtain ⟨⟨_, _⟩, _, _, _⟩ := id S0
  have hz1_ := hz0_.out
  have HO2 : ∀ W W' : World, (Pts.BoxR W (w.heap.size) (.slice (some ad) n cap) ∧ Blk.Holds W (w.heap.size + 1) #[.slice none 0 0] 28 ∧ PtsAt W w.heap.size (some ad) ps ∧ Below w.heap.size w W) → Below (w.heap.size + 2) W W' → (Pts.BoxR W' (w.heap.size) (.slice (some ad) n cap) ∧ Blk.Holds W' (w.heap.size + 1) #[.slice none 0 0] 28 ∧ PtsAt W' w.heap.size (some ad) ps ∧ Below w.heap.size w W') := fun W W' ⟨h0, h1, x0, hb⟩ h => ⟨⟨(h.cell (by simp)).trans h0.1, trivial⟩, (h.block _ (by omega)).trans h1, x0.later (h.mono (by omega)), hb.trans (h.mono (by omega))⟩
  have N0 : (w0.alloc (Obj.cells #[.int .i64 x0, .int .i64 y0] 58)).ownsRow (w.heap.size + 2) 58 2 (.slice (some ⟨w.heap.size + 1 + 1, 0, none⟩) 1 1) 1 (cellsP (startTo ps i 1)) := by
    have := World.ownsRow_lit (base := w.heap.size + 2) (e := 58) (size := 2) w0 #[.int .i64 x0, .int .i64 y0] 1 (by omega) (by decide) rfl
    rw [hz0_.out] at this
    rw [HG.out 0, show (i + 0) % n = i from him, hc0]
    exact this
  have N0 := Lib.hid N0
  have b0 := below1 w0 (Obj.cells #[.int .i64 x0, .int .i64 y0] 58)
  clear hc0 p0
  replace S0 := HO _ _ S0 b0
  have hsz : w.heap.size + 2 ≤ (w0.alloc (Obj.cells #[.int .i64 x0, .int .i64 y0] 58)).heap.size := by have := b0.size; omega
  clear b0 pA
  generalize w0.alloc (Obj.cells #[.int .i64 x0, .int .i64 y0] 58) = w1 at *
  go_loopw [1, 7] (fun q v wr => ∃ t : Nat, t ≤ d ∧ q = .int .i64 (((i + t) % n : Nat) : Int) ∧ Hid (wr.ownsRow (w.heap.size + 2) 58 2 v (t + 1) (cellsP (startTo ps i (t + 1)))) ∧ w.heap.size + 2 ≤ wr.heap.size ∧ (Pts.BoxR wr (w.heap.size) (.slice (some ad) n cap) ∧ Blk.Holds wr (w.heap.size + 1) #[.slice none 0 0] 28 ∧ PtsAt wr w.heap.size (some ad) ps ∧ Below w.heap.size w wr))
    (fun q _ _ => dIK n (intOf q).toNat k)
  case atStart => exact ⟨0, Nat.zero_le _, by rw [Nat.add_zero, him], N0, by omega, S0⟩
  case round =>
    clear S0 N0 hsz
    obtain ⟨t, htd, rfl, hown, hsz, S0⟩ := hrel
    obtain ⟨⟨_, _⟩, _, _, _⟩ := id S0
    have hm := Nat.mod_lt (i + t) (show 0 < n by omega)
    have hq := HT.out t (by omega)
    have hM1 := HM.out t htd
    have hst : ((i + t) % n + 1) % n = (i + (t + 1)) % n := turn_step
    have hM2 := Lib.hid (fun h => HM.out (t + 1) h)
    have hG := Lib.hid (HG.out (t + 1))
    have hm2 := Nat.mod_lt (i + (t + 1)) (show 0 < n by omega)
    generalize (i + t) % n = j at *
    obtain ⟨A1, c1, rfl⟩ := own_shape hown.out
    by_cases he : t = d
    · subst he
      have hj : j = k := hq.2 rfl
      rw [HR.out] at hown
      clear HT HM HG hq hM1 hM2 hG hl HR
      have hR := S0.2.1
      obtain ⟨_, _⟩ := hR.one
      have E_ := Blk.set_own hR 0 (.slice A1 (t + 1) c1)
      obtain ⟨r0_, _⟩ := Blk.Holds.one E_
      have hown4 := Lib.hid (own_set hown.out (w.heap.size + 1) 0 (.slice A1 (t + 1) c1) (by omega))
      have hb4 := Lib.hid (S0.2.2.2.trans (below_set wr w.heap.size (w.heap.size + 1) 0 (.slice A1 (t + 1) c1) (by omega)))
      go_wp2_with fail
      refine bodyPost_ret (v := .agg #[.slice A1 (t + 1) c1]) (by simp [results, Try.results31, go_sem, r0_]) rfl ⟨A1, c1, rfl, own_base hown4.out (by omega), hb4.out⟩
    have hj : ¬ j = k := fun h => he (hq.1 h)
    have hj2 : ¬ (j : Int) = (k : Int) := by omega
    have hj3 : ((j : Int) != (k : Int)) = true := by rw [bne_iff_ne]; exact hj2
    have u1 : IntKind.i64.wrap ((j : Int) + 1) = (j : Int) + 1 := IntWalk.i64_in _ (by omega)
    have QJ := Lib.hid (QX.out ((j : Int) + 1))
    rw [ix_succ (show 0 < n by omega), hst] at QJ
    have p0 := pt_at (ps := ps) (k := (i + (t + 1)) % n) (by omega)
    have hdec : Hid (dIK n ((i + (t + 1)) % n) k < dIK n j k) := Lib.hid (by have := hM2.out (by omega); omega)
    generalize hj2e : (i + (t + 1)) % n = j2 at *
    have HJ := Lib.hid hj2e
    clear hj2e
    obtain ⟨x, y, hc⟩ : ∃ x y, pt ps j2 = (x, y) := ⟨_, _, rfl⟩
    rw [hc] at p0 hG
    obtain ⟨ad1, eA1, _, pX⟩ := S0.2.2.1.get p0
    injection eA1 with eA1
    subst eA1
    obtain ⟨_, _⟩ := id pX
    have j0 : (0 : Int) ≤ (j2 : Int) := by omega
    have j1 : (j2 : Int) < (n : Int) := by omega
    have hbL := below1 wr (Obj.cells #[.int .i64 x, .int .i64 y] 58)
    clear HT HM hq hM1 hM2 p0 hl hst hm
    go_wp2_with fail
    refine (QJ.out _).mono ?_
    rintro e w3 ⟨rfl, rfl⟩
    clear QJ
    go_wp2_with (at_builtin; refine PtRow.append_pt _ (by rfl) _ _ (by rfl) (w.heap.size + 2) _ (t + 1) (startTo ps i (t + 1)) (by rfl) hown.out x y (by rfl) (by omega) hsz ?_)
    intro v5 w5 h5 hg5
    have hb5 : Below (w.heap.size + 2) wr w5 := (Below.refl _ _).grown hg5 hsz (fun g hg => (hown.out.lt g hg).1)
    rw [← hG.out] at h5
    have h5 := Lib.hid h5
    have hz5 := Nat.le_trans hsz hb5.size
    replace S0 := HO2 _ _ S0 hb5
    clear hg5 hown hsz
    go_wp2_with fail
    first
      | exact ⟨⟨t + 1, by omega, by rw [HJ.out], h5, hz5, S0⟩, by simpa [intOf] using hdec.out⟩
      | (go_roundw <;> first | exact ⟨t + 1, by omega, by rw [HJ.out], h5, hz5, S0⟩ | (simpa [intOf] using hdec.out))

set_option maxRecDepth 100000 in
set_option maxHeartbeats 6400000 in
theorem cutRoom (A : Option Addr) (n cap : Nat) (i k : Int) (w : World) (ps : List (Int × Int)) (hl : ps.length = n) (hn : n ≤ 1048576) (hp : PtsAt w w.heap.size A ps) :
    Calls Try.prog 10 #[.agg #[.slice A n cap], .int .i64 i, .int .i64 k] w (GivesRR 58 w (cutL ps i k) (cutR ps i k) (cutB ps i k)) := by
  obtain ⟨l1, hl1⟩ : ∃ l, cutL ps i k = l := ⟨_, rfl⟩
  obtain ⟨l2, hl2⟩ : ∃ l, cutR ps i k = l := ⟨_, rfl⟩
  obtain ⟨o, ho⟩ : ∃ o, cutB ps i k = o := ⟨_, rfl⟩
  have HN : Hid (cutB ps i k = false → l1 = [] ∧ l2 = [] ∧ o = false) := Lib.hid (fun h => by rw [← hl1, ← hl2, ← ho, h]; exact ⟨(cut_no h).1, (cut_no h).2, rfl⟩)
  have HY : Hid (cutB ps i k = true → l1 = partI ps i.toNat k.toNat ∧ l2 = partI ps k.toNat i.toNat ∧ o = true) := Lib.hid (fun h => by rw [← hl1, ← hl2, ← ho, h]; exact ⟨(cut_yes h).1, (cut_yes h).2, rfl⟩)
  have HB : Hid (cutB ps i k = (isDiagB ps i k && roomB (partI ps i.toNat k.toNat) && roomB (partI ps k.toNat i.toNat))) := Lib.hid rfl
  rw [hl1, hl2, ho]
  unfold GivesRR
  clear hl1 hl2 ho
  obtain ⟨o2, ho2⟩ : ∃ o2, cutB ps i k = o2 := ⟨_, rfl⟩
  rw [ho2] at HN HY HB
  clear ho2
  go_enter Try.func10, Try.ntmps10
  go_wp2_with fail
  have X0 := ((Pts.boxR w (.slice A n cap) 28 (k := w.heap.size) (by simp)).alloc (Obj.cells #[.slice none 0 0] 28)).alloc (Obj.cells #[.slice none 0 0] 28)
  have X1 := (Blk.Holds.box (w.alloc (Obj.cells #[.slice A n cap] 28)) #[.slice none 0 0] 28 (k := w.heap.size + 1) (by simp)).alloc (Obj.cells #[.slice none 0 0] 28)
  have X2 := Blk.Holds.box ((w.alloc (Obj.cells #[.slice A n cap] 28)).alloc (Obj.cells #[.slice none 0 0] 28)) #[.slice none 0 0] 28 (k := w.heap.size + 1 + 1) (by simp)
  have b0 := PointOk.below3 w (Obj.cells #[.slice A n cap] 28) (Obj.cells #[.slice none 0 0] 28) (Obj.cells #[.slice none 0 0] 28)
  have HO : ∀ W W' : World, (Pts.BoxR W (w.heap.size) (.slice A n cap) ∧ Blk.Holds W (w.heap.size + 1) #[.slice none 0 0] 28 ∧ Blk.Holds W (w.heap.size + 1 + 1) #[.slice none 0 0] 28 ∧ PtsAt W w.heap.size A ps ∧ Below w.heap.size w W) → Below W.heap.size W W' → (Pts.BoxR W' (w.heap.size) (.slice A n cap) ∧ Blk.Holds W' (w.heap.size + 1) #[.slice none 0 0] 28 ∧ Blk.Holds W' (w.heap.size + 1 + 1) #[.slice none 0 0] 28 ∧ PtsAt W' w.heap.size A ps ∧ Below w.heap.size w W') := fun W W' ⟨h0, h1, h2, x0, hb⟩ h => ⟨h0.later h, h1.later h, h2.later h, x0.later (h.mono hb.size), hb.trans (h.mono hb.size)⟩
  have hz0_ : Hid (((((w.alloc (Obj.cells #[.slice A n cap] 28)).alloc (Obj.cells #[.slice none 0 0] 28)).alloc (Obj.cells #[.slice none 0 0] 28))).heap.size = w.heap.size + 1 + 1 + 1) := Lib.hid (by simp)
  have Y0 : PtsAt ((((w.alloc (Obj.cells #[.slice A n cap] 28)).alloc (Obj.cells #[.slice none 0 0] 28)).alloc (Obj.cells #[.slice none 0 0] 28))) w.heap.size A ps := hp.later b0
  generalize (((w.alloc (Obj.cells #[.slice A n cap] 28)).alloc (Obj.cells #[.slice none 0 0] 28)).alloc (Obj.cells #[.slice none 0 0] 28)) = w0 at X0 X1 X2 Y0 b0 hz0_ ⊢
  have S0 := (⟨X0, X1, X2, Y0, b0⟩ : Pts.BoxR w0 (w.heap.size) (.slice A n cap) ∧ Blk.Holds w0 (w.heap.size + 1) #[.slice none 0 0] 28 ∧ Blk.Holds w0 (w.heap.size + 1 + 1) #[.slice none 0 0] 28 ∧ PtsAt w0 w.heap.size A ps ∧ Below w.heap.size w w0)
  clear X0 X1 X2 Y0 b0
  obtain ⟨⟨_, _⟩, _, _, _, _⟩ := id S0
  refine (DiagImpl.isDiagonal A n cap i k _ ps hl hn (S0.2.2.2.1.wide S0.2.2.2.2.size)).mono ?_
  rintro e w1 ⟨rfl, hb_⟩
  replace S0 := HO _ _ S0 hb_
  clear hb_
  obtain ⟨⟨_, _⟩, _, _, _, _⟩ := id S0
  have hz1_ : w.heap.size + 3 ≤ w1.heap.size := S0.2.2.1.lt
  cases hd : isDiagB ps i k
  · obtain ⟨rfl, rfl, rfl⟩ := HN.out (by rw [HB.out, hd]; rfl)
    have hR := two_set S0.2.1 S0.2.2.1 (by omega) (.slice none 0 0) (.slice none 0 0)
    obtain ⟨_, _⟩ := S0.2.1.one
    obtain ⟨_, _⟩ := hR.1.one
    obtain ⟨r1_, _⟩ := hR.2.1.one
    obtain ⟨r2_, _⟩ := hR.2.2.one
    have hb4 := Lib.hid (S0.2.2.2.2.trans ((below_set w1 w.heap.size (w.heap.size + 1) 0 (.slice none 0 0) (by omega)).trans (below_set _ w.heap.size (w.heap.size + 1 + 1) 0 (.slice none 0 0) (by omega))))
    clear hR HN HY HB
    go_wp2_with fail
    refine bodyPost_ret (v := .tuple #[.agg #[.slice none 0 0], .agg #[.slice none 0 0], .bool false]) (by simp [results, Try.results10, go_sem, r1_, r2_]) rfl ⟨none, 0, none, 0, w.heap.size, rfl, Nat.le_refl _, hb4.out.size, World.ownsRow_nil _ _ _ _, (fun k h => by cases h), World.ownsRow_nil _ _ _ _, hb4.out⟩
  obtain ⟨hr0, a, b, rfl, rfl, ha, hb, hab⟩ := isDiagB_yes hd
  simp only [Int.toNat_natCast] at HB HY
  rw [hl] at ha hb
  rw [hd] at HB
  have QP : Hid (∀ W hp, _) := Lib.hid fun W hp => part A n cap a b W ps hl hn ha hb hp
  have QQ : Hid (∀ W hp, _) := Lib.hid fun W hp => part A n cap b a W ps hl hn hb ha hp
  have hs1 : (partI ps a b).length ≤ 1048576 := by rw [part_len, hl]; have := dIK_lt (n := n) (i := a) (k := b) (by omega); omega
  have hs2 : (partI ps b a).length ≤ 1048576 := by rw [part_len, hl]; have := dIK_lt (n := n) (i := b) (k := a) (by omega); omega
  generalize partI ps a b = p1 at *
  generalize partI ps b a = p2 at *
  obtain ⟨m1, hm1⟩ : ∃ m, p1.length = m := ⟨_, rfl⟩
  obtain ⟨m2, hm2⟩ : ∃ m, p2.length = m := ⟨_, rfl⟩
  unfold GivesR at QP QQ
  rw [hm1] at QP hs1
  rw [hm2] at QQ hs2
  have hm1 := Lib.hid hm1
  have hm2 := Lib.hid hm2
  clear hl hd hr0 ha hb hab
  have HO3 : ∀ W W' : World, (Pts.BoxR W (w.heap.size) (.slice A n cap) ∧ Blk.Holds W (w.heap.size + 1) #[.slice none 0 0] 28 ∧ Blk.Holds W (w.heap.size + 1 + 1) #[.slice none 0 0] 28 ∧ PtsAt W w.heap.size A ps ∧ Below w.heap.size w W) → Below (w.heap.size + 3) W W' → (Pts.BoxR W' (w.heap.size) (.slice A n cap) ∧ Blk.Holds W' (w.heap.size + 1) #[.slice none 0 0] 28 ∧ Blk.Holds W' (w.heap.size + 1 + 1) #[.slice none 0 0] 28 ∧ PtsAt W' w.heap.size A ps ∧ Below w.heap.size w W') := fun W W' ⟨h0, h1, h2, x0, hb⟩ h => ⟨⟨(h.cell (by simp)).trans h0.1, trivial⟩, (h.block _ (by omega)).trans h1, (h.block _ (by omega)).trans h2, x0.later (h.mono (by omega)), hb.trans (h.mono (by omega))⟩
  go_wp2_with fail
  have SD := HO _ _ S0 (Below.refl w1.heap.size w1).drew
  have HS0_ := SD.1.1
  clear S0 hz1_
  refine wp_region_held_drew (S := fun W => W.cell? ⟨w.heap.size, 0, none⟩ = some (.slice A n cap)) (by kernel_rfl) HS0_ (fun hHeld => ?_)
  clear HS0_
  generalize w1.drew = v0 at *
  have S0 := SD
  clear SD
  refine wpAnyH_take (i := 0) (oi := ⟨some 18, _, _, _, _, _⟩) (v := ?_) rfl (by kernel_rfl) (by kernel_rfl) (by kernel_rfl) (fun _ _ _ h => h) (Or.inl ⟨by rfl, ?_⟩) (by assumption) ?_
  rotate_left 1
  · (intro w hSw; (try dsimp only at hSw); go_simp; try with_reducible rfl)
  try simp only [Act.put, List.setIfInBounds_toArray, List.set_cons_zero, List.set_cons_succ]
  refine wpAnyH_take (i := 1) (oi := ⟨some 19, _, _, _, _, _⟩) (v := ?_) rfl (by kernel_rfl) (by kernel_rfl) (by kernel_rfl) (fun _ _ _ h => h) (Or.inl ⟨by rfl, ?_⟩) (by assumption) ?_
  rotate_left 1
  · (intro w hSw; (try dsimp only at hSw); go_simp; try with_reducible rfl)
  try simp only [Act.put, List.setIfInBounds_toArray, List.set_cons_zero, List.set_cons_succ]
  refine wpAnyH_take (i := 2) (oi := ⟨some 20, _, _, _, _, _⟩) (v := ?_) rfl (by kernel_rfl) (by kernel_rfl) (by kernel_rfl) (fun _ _ _ h => h) (Or.inl ⟨by rfl, ?_⟩) (by assumption) ?_
  rotate_left 1
  · (intro w hSw; (try dsimp only at hSw); go_simp; try with_reducible rfl)
  try simp only [Act.put, List.setIfInBounds_toArray, List.set_cons_zero, List.set_cons_succ]
  refine wpAnyH_take (i := 4) (oi := ⟨some 22, _, _, _, _, _⟩) (v := ?_) rfl (by kernel_rfl) (by kernel_rfl) (by kernel_rfl) (fun _ _ _ h => h) (Or.inl ⟨by rfl, ?_⟩) (by assumption) ?_
  rotate_left 1
  · (intro w hSw; (try dsimp only at hSw); go_simp; try with_reducible rfl)
  try simp only [Act.put, List.setIfInBounds_toArray, List.set_cons_zero, List.set_cons_succ]
  refine wpAnyH_take (i := 5) (oi := ⟨some 23, _, _, _, _, _⟩) (v := ?_) rfl (by kernel_rfl) (by kernel_rfl) (by kernel_rfl) (fun _ _ _ h => h) (Or.inl ⟨by rfl, ?_⟩) (by assumption) ?_
  rotate_left 1
  · (intro w hSw; (try dsimp only at hSw); go_simp; try with_reducible rfl)
  try simp only [Act.put, List.setIfInBounds_toArray, List.set_cons_zero, List.set_cons_succ]
  refine wpAnyH_take (i := 6) (oi := ⟨some 24, _, _, _, _, _⟩) (v := ?_) rfl (by kernel_rfl) (by kernel_rfl) (by kernel_rfl) (fun _ _ _ h => h) (Or.inl ⟨by rfl, ?_⟩) (by assumption) ?_
  rotate_left 1
  · (intro w hSw; (try dsimp only at hSw); go_simp; try with_reducible rfl)
  try simp only [Act.put, List.setIfInBounds_toArray, List.set_cons_zero, List.set_cons_succ]
  refine wpAnyH_ready (rs := [3, 8, 9]) (by kernel_rfl) (by simp) ?_
  refine AllReadyH.cons (o := ⟨some 21, _, _, _, _, _⟩) rfl (fun K hK => ?_) ?_
  · skip
    go_simp
    go_at_call 31
    refine (QP.out _ (S0.2.2.2.1.wide S0.2.2.2.2.size)).mono ?_
    rintro e v3 ⟨A1, c1, rfl, O1, hb_⟩
    have hzc_ : w.heap.size + 3 ≤ v0.heap.size := S0.2.2.1.lt
    replace O1 := own_base O1 (b' := w.heap.size + 3) hzc_
    replace S0 := HO _ _ S0 hb_
    clear hb_ hzc_
    refine hK.out _ _ S0.1.1 (fun hHeld => ?_)
    clear hK K
    try simp only [Act.put, List.setIfInBounds_toArray, List.set_cons_zero, List.set_cons_succ]
    refine wpAnyH_ready (rs := [7, 8, 9]) (by kernel_rfl) (by simp) ?_
    refine AllReadyH.cons (o := ⟨some 25, _, _, _, _, _⟩) rfl (fun K hK => ?_) ?_
    · skip
      go_simp
      go_at_call 31
      refine (QQ.out _ (S0.2.2.2.1.wide S0.2.2.2.2.size)).mono ?_
      rintro e v7 ⟨A2, c2, rfl, O2, hb_⟩
      have hzc_ : w.heap.size + 3 ≤ v3.heap.size := S0.2.2.1.lt
      obtain ⟨mid, hmid⟩ : ∃ q, q = v3.heap.size := ⟨_, rfl⟩
      rw [← hmid] at O2
      have q12 : ∀ g, (Value.slice A1 m1 c1).ownBlock = some g → g < mid := fun g hg => by have := (O1.lt g hg).2; omega
      have lom : w.heap.size + 3 ≤ mid := by omega
      have hmy : mid ≤ v7.heap.size := by rw [hmid]; exact hb_.size
      clear hmid
      replace O1 := own_below O1 hb_
      replace S0 := HO _ _ S0 hb_
      clear hb_ hzc_
      refine hK.out _ _ S0.1.1 (fun hHeld => ?_)
      clear hK K
      try simp only [Act.put, List.setIfInBounds_toArray, List.set_cons_zero, List.set_cons_succ]
      refine wpAnyH_ready (rs := [8, 9]) (by kernel_rfl) (by simp) ?_
      refine AllReadyH.cons (o := ⟨some 9, _, _, _, _, _⟩) rfl (fun K hK => ?_) ?_
      · skip
        obtain ⟨k8, hk8⟩ : ∃ q, q = v7.heap.size := ⟨_, rfl⟩
        have lo8 : w.heap.size + 3 ≤ k8 := by rw [hk8]; exact S0.2.2.1.lt
        have n18 : ∀ g, (Value.slice A1 m1 c1).ownBlock = some g → g ≠ k8 := fun g hg => by have := (O1.lt g hg).2; omega
        have n28 : ∀ g, (Value.slice A2 m2 c2).ownBlock = some g → g ≠ k8 := fun g hg => by have := (O2.lt g hg).2; omega
        have H8 := Blk.Holds.box v7 #[.slice none 0 0] 28 hk8
        have hb_ := below1 v7 (Obj.cells #[.slice none 0 0] 28)
        replace O1 := own_below O1 hb_
        replace O2 := own_below O2 hb_
        replace hmy := Nat.le_trans hmy hb_.size
        replace S0 := HO _ _ S0 hb_
        clear hb_
        go_simp
        try rw [← hk8]
        generalize v7.alloc (Obj.cells #[.slice none 0 0] 28) = v8 at *
        clear hk8
        refine hK.out _ _ S0.1.1 (fun hHeld => ?_)
        clear hK K
        try simp only [Act.put, List.setIfInBounds_toArray, List.set_cons_zero, List.set_cons_succ]
        refine wpAnyH_ready (rs := [9]) (by kernel_rfl) (by simp) ?_
        refine AllReadyH.cons (o := ⟨some 10, _, _, _, _, _⟩) rfl (fun K hK => ?_) ?_
        rotate_left 1
        · exact AllReadyH.nil
        obtain ⟨k9, hk9⟩ : ∃ q, q = v8.heap.size := ⟨_, rfl⟩
        have lo9 : w.heap.size + 3 ≤ k9 := by rw [hk9]; exact S0.2.2.1.lt
        have n19 : ∀ g, (Value.slice A1 m1 c1).ownBlock = some g → g ≠ k9 := fun g hg => by have := (O1.lt g hg).2; omega
        have n29 : ∀ g, (Value.slice A2 m2 c2).ownBlock = some g → g ≠ k9 := fun g hg => by have := (O2.lt g hg).2; omega
        have n89 : k8 ≠ k9 := by have := H8.lt; omega
        have H9 := Blk.Holds.box v8 #[.slice none 0 0] 28 hk9
        have hb_ := below1 v8 (Obj.cells #[.slice none 0 0] 28)
        replace O1 := own_below O1 hb_
        replace O2 := own_below O2 hb_
        replace H8 := H8.later hb_
        replace hmy := Nat.le_trans hmy hb_.size
        replace S0 := HO _ _ S0 hb_
        clear hb_
        go_simp
        try rw [← hk9]
        generalize v8.alloc (Obj.cells #[.slice none 0 0] 28) = v9 at *
        clear hk9
        refine hK.out _ _ S0.1.1 (fun hHeld => ?_)
        clear hK K
        try simp only [Act.put, List.setIfInBounds_toArray, List.set_cons_zero, List.set_cons_succ]
        refine wpAnyH_ready (rs := [10]) (by kernel_rfl) (by simp) ?_
        refine AllReadyH.cons (o := ⟨none, _, _, _, _, _⟩) rfl (fun K hK => ?_) ?_
        rotate_left 1
        · exact AllReadyH.nil
        obtain ⟨_, _⟩ := H8.one
        have hg_ := grown_set v9 k8 0 (.slice A1 m1 c1)
        have hb_ := below_set v9 (w.heap.size + 3) k8 0 (.slice A1 m1 c1) lo8
        have hs_ := hb_.size
        replace O1 := kept_ne O1 hg_ n18
        replace O2 := kept_ne O2 hg_ n28
        replace H8 : Holds (v9.setCell ⟨k8, 0, none⟩ (.slice A1 m1 c1)) k8 #[(.slice A1 m1 c1)] 28 := Blk.set_own H8 0 (.slice A1 m1 c1)
        replace H9 := H9.far ⟨k8, 0, none⟩ (.slice A1 m1 c1) (fun e => n89 e.symm)
        replace S0 := HO3 _ _ S0 hb_
        replace hmy := Nat.le_trans hmy hb_.size
        go_simp
        generalize v9.setCell ⟨k8, 0, none⟩ (.slice A1 m1 c1) = v10 at *
        clear hg_ hb_ hs_
        refine hK.out _ _ S0.1.1 (fun hHeld => ?_)
        clear hK K
        try simp only [Act.put, List.setIfInBounds_toArray, List.set_cons_zero, List.set_cons_succ]
        refine wpAnyH_ready (rs := [11]) (by kernel_rfl) (by simp) ?_
        refine AllReadyH.cons (o := ⟨none, _, _, _, _, _⟩) rfl (fun K hK => ?_) ?_
        rotate_left 1
        · exact AllReadyH.nil
        obtain ⟨_, _⟩ := H9.one
        have hg_ := grown_set v10 k9 0 (.slice A2 m2 c2)
        have hb_ := below_set v10 (w.heap.size + 3) k9 0 (.slice A2 m2 c2) lo9
        have hs_ := hb_.size
        replace O1 := kept_ne O1 hg_ n19
        replace O2 := kept_ne O2 hg_ n29
        replace H9 : Holds (v10.setCell ⟨k9, 0, none⟩ (.slice A2 m2 c2)) k9 #[(.slice A2 m2 c2)] 28 := Blk.set_own H9 0 (.slice A2 m2 c2)
        replace H8 := H8.far ⟨k9, 0, none⟩ (.slice A2 m2 c2) n89
        replace S0 := HO3 _ _ S0 hb_
        replace hmy := Nat.le_trans hmy hb_.size
        go_simp
        generalize v10.setCell ⟨k9, 0, none⟩ (.slice A2 m2 c2) = v11 at *
        clear hg_ hb_ hs_
        refine hK.out _ _ S0.1.1 (fun hHeld => ?_)
        clear hK K
        try simp only [Act.put, List.setIfInBounds_toArray, List.set_cons_zero, List.set_cons_succ]
        refine wpAnyH_done (by kernel_rfl) ?_ _
        obtain ⟨⟨_, _⟩, _⟩ := id S0
        obtain ⟨_, _⟩ := H8.one
        obtain ⟨_, _⟩ := H9.one
        go_wp2_with fail
        refine (RoomOkImpl.roomOk A1 m1 c1 _ p1 hm1.out hs1 (own_ptsC O1 hm1.out)).mono ?_
        rintro e x4 ⟨rfl, hb_⟩
        replace O1 := own_below O1 hb_
        replace O2 := own_below O2 hb_
        replace H8 := H8.later hb_
        replace H9 := H9.later hb_
        replace hmy := Nat.le_trans hmy hb_.size
        replace S0 := HO _ _ S0 hb_
        clear hb_
        obtain ⟨⟨_, _⟩, _⟩ := id S0
        obtain ⟨_, _⟩ := H8.one
        obtain ⟨_, _⟩ := H9.one
        cases q1 : roomB p1
        · obtain ⟨rfl, rfl, rfl⟩ := HN.out (by rw [HB.out, q1]; rfl)
          have hR := two_set S0.2.1 S0.2.2.1 (by omega) (.slice none 0 0) (.slice none 0 0)
          obtain ⟨_, _⟩ := S0.2.1.one
          obtain ⟨_, _⟩ := hR.1.one
          obtain ⟨r1_, _⟩ := hR.2.1.one
          obtain ⟨r2_, _⟩ := hR.2.2.one
          have hb4 := Lib.hid (S0.2.2.2.2.trans ((below_set x4 w.heap.size (w.heap.size + 1) 0 (.slice none 0 0) (by omega)).trans (below_set _ w.heap.size (w.heap.size + 1 + 1) 0 (.slice none 0 0) (by omega))))
          clear hR HN HY HB
          go_wp2_with fail
          refine bodyPost_ret (v := .tuple #[.agg #[.slice none 0 0], .agg #[.slice none 0 0], .bool false]) (by simp [results, Try.results10, go_sem, r1_, r2_]) rfl ⟨none, 0, none, 0, w.heap.size, rfl, Nat.le_refl _, hb4.out.size, World.ownsRow_nil _ _ _ _, (fun k h => by cases h), World.ownsRow_nil _ _ _ _, hb4.out⟩
        go_wp2_with fail
        refine (RoomOkImpl.roomOk A2 m2 c2 _ p2 hm2.out hs2 (own_ptsC O2 hm2.out)).mono ?_
        rintro e x5 ⟨rfl, hb_⟩
        replace O1 := own_below O1 hb_
        replace O2 := own_below O2 hb_
        replace H8 := H8.later hb_
        replace H9 := H9.later hb_
        replace hmy := Nat.le_trans hmy hb_.size
        replace S0 := HO _ _ S0 hb_
        clear hb_
        obtain ⟨⟨_, _⟩, _⟩ := id S0
        obtain ⟨_, _⟩ := H8.one
        obtain ⟨_, _⟩ := H9.one
        cases q2 : roomB p2
        · obtain ⟨rfl, rfl, rfl⟩ := HN.out (by rw [HB.out, q1, q2]; rfl)
          have hR := two_set S0.2.1 S0.2.2.1 (by omega) (.slice none 0 0) (.slice none 0 0)
          obtain ⟨_, _⟩ := S0.2.1.one
          obtain ⟨_, _⟩ := hR.1.one
          obtain ⟨r1_, _⟩ := hR.2.1.one
          obtain ⟨r2_, _⟩ := hR.2.2.one
          have hb4 := Lib.hid (S0.2.2.2.2.trans ((below_set x5 w.heap.size (w.heap.size + 1) 0 (.slice none 0 0) (by omega)).trans (below_set _ w.heap.size (w.heap.size + 1 + 1) 0 (.slice none 0 0) (by omega))))
          clear hR HN HY HB
          go_wp2_with fail
          refine bodyPost_ret (v := .tuple #[.agg #[.slice none 0 0], .agg #[.slice none 0 0], .bool false]) (by simp [results, Try.results10, go_sem, r1_, r2_]) rfl ⟨none, 0, none, 0, w.heap.size, rfl, Nat.le_refl _, hb4.out.size, World.ownsRow_nil _ _ _ _, (fun k h => by cases h), World.ownsRow_nil _ _ _ _, hb4.out⟩
        obtain ⟨rfl, rfl, rfl⟩ := HY.out (by rw [HB.out, q1, q2]; rfl)
        have hmx : mid ≤ x5.heap.size := hmy
        have hR := two_set S0.2.1 S0.2.2.1 (by omega) (.slice A1 m1 c1) (.slice A2 m2 c2)
        obtain ⟨_, _⟩ := S0.2.1.one
        obtain ⟨_, _⟩ := S0.2.2.1.one
        obtain ⟨_, _⟩ := hR.1.one
        obtain ⟨r1_, _⟩ := hR.2.1.one
        obtain ⟨r2_, _⟩ := hR.2.2.one
        obtain ⟨_, _⟩ := (H9.far ⟨w.heap.size + 1, 0, none⟩ (.slice A1 m1 c1) (fun e => by have e : k9 = w.heap.size + 1 := e; omega)).one
        have OF1 := Lib.hid (own_set (own_set O1 (w.heap.size + 1) 0 (.slice A1 m1 c1) (by omega)) (w.heap.size + 1 + 1) 0 (.slice A2 m2 c2) (by omega))
        have OF2 := Lib.hid (own_set (own_set O2 (w.heap.size + 1) 0 (.slice A1 m1 c1) (by omega)) (w.heap.size + 1 + 1) 0 (.slice A2 m2 c2) (by omega))
        have hb3 := ((below_set x5 w.heap.size (w.heap.size + 1) 0 (.slice A1 m1 c1) (by omega)).trans (below_set _ w.heap.size (w.heap.size + 1 + 1) 0 (.slice A2 m2 c2) (by omega)))
        have hb5 := Lib.hid ((S0.2.2.2.2.trans hb3).trans (⟨rfl, rfl, rfl, Nat.le_refl _, fun _ _ => rfl⟩ : Below w.heap.size ((x5.setCell ⟨w.heap.size + 1, 0, none⟩ (.slice A1 m1 c1)).setCell ⟨w.heap.size + 1 + 1, 0, none⟩ (.slice A2 m2 c2)) ((x5.setCell ⟨w.heap.size + 1, 0, none⟩ (.slice A1 m1 c1)).setCell ⟨w.heap.size + 1 + 1, 0, none⟩ (.slice A2 m2 c2)).drew))
        have hk5_ := Lib.hid (Nat.le_trans hmx hb3.size)
        have hm3 := hm1.out
        have hm4 := hm2.out
        subst hm3 hm4
        clear hR HN HY HB hb3
        go_wp2_with fail
        go_region
        go_wp2_with fail
        refine bodyPost_ret (v := .tuple #[.agg #[.slice A1 l1.length c1], .agg #[.slice A2 l2.length c2], .bool true]) (by simp [results, Try.results10, go_sem, r1_, r2_]) rfl ⟨A1, c1, A2, c2, mid, rfl, by omega, hk5_.out, own_base OF1.out (by omega), q12, OF2.out, hb5.out⟩
      refine AllReadyH.cons (o := ⟨some 10, _, _, _, _, _⟩) rfl (fun K hK => ?_) ?_
      · skip
        obtain ⟨k9, hk9⟩ : ∃ q, q = v7.heap.size := ⟨_, rfl⟩
        have lo9 : w.heap.size + 3 ≤ k9 := by rw [hk9]; exact S0.2.2.1.lt
        have n19 : ∀ g, (Value.slice A1 m1 c1).ownBlock = some g → g ≠ k9 := fun g hg => by have := (O1.lt g hg).2; omega
        have n29 : ∀ g, (Value.slice A2 m2 c2).ownBlock = some g → g ≠ k9 := fun g hg => by have := (O2.lt g hg).2; omega
        have H9 := Blk.Holds.box v7 #[.slice none 0 0] 28 hk9
        have hb_ := below1 v7 (Obj.cells #[.slice none 0 0] 28)
        replace O1 := own_below O1 hb_
        replace O2 := own_below O2 hb_
        replace hmy := Nat.le_trans hmy hb_.size
        replace S0 := HO _ _ S0 hb_
        clear hb_
        go_simp
        try rw [← hk9]
        generalize v7.alloc (Obj.cells #[.slice none 0 0] 28) = v9 at *
        clear hk9
        refine hK.out _ _ S0.1.1 (fun hHeld => ?_)
        clear hK K
        try simp only [Act.put, List.setIfInBounds_toArray, List.set_cons_zero, List.set_cons_succ]
        refine wpAnyH_ready (rs := [8]) (by kernel_rfl) (by simp) ?_
        refine AllReadyH.cons (o := ⟨some 9, _, _, _, _, _⟩) rfl (fun K hK => ?_) ?_
        rotate_left 1
        · exact AllReadyH.nil
        obtain ⟨k8, hk8⟩ : ∃ q, q = v9.heap.size := ⟨_, rfl⟩
        have lo8 : w.heap.size + 3 ≤ k8 := by rw [hk8]; exact S0.2.2.1.lt
        have n18 : ∀ g, (Value.slice A1 m1 c1).ownBlock = some g → g ≠ k8 := fun g hg => by have := (O1.lt g hg).2; omega
        have n28 : ∀ g, (Value.slice A2 m2 c2).ownBlock = some g → g ≠ k8 := fun g hg => by have := (O2.lt g hg).2; omega
        have n89 : k8 ≠ k9 := by have := H9.lt; omega
        have H8 := Blk.Holds.box v9 #[.slice none 0 0] 28 hk8
        have hb_ := below1 v9 (Obj.cells #[.slice none 0 0] 28)
        replace O1 := own_below O1 hb_
        replace O2 := own_below O2 hb_
        replace H9 := H9.later hb_
        replace hmy := Nat.le_trans hmy hb_.size
        replace S0 := HO _ _ S0 hb_
        clear hb_
        go_simp
        try rw [← hk8]
        generalize v9.alloc (Obj.cells #[.slice none 0 0] 28) = v8 at *
        clear hk8
        refine hK.out _ _ S0.1.1 (fun hHeld => ?_)
        clear hK K
        try simp only [Act.put, List.setIfInBounds_toArray, List.set_cons_zero, List.set_cons_succ]
        refine wpAnyH_ready (rs := [10]) (by kernel_rfl) (by simp) ?_
        refine AllReadyH.cons (o := ⟨none, _, _, _, _, _⟩) rfl (fun K hK => ?_) ?_
        rotate_left 1
        · exact AllReadyH.nil
        obtain ⟨_, _⟩ := H8.one
        have hg_ := grown_set v8 k8 0 (.slice A1 m1 c1)
        have hb_ := below_set v8 (w.heap.size + 3) k8 0 (.slice A1 m1 c1) lo8
        have hs_ := hb_.size
        replace O1 := kept_ne O1 hg_ n18
        replace O2 := kept_ne O2 hg_ n28
        replace H8 : Holds (v8.setCell ⟨k8, 0, none⟩ (.slice A1 m1 c1)) k8 #[(.slice A1 m1 c1)] 28 := Blk.set_own H8 0 (.slice A1 m1 c1)
        replace H9 := H9.far ⟨k8, 0, none⟩ (.slice A1 m1 c1) (fun e => n89 e.symm)
        replace S0 := HO3 _ _ S0 hb_
        replace hmy := Nat.le_trans hmy hb_.size
        go_simp
        generalize v8.setCell ⟨k8, 0, none⟩ (.slice A1 m1 c1) = v10 at *
        clear hg_ hb_ hs_
        refine hK.out _ _ S0.1.1 (fun hHeld => ?_)
        clear hK K
        try simp only [Act.put, List.setIfInBounds_toArray, List.set_cons_zero, List.set_cons_succ]
        refine wpAnyH_ready (rs := [11]) (by kernel_rfl) (by simp) ?_
        refine AllReadyH.cons (o := ⟨none, _, _, _, _, _⟩) rfl (fun K hK => ?_) ?_
        rotate_left 1
        · exact AllReadyH.nil
        obtain ⟨_, _⟩ := H9.one
        have hg_ := grown_set v10 k9 0 (.slice A2 m2 c2)
        have hb_ := below_set v10 (w.heap.size + 3) k9 0 (.slice A2 m2 c2) lo9
        have hs_ := hb_.size
        replace O1 := kept_ne O1 hg_ n19
        replace O2 := kept_ne O2 hg_ n29
        replace H9 : Holds (v10.setCell ⟨k9, 0, none⟩ (.slice A2 m2 c2)) k9 #[(.slice A2 m2 c2)] 28 := Blk.set_own H9 0 (.slice A2 m2 c2)
        replace H8 := H8.far ⟨k9, 0, none⟩ (.slice A2 m2 c2) n89
        replace S0 := HO3 _ _ S0 hb_
        replace hmy := Nat.le_trans hmy hb_.size
        go_simp
        generalize v10.setCell ⟨k9, 0, none⟩ (.slice A2 m2 c2) = v11 at *
        clear hg_ hb_ hs_
        refine hK.out _ _ S0.1.1 (fun hHeld => ?_)
        clear hK K
        try simp only [Act.put, List.setIfInBounds_toArray, List.set_cons_zero, List.set_cons_succ]
        refine wpAnyH_done (by kernel_rfl) ?_ _
        obtain ⟨⟨_, _⟩, _⟩ := id S0
        obtain ⟨_, _⟩ := H8.one
        obtain ⟨_, _⟩ := H9.one
        go_wp2_with fail
        refine (RoomOkImpl.roomOk A1 m1 c1 _ p1 hm1.out hs1 (own_ptsC O1 hm1.out)).mono ?_
        rintro e x4 ⟨rfl, hb_⟩
        replace O1 := own_below O1 hb_
        replace O2 := own_below O2 hb_
        replace H8 := H8.later hb_
        replace H9 := H9.later hb_
        replace hmy := Nat.le_trans hmy hb_.size
        replace S0 := HO _ _ S0 hb_
        clear hb_
        obtain ⟨⟨_, _⟩, _⟩ := id S0
        obtain ⟨_, _⟩ := H8.one
        obtain ⟨_, _⟩ := H9.one
        cases q1 : roomB p1
        · obtain ⟨rfl, rfl, rfl⟩ := HN.out (by rw [HB.out, q1]; rfl)
          have hR := two_set S0.2.1 S0.2.2.1 (by omega) (.slice none 0 0) (.slice none 0 0)
          obtain ⟨_, _⟩ := S0.2.1.one
          obtain ⟨_, _⟩ := hR.1.one
          obtain ⟨r1_, _⟩ := hR.2.1.one
          obtain ⟨r2_, _⟩ := hR.2.2.one
          have hb4 := Lib.hid (S0.2.2.2.2.trans ((below_set x4 w.heap.size (w.heap.size + 1) 0 (.slice none 0 0) (by omega)).trans (below_set _ w.heap.size (w.heap.size + 1 + 1) 0 (.slice none 0 0) (by omega))))
          clear hR HN HY HB
          go_wp2_with fail
          refine bodyPost_ret (v := .tuple #[.agg #[.slice none 0 0], .agg #[.slice none 0 0], .bool false]) (by simp [results, Try.results10, go_sem, r1_, r2_]) rfl ⟨none, 0, none, 0, w.heap.size, rfl, Nat.le_refl _, hb4.out.size, World.ownsRow_nil _ _ _ _, (fun k h => by cases h), World.ownsRow_nil _ _ _ _, hb4.out⟩
        go_wp2_with fail
        refine (RoomOkImpl.roomOk A2 m2 c2 _ p2 hm2.out hs2 (own_ptsC O2 hm2.out)).mono ?_
        rintro e x5 ⟨rfl, hb_⟩
        replace O1 := own_below O1 hb_
        replace O2 := own_below O2 hb_
        replace H8 := H8.later hb_
        replace H9 := H9.later hb_
        replace hmy := Nat.le_trans hmy hb_.size
        replace S0 := HO _ _ S0 hb_
        clear hb_
        obtain ⟨⟨_, _⟩, _⟩ := id S0
        obtain ⟨_, _⟩ := H8.one
        obtain ⟨_, _⟩ := H9.one
        cases q2 : roomB p2
        · obtain ⟨rfl, rfl, rfl⟩ := HN.out (by rw [HB.out, q1, q2]; rfl)
          have hR := two_set S0.2.1 S0.2.2.1 (by omega) (.slice none 0 0) (.slice none 0 0)
          obtain ⟨_, _⟩ := S0.2.1.one
          obtain ⟨_, _⟩ := hR.1.one
          obtain ⟨r1_, _⟩ := hR.2.1.one
          obtain ⟨r2_, _⟩ := hR.2.2.one
          have hb4 := Lib.hid (S0.2.2.2.2.trans ((below_set x5 w.heap.size (w.heap.size + 1) 0 (.slice none 0 0) (by omega)).trans (below_set _ w.heap.size (w.heap.size + 1 + 1) 0 (.slice none 0 0) (by omega))))
          clear hR HN HY HB
          go_wp2_with fail
          refine bodyPost_ret (v := .tuple #[.agg #[.slice none 0 0], .agg #[.slice none 0 0], .bool false]) (by simp [results, Try.results10, go_sem, r1_, r2_]) rfl ⟨none, 0, none, 0, w.heap.size, rfl, Nat.le_refl _, hb4.out.size, World.ownsRow_nil _ _ _ _, (fun k h => by cases h), World.ownsRow_nil _ _ _ _, hb4.out⟩
        obtain ⟨rfl, rfl, rfl⟩ := HY.out (by rw [HB.out, q1, q2]; rfl)
        have hmx : mid ≤ x5.heap.size := hmy
        have hR := two_set S0.2.1 S0.2.2.1 (by omega) (.slice A1 m1 c1) (.slice A2 m2 c2)
        obtain ⟨_, _⟩ := S0.2.1.one
        obtain ⟨_, _⟩ := S0.2.2.1.one
        obtain ⟨_, _⟩ := hR.1.one
        obtain ⟨r1_, _⟩ := hR.2.1.one
        obtain ⟨r2_, _⟩ := hR.2.2.one
        obtain ⟨_, _⟩ := (H9.far ⟨w.heap.size + 1, 0, none⟩ (.slice A1 m1 c1) (fun e => by have e : k9 = w.heap.size + 1 := e; omega)).one
        have OF1 := Lib.hid (own_set (own_set O1 (w.heap.size + 1) 0 (.slice A1 m1 c1) (by omega)) (w.heap.size + 1 + 1) 0 (.slice A2 m2 c2) (by omega))
        have OF2 := Lib.hid (own_set (own_set O2 (w.heap.size + 1) 0 (.slice A1 m1 c1) (by omega)) (w.heap.size + 1 + 1) 0 (.slice A2 m2 c2) (by omega))
        have hb3 := ((below_set x5 w.heap.size (w.heap.size + 1) 0 (.slice A1 m1 c1) (by omega)).trans (below_set _ w.heap.size (w.heap.size + 1 + 1) 0 (.slice A2 m2 c2) (by omega)))
        have hb5 := Lib.hid ((S0.2.2.2.2.trans hb3).trans (⟨rfl, rfl, rfl, Nat.le_refl _, fun _ _ => rfl⟩ : Below w.heap.size ((x5.setCell ⟨w.heap.size + 1, 0, none⟩ (.slice A1 m1 c1)).setCell ⟨w.heap.size + 1 + 1, 0, none⟩ (.slice A2 m2 c2)) ((x5.setCell ⟨w.heap.size + 1, 0, none⟩ (.slice A1 m1 c1)).setCell ⟨w.heap.size + 1 + 1, 0, none⟩ (.slice A2 m2 c2)).drew))
        have hk5_ := Lib.hid (Nat.le_trans hmx hb3.size)
        have hm3 := hm1.out
        have hm4 := hm2.out
        subst hm3 hm4
        clear hR HN HY HB hb3
        go_wp2_with fail
        go_region
        go_wp2_with fail
        refine bodyPost_ret (v := .tuple #[.agg #[.slice A1 l1.length c1], .agg #[.slice A2 l2.length c2], .bool true]) (by simp [results, Try.results10, go_sem, r1_, r2_]) rfl ⟨A1, c1, A2, c2, mid, rfl, by omega, hk5_.out, own_base OF1.out (by omega), q12, OF2.out, hb5.out⟩
      exact AllReadyH.nil
    refine AllReadyH.cons (o := ⟨some 9, _, _, _, _, _⟩) rfl (fun K hK => ?_) ?_
    · skip
      obtain ⟨k8, hk8⟩ : ∃ q, q = v3.heap.size := ⟨_, rfl⟩
      have lo8 : w.heap.size + 3 ≤ k8 := by rw [hk8]; exact S0.2.2.1.lt
      have n18 : ∀ g, (Value.slice A1 m1 c1).ownBlock = some g → g ≠ k8 := fun g hg => by have := (O1.lt g hg).2; omega
      have H8 := Blk.Holds.box v3 #[.slice none 0 0] 28 hk8
      have hb_ := below1 v3 (Obj.cells #[.slice none 0 0] 28)
      replace O1 := own_below O1 hb_
      replace S0 := HO _ _ S0 hb_
      clear hb_
      go_simp
      try rw [← hk8]
      generalize v3.alloc (Obj.cells #[.slice none 0 0] 28) = v8 at *
      clear hk8
      refine hK.out _ _ S0.1.1 (fun hHeld => ?_)
      clear hK K
      try simp only [Act.put, List.setIfInBounds_toArray, List.set_cons_zero, List.set_cons_succ]
      refine wpAnyH_ready (rs := [7, 9]) (by kernel_rfl) (by simp) ?_
      refine AllReadyH.cons (o := ⟨some 25, _, _, _, _, _⟩) rfl (fun K hK => ?_) ?_
      · skip
        go_simp
        go_at_call 31
        refine (QQ.out _ (S0.2.2.2.1.wide S0.2.2.2.2.size)).mono ?_
        rintro e v7 ⟨A2, c2, rfl, O2, hb_⟩
        have hzc_ : w.heap.size + 3 ≤ v8.heap.size := S0.2.2.1.lt
        have n28 : ∀ g, (Value.slice A2 m2 c2).ownBlock = some g → g ≠ k8 := fun g hg => by have := (O2.lt g hg).1; have := H8.lt; omega
        obtain ⟨mid, hmid⟩ : ∃ q, q = v8.heap.size := ⟨_, rfl⟩
        rw [← hmid] at O2
        have q12 : ∀ g, (Value.slice A1 m1 c1).ownBlock = some g → g < mid := fun g hg => by have := (O1.lt g hg).2; omega
        have lom : w.heap.size + 3 ≤ mid := by omega
        have hmy : mid ≤ v7.heap.size := by rw [hmid]; exact hb_.size
        clear hmid
        replace O1 := own_below O1 hb_
        replace H8 := H8.later hb_
        replace S0 := HO _ _ S0 hb_
        clear hb_ hzc_
        refine hK.out _ _ S0.1.1 (fun hHeld => ?_)
        clear hK K
        try simp only [Act.put, List.setIfInBounds_toArray, List.set_cons_zero, List.set_cons_succ]
        refine wpAnyH_ready (rs := [9]) (by kernel_rfl) (by simp) ?_
        refine AllReadyH.cons (o := ⟨some 10, _, _, _, _, _⟩) rfl (fun K hK => ?_) ?_
        rotate_left 1
        · exact AllReadyH.nil
        obtain ⟨k9, hk9⟩ : ∃ q, q = v7.heap.size := ⟨_, rfl⟩
        have lo9 : w.heap.size + 3 ≤ k9 := by rw [hk9]; exact S0.2.2.1.lt
        have n19 : ∀ g, (Value.slice A1 m1 c1).ownBlock = some g → g ≠ k9 := fun g hg => by have := (O1.lt g hg).2; omega
        have n29 : ∀ g, (Value.slice A2 m2 c2).ownBlock = some g → g ≠ k9 := fun g hg => by have := (O2.lt g hg).2; omega
        have n89 : k8 ≠ k9 := by have := H8.lt; omega
        have H9 := Blk.Holds.box v7 #[.slice none 0 0] 28 hk9
        have hb_ := below1 v7 (Obj.cells #[.slice none 0 0] 28)
        replace O1 := own_below O1 hb_
        replace O2 := own_below O2 hb_
        replace H8 := H8.later hb_
        replace hmy := Nat.le_trans hmy hb_.size
        replace S0 := HO _ _ S0 hb_
        clear hb_
        go_simp
        try rw [← hk9]
        generalize v7.alloc (Obj.cells #[.slice none 0 0] 28) = v9 at *
        clear hk9
        refine hK.out _ _ S0.1.1 (fun hHeld => ?_)
        clear hK K
        try simp only [Act.put, List.setIfInBounds_toArray, List.set_cons_zero, List.set_cons_succ]
        refine wpAnyH_ready (rs := [10]) (by kernel_rfl) (by simp) ?_
        refine AllReadyH.cons (o := ⟨none, _, _, _, _, _⟩) rfl (fun K hK => ?_) ?_
        rotate_left 1
        · exact AllReadyH.nil
        obtain ⟨_, _⟩ := H8.one
        have hg_ := grown_set v9 k8 0 (.slice A1 m1 c1)
        have hb_ := below_set v9 (w.heap.size + 3) k8 0 (.slice A1 m1 c1) lo8
        have hs_ := hb_.size
        replace O1 := kept_ne O1 hg_ n18
        replace O2 := kept_ne O2 hg_ n28
        replace H8 : Holds (v9.setCell ⟨k8, 0, none⟩ (.slice A1 m1 c1)) k8 #[(.slice A1 m1 c1)] 28 := Blk.set_own H8 0 (.slice A1 m1 c1)
        replace H9 := H9.far ⟨k8, 0, none⟩ (.slice A1 m1 c1) (fun e => n89 e.symm)
        replace S0 := HO3 _ _ S0 hb_
        replace hmy := Nat.le_trans hmy hb_.size
        go_simp
        generalize v9.setCell ⟨k8, 0, none⟩ (.slice A1 m1 c1) = v10 at *
        clear hg_ hb_ hs_
        refine hK.out _ _ S0.1.1 (fun hHeld => ?_)
        clear hK K
        try simp only [Act.put, List.setIfInBounds_toArray, List.set_cons_zero, List.set_cons_succ]
        refine wpAnyH_ready (rs := [11]) (by kernel_rfl) (by simp) ?_
        refine AllReadyH.cons (o := ⟨none, _, _, _, _, _⟩) rfl (fun K hK => ?_) ?_
        rotate_left 1
        · exact AllReadyH.nil
        obtain ⟨_, _⟩ := H9.one
        have hg_ := grown_set v10 k9 0 (.slice A2 m2 c2)
        have hb_ := below_set v10 (w.heap.size + 3) k9 0 (.slice A2 m2 c2) lo9
        have hs_ := hb_.size
        replace O1 := kept_ne O1 hg_ n19
        replace O2 := kept_ne O2 hg_ n29
        replace H9 : Holds (v10.setCell ⟨k9, 0, none⟩ (.slice A2 m2 c2)) k9 #[(.slice A2 m2 c2)] 28 := Blk.set_own H9 0 (.slice A2 m2 c2)
        replace H8 := H8.far ⟨k9, 0, none⟩ (.slice A2 m2 c2) n89
        replace S0 := HO3 _ _ S0 hb_
        replace hmy := Nat.le_trans hmy hb_.size
        go_simp
        generalize v10.setCell ⟨k9, 0, none⟩ (.slice A2 m2 c2) = v11 at *
        clear hg_ hb_ hs_
        refine hK.out _ _ S0.1.1 (fun hHeld => ?_)
        clear hK K
        try simp only [Act.put, List.setIfInBounds_toArray, List.set_cons_zero, List.set_cons_succ]
        refine wpAnyH_done (by kernel_rfl) ?_ _
        obtain ⟨⟨_, _⟩, _⟩ := id S0
        obtain ⟨_, _⟩ := H8.one
        obtain ⟨_, _⟩ := H9.one
        go_wp2_with fail
        refine (RoomOkImpl.roomOk A1 m1 c1 _ p1 hm1.out hs1 (own_ptsC O1 hm1.out)).mono ?_
        rintro e x4 ⟨rfl, hb_⟩
        replace O1 := own_below O1 hb_
        replace O2 := own_below O2 hb_
        replace H8 := H8.later hb_
        replace H9 := H9.later hb_
        replace hmy := Nat.le_trans hmy hb_.size
        replace S0 := HO _ _ S0 hb_
        clear hb_
        obtain ⟨⟨_, _⟩, _⟩ := id S0
        obtain ⟨_, _⟩ := H8.one
        obtain ⟨_, _⟩ := H9.one
        cases q1 : roomB p1
        · obtain ⟨rfl, rfl, rfl⟩ := HN.out (by rw [HB.out, q1]; rfl)
          have hR := two_set S0.2.1 S0.2.2.1 (by omega) (.slice none 0 0) (.slice none 0 0)
          obtain ⟨_, _⟩ := S0.2.1.one
          obtain ⟨_, _⟩ := hR.1.one
          obtain ⟨r1_, _⟩ := hR.2.1.one
          obtain ⟨r2_, _⟩ := hR.2.2.one
          have hb4 := Lib.hid (S0.2.2.2.2.trans ((below_set x4 w.heap.size (w.heap.size + 1) 0 (.slice none 0 0) (by omega)).trans (below_set _ w.heap.size (w.heap.size + 1 + 1) 0 (.slice none 0 0) (by omega))))
          clear hR HN HY HB
          go_wp2_with fail
          refine bodyPost_ret (v := .tuple #[.agg #[.slice none 0 0], .agg #[.slice none 0 0], .bool false]) (by simp [results, Try.results10, go_sem, r1_, r2_]) rfl ⟨none, 0, none, 0, w.heap.size, rfl, Nat.le_refl _, hb4.out.size, World.ownsRow_nil _ _ _ _, (fun k h => by cases h), World.ownsRow_nil _ _ _ _, hb4.out⟩
        go_wp2_with fail
        refine (RoomOkImpl.roomOk A2 m2 c2 _ p2 hm2.out hs2 (own_ptsC O2 hm2.out)).mono ?_
        rintro e x5 ⟨rfl, hb_⟩
        replace O1 := own_below O1 hb_
        replace O2 := own_below O2 hb_
        replace H8 := H8.later hb_
        replace H9 := H9.later hb_
        replace hmy := Nat.le_trans hmy hb_.size
        replace S0 := HO _ _ S0 hb_
        clear hb_
        obtain ⟨⟨_, _⟩, _⟩ := id S0
        obtain ⟨_, _⟩ := H8.one
        obtain ⟨_, _⟩ := H9.one
        cases q2 : roomB p2
        · obtain ⟨rfl, rfl, rfl⟩ := HN.out (by rw [HB.out, q1, q2]; rfl)
          have hR := two_set S0.2.1 S0.2.2.1 (by omega) (.slice none 0 0) (.slice none 0 0)
          obtain ⟨_, _⟩ := S0.2.1.one
          obtain ⟨_, _⟩ := hR.1.one
          obtain ⟨r1_, _⟩ := hR.2.1.one
          obtain ⟨r2_, _⟩ := hR.2.2.one
          have hb4 := Lib.hid (S0.2.2.2.2.trans ((below_set x5 w.heap.size (w.heap.size + 1) 0 (.slice none 0 0) (by omega)).trans (below_set _ w.heap.size (w.heap.size + 1 + 1) 0 (.slice none 0 0) (by omega))))
          clear hR HN HY HB
          go_wp2_with fail
          refine bodyPost_ret (v := .tuple #[.agg #[.slice none 0 0], .agg #[.slice none 0 0], .bool false]) (by simp [results, Try.results10, go_sem, r1_, r2_]) rfl ⟨none, 0, none, 0, w.heap.size, rfl, Nat.le_refl _, hb4.out.size, World.ownsRow_nil _ _ _ _, (fun k h => by cases h), World.ownsRow_nil _ _ _ _, hb4.out⟩
        obtain ⟨rfl, rfl, rfl⟩ := HY.out (by rw [HB.out, q1, q2]; rfl)
        have hmx : mid ≤ x5.heap.size := hmy
        have hR := two_set S0.2.1 S0.2.2.1 (by omega) (.slice A1 m1 c1) (.slice A2 m2 c2)
        obtain ⟨_, _⟩ := S0.2.1.one
        obtain ⟨_, _⟩ := S0.2.2.1.one
        obtain ⟨_, _⟩ := hR.1.one
        obtain ⟨r1_, _⟩ := hR.2.1.one
        obtain ⟨r2_, _⟩ := hR.2.2.one
        obtain ⟨_, _⟩ := (H9.far ⟨w.heap.size + 1, 0, none⟩ (.slice A1 m1 c1) (fun e => by have e : k9 = w.heap.size + 1 := e; omega)).one
        have OF1 := Lib.hid (own_set (own_set O1 (w.heap.size + 1) 0 (.slice A1 m1 c1) (by omega)) (w.heap.size + 1 + 1) 0 (.slice A2 m2 c2) (by omega))
        have OF2 := Lib.hid (own_set (own_set O2 (w.heap.size + 1) 0 (.slice A1 m1 c1) (by omega)) (w.heap.size + 1 + 1) 0 (.slice A2 m2 c2) (by omega))
        have hb3 := ((below_set x5 w.heap.size (w.heap.size + 1) 0 (.slice A1 m1 c1) (by omega)).trans (below_set _ w.heap.size (w.heap.size + 1 + 1) 0 (.slice A2 m2 c2) (by omega)))
        have hb5 := Lib.hid ((S0.2.2.2.2.trans hb3).trans (⟨rfl, rfl, rfl, Nat.le_refl _, fun _ _ => rfl⟩ : Below w.heap.size ((x5.setCell ⟨w.heap.size + 1, 0, none⟩ (.slice A1 m1 c1)).setCell ⟨w.heap.size + 1 + 1, 0, none⟩ (.slice A2 m2 c2)) ((x5.setCell ⟨w.heap.size + 1, 0, none⟩ (.slice A1 m1 c1)).setCell ⟨w.heap.size + 1 + 1, 0, none⟩ (.slice A2 m2 c2)).drew))
        have hk5_ := Lib.hid (Nat.le_trans hmx hb3.size)
        have hm3 := hm1.out
        have hm4 := hm2.out
        subst hm3 hm4
        clear hR HN HY HB hb3
        go_wp2_with fail
        go_region
        go_wp2_with fail
        refine bodyPost_ret (v := .tuple #[.agg #[.slice A1 l1.length c1], .agg #[.slice A2 l2.length c2], .bool true]) (by simp [results, Try.results10, go_sem, r1_, r2_]) rfl ⟨A1, c1, A2, c2, mid, rfl, by omega, hk5_.out, own_base OF1.out (by omega), q12, OF2.out, hb5.out⟩
      refine AllReadyH.cons (o := ⟨some 10, _, _, _, _, _⟩) rfl (fun K hK => ?_) ?_
      · skip
        obtain ⟨k9, hk9⟩ : ∃ q, q = v8.heap.size := ⟨_, rfl⟩
        have lo9 : w.heap.size + 3 ≤ k9 := by rw [hk9]; exact S0.2.2.1.lt
        have n19 : ∀ g, (Value.slice A1 m1 c1).ownBlock = some g → g ≠ k9 := fun g hg => by have := (O1.lt g hg).2; omega
        have n89 : k8 ≠ k9 := by have := H8.lt; omega
        have H9 := Blk.Holds.box v8 #[.slice none 0 0] 28 hk9
        have hb_ := below1 v8 (Obj.cells #[.slice none 0 0] 28)
        replace O1 := own_below O1 hb_
        replace H8 := H8.later hb_
        replace S0 := HO _ _ S0 hb_
        clear hb_
        go_simp
        try rw [← hk9]
        generalize v8.alloc (Obj.cells #[.slice none 0 0] 28) = v9 at *
        clear hk9
        refine hK.out _ _ S0.1.1 (fun hHeld => ?_)
        clear hK K
        try simp only [Act.put, List.setIfInBounds_toArray, List.set_cons_zero, List.set_cons_succ]
        refine wpAnyH_ready (rs := [7]) (by kernel_rfl) (by simp) ?_
        refine AllReadyH.cons (o := ⟨some 25, _, _, _, _, _⟩) rfl (fun K hK => ?_) ?_
        rotate_left 1
        · exact AllReadyH.nil
        go_simp
        go_at_call 31
        refine (QQ.out _ (S0.2.2.2.1.wide S0.2.2.2.2.size)).mono ?_
        rintro e v7 ⟨A2, c2, rfl, O2, hb_⟩
        have hzc_ : w.heap.size + 3 ≤ v9.heap.size := S0.2.2.1.lt
        have n28 : ∀ g, (Value.slice A2 m2 c2).ownBlock = some g → g ≠ k8 := fun g hg => by have := (O2.lt g hg).1; have := H8.lt; omega
        have n29 : ∀ g, (Value.slice A2 m2 c2).ownBlock = some g → g ≠ k9 := fun g hg => by have := (O2.lt g hg).1; have := H9.lt; omega
        obtain ⟨mid, hmid⟩ : ∃ q, q = v9.heap.size := ⟨_, rfl⟩
        rw [← hmid] at O2
        have q12 : ∀ g, (Value.slice A1 m1 c1).ownBlock = some g → g < mid := fun g hg => by have := (O1.lt g hg).2; omega
        have lom : w.heap.size + 3 ≤ mid := by omega
        have hmy : mid ≤ v7.heap.size := by rw [hmid]; exact hb_.size
        clear hmid
        replace O1 := own_below O1 hb_
        replace H8 := H8.later hb_
        replace H9 := H9.later hb_
        replace S0 := HO _ _ S0 hb_
        clear hb_ hzc_
        refine hK.out _ _ S0.1.1 (fun hHeld => ?_)
        clear hK K
        try simp only [Act.put, List.setIfInBounds_toArray, List.set_cons_zero, List.set_cons_succ]
        refine wpAnyH_ready (rs := [10]) (by kernel_rfl) (by simp) ?_
        refine AllReadyH.cons (o := ⟨none, _, _, _, _, _⟩) rfl (fun K hK => ?_) ?_
        rotate_left 1
        · exact AllReadyH.nil
        obtain ⟨_, _⟩ := H8.one
        have hg_ := grown_set v7 k8 0 (.slice A1 m1 c1)
        have hb_ := below_set v7 (w.heap.size + 3) k8 0 (.slice A1 m1 c1) lo8
        have hs_ := hb_.size
        replace O1 := kept_ne O1 hg_ n18
        replace O2 := kept_ne O2 hg_ n28
        replace H8 : Holds (v7.setCell ⟨k8, 0, none⟩ (.slice A1 m1 c1)) k8 #[(.slice A1 m1 c1)] 28 := Blk.set_own H8 0 (.slice A1 m1 c1)
        replace H9 := H9.far ⟨k8, 0, none⟩ (.slice A1 m1 c1) (fun e => n89 e.symm)
        replace S0 := HO3 _ _ S0 hb_
        replace hmy := Nat.le_trans hmy hb_.size
        go_simp
        generalize v7.setCell ⟨k8, 0, none⟩ (.slice A1 m1 c1) = v10 at *
        clear hg_ hb_ hs_
        refine hK.out _ _ S0.1.1 (fun hHeld => ?_)
        clear hK K
        try simp only [Act.put, List.setIfInBounds_toArray, List.set_cons_zero, List.set_cons_succ]
        refine wpAnyH_ready (rs := [11]) (by kernel_rfl) (by simp) ?_
        refine AllReadyH.cons (o := ⟨none, _, _, _, _, _⟩) rfl (fun K hK => ?_) ?_
        rotate_left 1
        · exact AllReadyH.nil
        obtain ⟨_, _⟩ := H9.one
        have hg_ := grown_set v10 k9 0 (.slice A2 m2 c2)
        have hb_ := below_set v10 (w.heap.size + 3) k9 0 (.slice A2 m2 c2) lo9
        have hs_ := hb_.size
        replace O1 := kept_ne O1 hg_ n19
        replace O2 := kept_ne O2 hg_ n29
        replace H9 : Holds (v10.setCell ⟨k9, 0, none⟩ (.slice A2 m2 c2)) k9 #[(.slice A2 m2 c2)] 28 := Blk.set_own H9 0 (.slice A2 m2 c2)
        replace H8 := H8.far ⟨k9, 0, none⟩ (.slice A2 m2 c2) n89
        replace S0 := HO3 _ _ S0 hb_
        replace hmy := Nat.le_trans hmy hb_.size
        go_simp
        generalize v10.setCell ⟨k9, 0, none⟩ (.slice A2 m2 c2) = v11 at *
        clear hg_ hb_ hs_
        refine hK.out _ _ S0.1.1 (fun hHeld => ?_)
        clear hK K
        try simp only [Act.put, List.setIfInBounds_toArray, List.set_cons_zero, List.set_cons_succ]
        refine wpAnyH_done (by kernel_rfl) ?_ _
        obtain ⟨⟨_, _⟩, _⟩ := id S0
        obtain ⟨_, _⟩ := H8.one
        obtain ⟨_, _⟩ := H9.one
        go_wp2_with fail
        refine (RoomOkImpl.roomOk A1 m1 c1 _ p1 hm1.out hs1 (own_ptsC O1 hm1.out)).mono ?_
        rintro e x4 ⟨rfl, hb_⟩
        replace O1 := own_below O1 hb_
        replace O2 := own_below O2 hb_
        replace H8 := H8.later hb_
        replace H9 := H9.later hb_
        replace hmy := Nat.le_trans hmy hb_.size
        replace S0 := HO _ _ S0 hb_
        clear hb_
        obtain ⟨⟨_, _⟩, _⟩ := id S0
        obtain ⟨_, _⟩ := H8.one
        obtain ⟨_, _⟩ := H9.one
        cases q1 : roomB p1
        · obtain ⟨rfl, rfl, rfl⟩ := HN.out (by rw [HB.out, q1]; rfl)
          have hR := two_set S0.2.1 S0.2.2.1 (by omega) (.slice none 0 0) (.slice none 0 0)
          obtain ⟨_, _⟩ := S0.2.1.one
          obtain ⟨_, _⟩ := hR.1.one
          obtain ⟨r1_, _⟩ := hR.2.1.one
          obtain ⟨r2_, _⟩ := hR.2.2.one
          have hb4 := Lib.hid (S0.2.2.2.2.trans ((below_set x4 w.heap.size (w.heap.size + 1) 0 (.slice none 0 0) (by omega)).trans (below_set _ w.heap.size (w.heap.size + 1 + 1) 0 (.slice none 0 0) (by omega))))
          clear hR HN HY HB
          go_wp2_with fail
          refine bodyPost_ret (v := .tuple #[.agg #[.slice none 0 0], .agg #[.slice none 0 0], .bool false]) (by simp [results, Try.results10, go_sem, r1_, r2_]) rfl ⟨none, 0, none, 0, w.heap.size, rfl, Nat.le_refl _, hb4.out.size, World.ownsRow_nil _ _ _ _, (fun k h => by cases h), World.ownsRow_nil _ _ _ _, hb4.out⟩
        go_wp2_with fail
        refine (RoomOkImpl.roomOk A2 m2 c2 _ p2 hm2.out hs2 (own_ptsC O2 hm2.out)).mono ?_
        rintro e x5 ⟨rfl, hb_⟩
        replace O1 := own_below O1 hb_
        replace O2 := own_below O2 hb_
        replace H8 := H8.later hb_
        replace H9 := H9.later hb_
        replace hmy := Nat.le_trans hmy hb_.size
        replace S0 := HO _ _ S0 hb_
        clear hb_
        obtain ⟨⟨_, _⟩, _⟩ := id S0
        obtain ⟨_, _⟩ := H8.one
        obtain ⟨_, _⟩ := H9.one
        cases q2 : roomB p2
        · obtain ⟨rfl, rfl, rfl⟩ := HN.out (by rw [HB.out, q1, q2]; rfl)
          have hR := two_set S0.2.1 S0.2.2.1 (by omega) (.slice none 0 0) (.slice none 0 0)
          obtain ⟨_, _⟩ := S0.2.1.one
          obtain ⟨_, _⟩ := hR.1.one
          obtain ⟨r1_, _⟩ := hR.2.1.one
          obtain ⟨r2_, _⟩ := hR.2.2.one
          have hb4 := Lib.hid (S0.2.2.2.2.trans ((below_set x5 w.heap.size (w.heap.size + 1) 0 (.slice none 0 0) (by omega)).trans (below_set _ w.heap.size (w.heap.size + 1 + 1) 0 (.slice none 0 0) (by omega))))
          clear hR HN HY HB
          go_wp2_with fail
          refine bodyPost_ret (v := .tuple #[.agg #[.slice none 0 0], .agg #[.slice none 0 0], .bool false]) (by simp [results, Try.results10, go_sem, r1_, r2_]) rfl ⟨none, 0, none, 0, w.heap.size, rfl, Nat.le_refl _, hb4.out.size, World.ownsRow_nil _ _ _ _, (fun k h => by cases h), World.ownsRow_nil _ _ _ _, hb4.out⟩
        obtain ⟨rfl, rfl, rfl⟩ := HY.out (by rw [HB.out, q1, q2]; rfl)
        have hmx : mid ≤ x5.heap.size := hmy
        have hR := two_set S0.2.1 S0.2.2.1 (by omega) (.slice A1 m1 c1) (.slice A2 m2 c2)
        obtain ⟨_, _⟩ := S0.2.1.one
        obtain ⟨_, _⟩ := S0.2.2.1.one
        obtain ⟨_, _⟩ := hR.1.one
        obtain ⟨r1_, _⟩ := hR.2.1.one
        obtain ⟨r2_, _⟩ := hR.2.2.one
        obtain ⟨_, _⟩ := (H9.far ⟨w.heap.size + 1, 0, none⟩ (.slice A1 m1 c1) (fun e => by have e : k9 = w.heap.size + 1 := e; omega)).one
        have OF1 := Lib.hid (own_set (own_set O1 (w.heap.size + 1) 0 (.slice A1 m1 c1) (by omega)) (w.heap.size + 1 + 1) 0 (.slice A2 m2 c2) (by omega))
        have OF2 := Lib.hid (own_set (own_set O2 (w.heap.size + 1) 0 (.slice A1 m1 c1) (by omega)) (w.heap.size + 1 + 1) 0 (.slice A2 m2 c2) (by omega))
        have hb3 := ((below_set x5 w.heap.size (w.heap.size + 1) 0 (.slice A1 m1 c1) (by omega)).trans (below_set _ w.heap.size (w.heap.size + 1 + 1) 0 (.slice A2 m2 c2) (by omega)))
        have hb5 := Lib.hid ((S0.2.2.2.2.trans hb3).trans (⟨rfl, rfl, rfl, Nat.le_refl _, fun _ _ => rfl⟩ : Below w.heap.size ((x5.setCell ⟨w.heap.size + 1, 0, none⟩ (.slice A1 m1 c1)).setCell ⟨w.heap.size + 1 + 1, 0, none⟩ (.slice A2 m2 c2)) ((x5.setCell ⟨w.heap.size + 1, 0, none⟩ (.slice A1 m1 c1)).setCell ⟨w.heap.size + 1 + 1, 0, none⟩ (.slice A2 m2 c2)).drew))
        have hk5_ := Lib.hid (Nat.le_trans hmx hb3.size)
        have hm3 := hm1.out
        have hm4 := hm2.out
        subst hm3 hm4
        clear hR HN HY HB hb3
        go_wp2_with fail
        go_region
        go_wp2_with fail
        refine bodyPost_ret (v := .tuple #[.agg #[.slice A1 l1.length c1], .agg #[.slice A2 l2.length c2], .bool true]) (by simp [results, Try.results10, go_sem, r1_, r2_]) rfl ⟨A1, c1, A2, c2, mid, rfl, by omega, hk5_.out, own_base OF1.out (by omega), q12, OF2.out, hb5.out⟩
      exact AllReadyH.nil
    refine AllReadyH.cons (o := ⟨some 10, _, _, _, _, _⟩) rfl (fun K hK => ?_) ?_
    · skip
      obtain ⟨k9, hk9⟩ : ∃ q, q = v3.heap.size := ⟨_, rfl⟩
      have lo9 : w.heap.size + 3 ≤ k9 := by rw [hk9]; exact S0.2.2.1.lt
      have n19 : ∀ g, (Value.slice A1 m1 c1).ownBlock = some g → g ≠ k9 := fun g hg => by have := (O1.lt g hg).2; omega
      have H9 := Blk.Holds.box v3 #[.slice none 0 0] 28 hk9
      have hb_ := below1 v3 (Obj.cells #[.slice none 0 0] 28)
      replace O1 := own_below O1 hb_
      replace S0 := HO _ _ S0 hb_
      clear hb_
      go_simp
      try rw [← hk9]
      generalize v3.alloc (Obj.cells #[.slice none 0 0] 28) = v9 at *
      clear hk9
      refine hK.out _ _ S0.1.1 (fun hHeld => ?_)
      clear hK K
      try simp only [Act.put, List.setIfInBounds_toArray, List.set_cons_zero, List.set_cons_succ]
      refine wpAnyH_ready (rs := [7, 8]) (by kernel_rfl) (by simp) ?_
      refine AllReadyH.cons (o := ⟨some 25, _, _, _, _, _⟩) rfl (fun K hK => ?_) ?_
      · skip
        go_simp
        go_at_call 31
        refine (QQ.out _ (S0.2.2.2.1.wide S0.2.2.2.2.size)).mono ?_
        rintro e v7 ⟨A2, c2, rfl, O2, hb_⟩
        have hzc_ : w.heap.size + 3 ≤ v9.heap.size := S0.2.2.1.lt
        have n29 : ∀ g, (Value.slice A2 m2 c2).ownBlock = some g → g ≠ k9 := fun g hg => by have := (O2.lt g hg).1; have := H9.lt; omega
        obtain ⟨mid, hmid⟩ : ∃ q, q = v9.heap.size := ⟨_, rfl⟩
        rw [← hmid] at O2
        have q12 : ∀ g, (Value.slice A1 m1 c1).ownBlock = some g → g < mid := fun g hg => by have := (O1.lt g hg).2; omega
        have lom : w.heap.size + 3 ≤ mid := by omega
        have hmy : mid ≤ v7.heap.size := by rw [hmid]; exact hb_.size
        clear hmid
        replace O1 := own_below O1 hb_
        replace H9 := H9.later hb_
        replace S0 := HO _ _ S0 hb_
        clear hb_ hzc_
        refine hK.out _ _ S0.1.1 (fun hHeld => ?_)
        clear hK K
        try simp only [Act.put, List.setIfInBounds_toArray, List.set_cons_zero, List.set_cons_succ]
        refine wpAnyH_ready (rs := [8]) (by kernel_rfl) (by simp) ?_
        refine AllReadyH.cons (o := ⟨some 9, _, _, _, _, _⟩) rfl (fun K hK => ?_) ?_
        rotate_left 1
        · exact AllReadyH.nil
        obtain ⟨k8, hk8⟩ : ∃ q, q = v7.heap.size := ⟨_, rfl⟩
        have lo8 : w.heap.size + 3 ≤ k8 := by rw [hk8]; exact S0.2.2.1.lt
        have n18 : ∀ g, (Value.slice A1 m1 c1).ownBlock = some g → g ≠ k8 := fun g hg => by have := (O1.lt g hg).2; omega
        have n28 : ∀ g, (Value.slice A2 m2 c2).ownBlock = some g → g ≠ k8 := fun g hg => by have := (O2.lt g hg).2; omega
        have n89 : k8 ≠ k9 := by have := H9.lt; omega
        have H8 := Blk.Holds.box v7 #[.slice none 0 0] 28 hk8
        have hb_ := below1 v7 (Obj.cells #[.slice none 0 0] 28)
        replace O1 := own_below O1 hb_
        replace O2 := own_below O2 hb_
        replace H9 := H9.later hb_
        replace hmy := Nat.le_trans hmy hb_.size
        replace S0 := HO _ _ S0 hb_
        clear hb_
        go_simp
        try rw [← hk8]
        generalize v7.alloc (Obj.cells #[.slice none 0 0] 28) = v8 at *
        clear hk8
        refine hK.out _ _ S0.1.1 (fun hHeld => ?_)
        clear hK K
        try simp only [Act.put, List.setIfInBounds_toArray, List.set_cons_zero, List.set_cons_succ]
        refine wpAnyH_ready (rs := [10]) (by kernel_rfl) (by simp) ?_
        refine AllReadyH.cons (o := ⟨none, _, _, _, _, _⟩) rfl (fun K hK => ?_) ?_
        rotate_left 1
        · exact AllReadyH.nil
        obtain ⟨_, _⟩ := H8.one
        have hg_ := grown_set v8 k8 0 (.slice A1 m1 c1)
        have hb_ := below_set v8 (w.heap.size + 3) k8 0 (.slice A1 m1 c1) lo8
        have hs_ := hb_.size
        replace O1 := kept_ne O1 hg_ n18
        replace O2 := kept_ne O2 hg_ n28
        replace H8 : Holds (v8.setCell ⟨k8, 0, none⟩ (.slice A1 m1 c1)) k8 #[(.slice A1 m1 c1)] 28 := Blk.set_own H8 0 (.slice A1 m1 c1)
        replace H9 := H9.far ⟨k8, 0, none⟩ (.slice A1 m1 c1) (fun e => n89 e.symm)
        replace S0 := HO3 _ _ S0 hb_
        replace hmy := Nat.le_trans hmy hb_.size
        go_simp
        generalize v8.setCell ⟨k8, 0, none⟩ (.slice A1 m1 c1) = v10 at *
        clear hg_ hb_ hs_
        refine hK.out _ _ S0.1.1 (fun hHeld => ?_)
        clear hK K
        try simp only [Act.put, List.setIfInBounds_toArray, List.set_cons_zero, List.set_cons_succ]
        refine wpAnyH_ready (rs := [11]) (by kernel_rfl) (by simp) ?_
        refine AllReadyH.cons (o := ⟨none, _, _, _, _, _⟩) rfl (fun K hK => ?_) ?_
        rotate_left 1
        · exact AllReadyH.nil
        obtain ⟨_, _⟩ := H9.one
        have hg_ := grown_set v10 k9 0 (.slice A2 m2 c2)
        have hb_ := below_set v10 (w.heap.size + 3) k9 0 (.slice A2 m2 c2) lo9
        have hs_ := hb_.size
        replace O1 := kept_ne O1 hg_ n19
        replace O2 := kept_ne O2 hg_ n29
        replace H9 : Holds (v10.setCell ⟨k9, 0, none⟩ (.slice A2 m2 c2)) k9 #[(.slice A2 m2 c2)] 28 := Blk.set_own H9 0 (.slice A2 m2 c2)
        replace H8 := H8.far ⟨k9, 0, none⟩ (.slice A2 m2 c2) n89
        replace S0 := HO3 _ _ S0 hb_
        replace hmy := Nat.le_trans hmy hb_.size
        go_simp
        generalize v10.setCell ⟨k9, 0, none⟩ (.slice A2 m2 c2) = v11 at *
        clear hg_ hb_ hs_
        refine hK.out _ _ S0.1.1 (fun hHeld => ?_)
        clear hK K
        try simp only [Act.put, List.setIfInBounds_toArray, List.set_cons_zero, List.set_cons_succ]
        refine wpAnyH_done (by kernel_rfl) ?_ _
        obtain ⟨⟨_, _⟩, _⟩ := id S0
        obtain ⟨_, _⟩ := H8.one
        obtain ⟨_, _⟩ := H9.one
        go_wp2_with fail
        refine (RoomOkImpl.roomOk A1 m1 c1 _ p1 hm1.out hs1 (own_ptsC O1 hm1.out)).mono ?_
        rintro e x4 ⟨rfl, hb_⟩
        replace O1 := own_below O1 hb_
        replace O2 := own_below O2 hb_
        replace H8 := H8.later hb_
        replace H9 := H9.later hb_
        replace hmy := Nat.le_trans hmy hb_.size
        replace S0 := HO _ _ S0 hb_
        clear hb_
        obtain ⟨⟨_, _⟩, _⟩ := id S0
        obtain ⟨_, _⟩ := H8.one
        obtain ⟨_, _⟩ := H9.one
        cases q1 : roomB p1
        · obtain ⟨rfl, rfl, rfl⟩ := HN.out (by rw [HB.out, q1]; rfl)
          have hR := two_set S0.2.1 S0.2.2.1 (by omega) (.slice none 0 0) (.slice none 0 0)
          obtain ⟨_, _⟩ := S0.2.1.one
          obtain ⟨_, _⟩ := hR.1.one
          obtain ⟨r1_, _⟩ := hR.2.1.one
          obtain ⟨r2_, _⟩ := hR.2.2.one
          have hb4 := Lib.hid (S0.2.2.2.2.trans ((below_set x4 w.heap.size (w.heap.size + 1) 0 (.slice none 0 0) (by omega)).trans (below_set _ w.heap.size (w.heap.size + 1 + 1) 0 (.slice none 0 0) (by omega))))
          clear hR HN HY HB
          go_wp2_with fail
          refine bodyPost_ret (v := .tuple #[.agg #[.slice none 0 0], .agg #[.slice none 0 0], .bool false]) (by simp [results, Try.results10, go_sem, r1_, r2_]) rfl ⟨none, 0, none, 0, w.heap.size, rfl, Nat.le_refl _, hb4.out.size, World.ownsRow_nil _ _ _ _, (fun k h => by cases h), World.ownsRow_nil _ _ _ _, hb4.out⟩
        go_wp2_with fail
        refine (RoomOkImpl.roomOk A2 m2 c2 _ p2 hm2.out hs2 (own_ptsC O2 hm2.out)).mono ?_
        rintro e x5 ⟨rfl, hb_⟩
        replace O1 := own_below O1 hb_
        replace O2 := own_below O2 hb_
        replace H8 := H8.later hb_
        replace H9 := H9.later hb_
        replace hmy := Nat.le_trans hmy hb_.size
        replace S0 := HO _ _ S0 hb_
        clear hb_
        obtain ⟨⟨_, _⟩, _⟩ := id S0
        obtain ⟨_, _⟩ := H8.one
        obtain ⟨_, _⟩ := H9.one
        cases q2 : roomB p2
        · obtain ⟨rfl, rfl, rfl⟩ := HN.out (by rw [HB.out, q1, q2]; rfl)
          have hR := two_set S0.2.1 S0.2.2.1 (by omega) (.slice none 0 0) (.slice none 0 0)
          obtain ⟨_, _⟩ := S0.2.1.one
          obtain ⟨_, _⟩ := hR.1.one
          obtain ⟨r1_, _⟩ := hR.2.1.one
          obtain ⟨r2_, _⟩ := hR.2.2.one
          have hb4 := Lib.hid (S0.2.2.2.2.trans ((below_set x5 w.heap.size (w.heap.size + 1) 0 (.slice none 0 0) (by omega)).trans (below_set _ w.heap.size (w.heap.size + 1 + 1) 0 (.slice none 0 0) (by omega))))
          clear hR HN HY HB
          go_wp2_with fail
          refine bodyPost_ret (v := .tuple #[.agg #[.slice none 0 0], .agg #[.slice none 0 0], .bool false]) (by simp [results, Try.results10, go_sem, r1_, r2_]) rfl ⟨none, 0, none, 0, w.heap.size, rfl, Nat.le_refl _, hb4.out.size, World.ownsRow_nil _ _ _ _, (fun k h => by cases h), World.ownsRow_nil _ _ _ _, hb4.out⟩
        obtain ⟨rfl, rfl, rfl⟩ := HY.out (by rw [HB.out, q1, q2]; rfl)
        have hmx : mid ≤ x5.heap.size := hmy
        have hR := two_set S0.2.1 S0.2.2.1 (by omega) (.slice A1 m1 c1) (.slice A2 m2 c2)
        obtain ⟨_, _⟩ := S0.2.1.one
        obtain ⟨_, _⟩ := S0.2.2.1.one
        obtain ⟨_, _⟩ := hR.1.one
        obtain ⟨r1_, _⟩ := hR.2.1.one
        obtain ⟨r2_, _⟩ := hR.2.2.one
        obtain ⟨_, _⟩ := (H9.far ⟨w.heap.size + 1, 0, none⟩ (.slice A1 m1 c1) (fun e => by have e : k9 = w.heap.size + 1 := e; omega)).one
        have OF1 := Lib.hid (own_set (own_set O1 (w.heap.size + 1) 0 (.slice A1 m1 c1) (by omega)) (w.heap.size + 1 + 1) 0 (.slice A2 m2 c2) (by omega))
        have OF2 := Lib.hid (own_set (own_set O2 (w.heap.size + 1) 0 (.slice A1 m1 c1) (by omega)) (w.heap.size + 1 + 1) 0 (.slice A2 m2 c2) (by omega))
        have hb3 := ((below_set x5 w.heap.size (w.heap.size + 1) 0 (.slice A1 m1 c1) (by omega)).trans (below_set _ w.heap.size (w.heap.size + 1 + 1) 0 (.slice A2 m2 c2) (by omega)))
        have hb5 := Lib.hid ((S0.2.2.2.2.trans hb3).trans (⟨rfl, rfl, rfl, Nat.le_refl _, fun _ _ => rfl⟩ : Below w.heap.size ((x5.setCell ⟨w.heap.size + 1, 0, none⟩ (.slice A1 m1 c1)).setCell ⟨w.heap.size + 1 + 1, 0, none⟩ (.slice A2 m2 c2)) ((x5.setCell ⟨w.heap.size + 1, 0, none⟩ (.slice A1 m1 c1)).setCell ⟨w.heap.size + 1 + 1, 0, none⟩ (.slice A2 m2 c2)).drew))
        have hk5_ := Lib.hid (Nat.le_trans hmx hb3.size)
        have hm3 := hm1.out
        have hm4 := hm2.out
        subst hm3 hm4
        clear hR HN HY HB hb3
        go_wp2_with fail
        go_region
        go_wp2_with fail
        refine bodyPost_ret (v := .tuple #[.agg #[.slice A1 l1.length c1], .agg #[.slice A2 l2.length c2], .bool true]) (by simp [results, Try.results10, go_sem, r1_, r2_]) rfl ⟨A1, c1, A2, c2, mid, rfl, by omega, hk5_.out, own_base OF1.out (by omega), q12, OF2.out, hb5.out⟩
      refine AllReadyH.cons (o := ⟨some 9, _, _, _, _, _⟩) rfl (fun K hK => ?_) ?_
      · skip
        obtain ⟨k8, hk8⟩ : ∃ q, q = v9.heap.size := ⟨_, rfl⟩
        have lo8 : w.heap.size + 3 ≤ k8 := by rw [hk8]; exact S0.2.2.1.lt
        have n18 : ∀ g, (Value.slice A1 m1 c1).ownBlock = some g → g ≠ k8 := fun g hg => by have := (O1.lt g hg).2; omega
        have n89 : k8 ≠ k9 := by have := H9.lt; omega
        have H8 := Blk.Holds.box v9 #[.slice none 0 0] 28 hk8
        have hb_ := below1 v9 (Obj.cells #[.slice none 0 0] 28)
        replace O1 := own_below O1 hb_
        replace H9 := H9.later hb_
        replace S0 := HO _ _ S0 hb_
        clear hb_
        go_simp
        try rw [← hk8]
        generalize v9.alloc (Obj.cells #[.slice none 0 0] 28) = v8 at *
        clear hk8
        refine hK.out _ _ S0.1.1 (fun hHeld => ?_)
        clear hK K
        try simp only [Act.put, List.setIfInBounds_toArray, List.set_cons_zero, List.set_cons_succ]
        refine wpAnyH_ready (rs := [7]) (by kernel_rfl) (by simp) ?_
        refine AllReadyH.cons (o := ⟨some 25, _, _, _, _, _⟩) rfl (fun K hK => ?_) ?_
        rotate_left 1
        · exact AllReadyH.nil
        go_simp
        go_at_call 31
        refine (QQ.out _ (S0.2.2.2.1.wide S0.2.2.2.2.size)).mono ?_
        rintro e v7 ⟨A2, c2, rfl, O2, hb_⟩
        have hzc_ : w.heap.size + 3 ≤ v8.heap.size := S0.2.2.1.lt
        have n28 : ∀ g, (Value.slice A2 m2 c2).ownBlock = some g → g ≠ k8 := fun g hg => by have := (O2.lt g hg).1; have := H8.lt; omega
        have n29 : ∀ g, (Value.slice A2 m2 c2).ownBlock = some g → g ≠ k9 := fun g hg => by have := (O2.lt g hg).1; have := H9.lt; omega
        obtain ⟨mid, hmid⟩ : ∃ q, q = v8.heap.size := ⟨_, rfl⟩
        rw [← hmid] at O2
        have q12 : ∀ g, (Value.slice A1 m1 c1).ownBlock = some g → g < mid := fun g hg => by have := (O1.lt g hg).2; omega
        have lom : w.heap.size + 3 ≤ mid := by omega
        have hmy : mid ≤ v7.heap.size := by rw [hmid]; exact hb_.size
        clear hmid
        replace O1 := own_below O1 hb_
        replace H8 := H8.later hb_
        replace H9 := H9.later hb_
        replace S0 := HO _ _ S0 hb_
        clear hb_ hzc_
        refine hK.out _ _ S0.1.1 (fun hHeld => ?_)
        clear hK K
        try simp only [Act.put, List.setIfInBounds_toArray, List.set_cons_zero, List.set_cons_succ]
        refine wpAnyH_ready (rs := [10]) (by kernel_rfl) (by simp) ?_
        refine AllReadyH.cons (o := ⟨none, _, _, _, _, _⟩) rfl (fun K hK => ?_) ?_
        rotate_left 1
        · exact AllReadyH.nil
        obtain ⟨_, _⟩ := H8.one
        have hg_ := grown_set v7 k8 0 (.slice A1 m1 c1)
        have hb_ := below_set v7 (w.heap.size + 3) k8 0 (.slice A1 m1 c1) lo8
        have hs_ := hb_.size
        replace O1 := kept_ne O1 hg_ n18
        replace O2 := kept_ne O2 hg_ n28
        replace H8 : Holds (v7.setCell ⟨k8, 0, none⟩ (.slice A1 m1 c1)) k8 #[(.slice A1 m1 c1)] 28 := Blk.set_own H8 0 (.slice A1 m1 c1)
        replace H9 := H9.far ⟨k8, 0, none⟩ (.slice A1 m1 c1) (fun e => n89 e.symm)
        replace S0 := HO3 _ _ S0 hb_
        replace hmy := Nat.le_trans hmy hb_.size
        go_simp
        generalize v7.setCell ⟨k8, 0, none⟩ (.slice A1 m1 c1) = v10 at *
        clear hg_ hb_ hs_
        refine hK.out _ _ S0.1.1 (fun hHeld => ?_)
        clear hK K
        try simp only [Act.put, List.setIfInBounds_toArray, List.set_cons_zero, List.set_cons_succ]
        refine wpAnyH_ready (rs := [11]) (by kernel_rfl) (by simp) ?_
        refine AllReadyH.cons (o := ⟨none, _, _, _, _, _⟩) rfl (fun K hK => ?_) ?_
        rotate_left 1
        · exact AllReadyH.nil
        obtain ⟨_, _⟩ := H9.one
        have hg_ := grown_set v10 k9 0 (.slice A2 m2 c2)
        have hb_ := below_set v10 (w.heap.size + 3) k9 0 (.slice A2 m2 c2) lo9
        have hs_ := hb_.size
        replace O1 := kept_ne O1 hg_ n19
        replace O2 := kept_ne O2 hg_ n29
        replace H9 : Holds (v10.setCell ⟨k9, 0, none⟩ (.slice A2 m2 c2)) k9 #[(.slice A2 m2 c2)] 28 := Blk.set_own H9 0 (.slice A2 m2 c2)
        replace H8 := H8.far ⟨k9, 0, none⟩ (.slice A2 m2 c2) n89
        replace S0 := HO3 _ _ S0 hb_
        replace hmy := Nat.le_trans hmy hb_.size
        go_simp
        generalize v10.setCell ⟨k9, 0, none⟩ (.slice A2 m2 c2) = v11 at *
        clear hg_ hb_ hs_
        refine hK.out _ _ S0.1.1 (fun hHeld => ?_)
        clear hK K
        try simp only [Act.put, List.setIfInBounds_toArray, List.set_cons_zero, List.set_cons_succ]
        refine wpAnyH_done (by kernel_rfl) ?_ _
        obtain ⟨⟨_, _⟩, _⟩ := id S0
        obtain ⟨_, _⟩ := H8.one
        obtain ⟨_, _⟩ := H9.one
        go_wp2_with fail
        refine (RoomOkImpl.roomOk A1 m1 c1 _ p1 hm1.out hs1 (own_ptsC O1 hm1.out)).mono ?_
        rintro e x4 ⟨rfl, hb_⟩
        replace O1 := own_below O1 hb_
        replace O2 := own_below O2 hb_
        replace H8 := H8.later hb_
        replace H9 := H9.later hb_
        replace hmy := Nat.le_trans hmy hb_.size
        replace S0 := HO _ _ S0 hb_
        clear hb_
        obtain ⟨⟨_, _⟩, _⟩ := id S0
        obtain ⟨_, _⟩ := H8.one
        obtain ⟨_, _⟩ := H9.one
        cases q1 : roomB p1
        · obtain ⟨rfl, rfl, rfl⟩ := HN.out (by rw [HB.out, q1]; rfl)
          have hR := two_set S0.2.1 S0.2.2.1 (by omega) (.slice none 0 0) (.slice none 0 0)
          obtain ⟨_, _⟩ := S0.2.1.one
          obtain ⟨_, _⟩ := hR.1.one
          obtain ⟨r1_, _⟩ := hR.2.1.one
          obtain ⟨r2_, _⟩ := hR.2.2.one
          have hb4 := Lib.hid (S0.2.2.2.2.trans ((below_set x4 w.heap.size (w.heap.size + 1) 0 (.slice none 0 0) (by omega)).trans (below_set _ w.heap.size (w.heap.size + 1 + 1) 0 (.slice none 0 0) (by omega))))
          clear hR HN HY HB
          go_wp2_with fail
          refine bodyPost_ret (v := .tuple #[.agg #[.slice none 0 0], .agg #[.slice none 0 0], .bool false]) (by simp [results, Try.results10, go_sem, r1_, r2_]) rfl ⟨none, 0, none, 0, w.heap.size, rfl, Nat.le_refl _, hb4.out.size, World.ownsRow_nil _ _ _ _, (fun k h => by cases h), World.ownsRow_nil _ _ _ _, hb4.out⟩
        go_wp2_with fail
        refine (RoomOkImpl.roomOk A2 m2 c2 _ p2 hm2.out hs2 (own_ptsC O2 hm2.out)).mono ?_
        rintro e x5 ⟨rfl, hb_⟩
        replace O1 := own_below O1 hb_
        replace O2 := own_below O2 hb_
        replace H8 := H8.later hb_
        replace H9 := H9.later hb_
        replace hmy := Nat.le_trans hmy hb_.size
        replace S0 := HO _ _ S0 hb_
        clear hb_
        obtain ⟨⟨_, _⟩, _⟩ := id S0
        obtain ⟨_, _⟩ := H8.one
        obtain ⟨_, _⟩ := H9.one
        cases q2 : roomB p2
        · obtain ⟨rfl, rfl, rfl⟩ := HN.out (by rw [HB.out, q1, q2]; rfl)
          have hR := two_set S0.2.1 S0.2.2.1 (by omega) (.slice none 0 0) (.slice none 0 0)
          obtain ⟨_, _⟩ := S0.2.1.one
          obtain ⟨_, _⟩ := hR.1.one
          obtain ⟨r1_, _⟩ := hR.2.1.one
          obtain ⟨r2_, _⟩ := hR.2.2.one
          have hb4 := Lib.hid (S0.2.2.2.2.trans ((below_set x5 w.heap.size (w.heap.size + 1) 0 (.slice none 0 0) (by omega)).trans (below_set _ w.heap.size (w.heap.size + 1 + 1) 0 (.slice none 0 0) (by omega))))
          clear hR HN HY HB
          go_wp2_with fail
          refine bodyPost_ret (v := .tuple #[.agg #[.slice none 0 0], .agg #[.slice none 0 0], .bool false]) (by simp [results, Try.results10, go_sem, r1_, r2_]) rfl ⟨none, 0, none, 0, w.heap.size, rfl, Nat.le_refl _, hb4.out.size, World.ownsRow_nil _ _ _ _, (fun k h => by cases h), World.ownsRow_nil _ _ _ _, hb4.out⟩
        obtain ⟨rfl, rfl, rfl⟩ := HY.out (by rw [HB.out, q1, q2]; rfl)
        have hmx : mid ≤ x5.heap.size := hmy
        have hR := two_set S0.2.1 S0.2.2.1 (by omega) (.slice A1 m1 c1) (.slice A2 m2 c2)
        obtain ⟨_, _⟩ := S0.2.1.one
        obtain ⟨_, _⟩ := S0.2.2.1.one
        obtain ⟨_, _⟩ := hR.1.one
        obtain ⟨r1_, _⟩ := hR.2.1.one
        obtain ⟨r2_, _⟩ := hR.2.2.one
        obtain ⟨_, _⟩ := (H9.far ⟨w.heap.size + 1, 0, none⟩ (.slice A1 m1 c1) (fun e => by have e : k9 = w.heap.size + 1 := e; omega)).one
        have OF1 := Lib.hid (own_set (own_set O1 (w.heap.size + 1) 0 (.slice A1 m1 c1) (by omega)) (w.heap.size + 1 + 1) 0 (.slice A2 m2 c2) (by omega))
        have OF2 := Lib.hid (own_set (own_set O2 (w.heap.size + 1) 0 (.slice A1 m1 c1) (by omega)) (w.heap.size + 1 + 1) 0 (.slice A2 m2 c2) (by omega))
        have hb3 := ((below_set x5 w.heap.size (w.heap.size + 1) 0 (.slice A1 m1 c1) (by omega)).trans (below_set _ w.heap.size (w.heap.size + 1 + 1) 0 (.slice A2 m2 c2) (by omega)))
        have hb5 := Lib.hid ((S0.2.2.2.2.trans hb3).trans (⟨rfl, rfl, rfl, Nat.le_refl _, fun _ _ => rfl⟩ : Below w.heap.size ((x5.setCell ⟨w.heap.size + 1, 0, none⟩ (.slice A1 m1 c1)).setCell ⟨w.heap.size + 1 + 1, 0, none⟩ (.slice A2 m2 c2)) ((x5.setCell ⟨w.heap.size + 1, 0, none⟩ (.slice A1 m1 c1)).setCell ⟨w.heap.size + 1 + 1, 0, none⟩ (.slice A2 m2 c2)).drew))
        have hk5_ := Lib.hid (Nat.le_trans hmx hb3.size)
        have hm3 := hm1.out
        have hm4 := hm2.out
        subst hm3 hm4
        clear hR HN HY HB hb3
        go_wp2_with fail
        go_region
        go_wp2_with fail
        refine bodyPost_ret (v := .tuple #[.agg #[.slice A1 l1.length c1], .agg #[.slice A2 l2.length c2], .bool true]) (by simp [results, Try.results10, go_sem, r1_, r2_]) rfl ⟨A1, c1, A2, c2, mid, rfl, by omega, hk5_.out, own_base OF1.out (by omega), q12, OF2.out, hb5.out⟩
      exact AllReadyH.nil
    exact AllReadyH.nil
  refine AllReadyH.cons (o := ⟨some 9, _, _, _, _, _⟩) rfl (fun K hK => ?_) ?_
  · skip
    obtain ⟨k8, hk8⟩ : ∃ q, q = v0.heap.size := ⟨_, rfl⟩
    have lo8 : w.heap.size + 3 ≤ k8 := by rw [hk8]; exact S0.2.2.1.lt
    have H8 := Blk.Holds.box v0 #[.slice none 0 0] 28 hk8
    have hb_ := below1 v0 (Obj.cells #[.slice none 0 0] 28)
    replace S0 := HO _ _ S0 hb_
    clear hb_
    go_simp
    try rw [← hk8]
    generalize v0.alloc (Obj.cells #[.slice none 0 0] 28) = v8 at *
    clear hk8
    refine hK.out _ _ S0.1.1 (fun hHeld => ?_)
    clear hK K
    try simp only [Act.put, List.setIfInBounds_toArray, List.set_cons_zero, List.set_cons_succ]
    refine wpAnyH_ready (rs := [3, 9]) (by kernel_rfl) (by simp) ?_
    refine AllReadyH.cons (o := ⟨some 21, _, _, _, _, _⟩) rfl (fun K hK => ?_) ?_
    · skip
      go_simp
      go_at_call 31
      refine (QP.out _ (S0.2.2.2.1.wide S0.2.2.2.2.size)).mono ?_
      rintro e v3 ⟨A1, c1, rfl, O1, hb_⟩
      have hzc_ : w.heap.size + 3 ≤ v8.heap.size := S0.2.2.1.lt
      have n18 : ∀ g, (Value.slice A1 m1 c1).ownBlock = some g → g ≠ k8 := fun g hg => by have := (O1.lt g hg).1; have := H8.lt; omega
      replace O1 := own_base O1 (b' := w.heap.size + 3) hzc_
      replace H8 := H8.later hb_
      replace S0 := HO _ _ S0 hb_
      clear hb_ hzc_
      refine hK.out _ _ S0.1.1 (fun hHeld => ?_)
      clear hK K
      try simp only [Act.put, List.setIfInBounds_toArray, List.set_cons_zero, List.set_cons_succ]
      refine wpAnyH_ready (rs := [7, 9]) (by kernel_rfl) (by simp) ?_
      refine AllReadyH.cons (o := ⟨some 25, _, _, _, _, _⟩) rfl (fun K hK => ?_) ?_
      · skip
        go_simp
        go_at_call 31
        refine (QQ.out _ (S0.2.2.2.1.wide S0.2.2.2.2.size)).mono ?_
        rintro e v7 ⟨A2, c2, rfl, O2, hb_⟩
        have hzc_ : w.heap.size + 3 ≤ v3.heap.size := S0.2.2.1.lt
        have n28 : ∀ g, (Value.slice A2 m2 c2).ownBlock = some g → g ≠ k8 := fun g hg => by have := (O2.lt g hg).1; have := H8.lt; omega
        obtain ⟨mid, hmid⟩ : ∃ q, q = v3.heap.size := ⟨_, rfl⟩
        rw [← hmid] at O2
        have q12 : ∀ g, (Value.slice A1 m1 c1).ownBlock = some g → g < mid := fun g hg => by have := (O1.lt g hg).2; omega
        have lom : w.heap.size + 3 ≤ mid := by omega
        have hmy : mid ≤ v7.heap.size := by rw [hmid]; exact hb_.size
        clear hmid
        replace O1 := own_below O1 hb_
        replace H8 := H8.later hb_
        replace S0 := HO _ _ S0 hb_
        clear hb_ hzc_
        refine hK.out _ _ S0.1.1 (fun hHeld => ?_)
        clear hK K
        try simp only [Act.put, List.setIfInBounds_toArray, List.set_cons_zero, List.set_cons_succ]
        refine wpAnyH_ready (rs := [9]) (by kernel_rfl) (by simp) ?_
        refine AllReadyH.cons (o := ⟨some 10, _, _, _, _, _⟩) rfl (fun K hK => ?_) ?_
        rotate_left 1
        · exact AllReadyH.nil
        obtain ⟨k9, hk9⟩ : ∃ q, q = v7.heap.size := ⟨_, rfl⟩
        have lo9 : w.heap.size + 3 ≤ k9 := by rw [hk9]; exact S0.2.2.1.lt
        have n19 : ∀ g, (Value.slice A1 m1 c1).ownBlock = some g → g ≠ k9 := fun g hg => by have := (O1.lt g hg).2; omega
        have n29 : ∀ g, (Value.slice A2 m2 c2).ownBlock = some g → g ≠ k9 := fun g hg => by have := (O2.lt g hg).2; omega
        have n89 : k8 ≠ k9 := by have := H8.lt; omega
        have H9 := Blk.Holds.box v7 #[.slice none 0 0] 28 hk9
        have hb_ := below1 v7 (Obj.cells #[.slice none 0 0] 28)
        replace O1 := own_below O1 hb_
        replace O2 := own_below O2 hb_
        replace H8 := H8.later hb_
        replace hmy := Nat.le_trans hmy hb_.size
        replace S0 := HO _ _ S0 hb_
        clear hb_
        go_simp
        try rw [← hk9]
        generalize v7.alloc (Obj.cells #[.slice none 0 0] 28) = v9 at *
        clear hk9
        refine hK.out _ _ S0.1.1 (fun hHeld => ?_)
        clear hK K
        try simp only [Act.put, List.setIfInBounds_toArray, List.set_cons_zero, List.set_cons_succ]
        refine wpAnyH_ready (rs := [10]) (by kernel_rfl) (by simp) ?_
        refine AllReadyH.cons (o := ⟨none, _, _, _, _, _⟩) rfl (fun K hK => ?_) ?_
        rotate_left 1
        · exact AllReadyH.nil
        obtain ⟨_, _⟩ := H8.one
        have hg_ := grown_set v9 k8 0 (.slice A1 m1 c1)
        have hb_ := below_set v9 (w.heap.size + 3) k8 0 (.slice A1 m1 c1) lo8
        have hs_ := hb_.size
        replace O1 := kept_ne O1 hg_ n18
        replace O2 := kept_ne O2 hg_ n28
        replace H8 : Holds (v9.setCell ⟨k8, 0, none⟩ (.slice A1 m1 c1)) k8 #[(.slice A1 m1 c1)] 28 := Blk.set_own H8 0 (.slice A1 m1 c1)
        replace H9 := H9.far ⟨k8, 0, none⟩ (.slice A1 m1 c1) (fun e => n89 e.symm)
        replace S0 := HO3 _ _ S0 hb_
        replace hmy := Nat.le_trans hmy hb_.size
        go_simp
        generalize v9.setCell ⟨k8, 0, none⟩ (.slice A1 m1 c1) = v10 at *
        clear hg_ hb_ hs_
        refine hK.out _ _ S0.1.1 (fun hHeld => ?_)
        clear hK K
        try simp only [Act.put, List.setIfInBounds_toArray, List.set_cons_zero, List.set_cons_succ]
        refine wpAnyH_ready (rs := [11]) (by kernel_rfl) (by simp) ?_
        refine AllReadyH.cons (o := ⟨none, _, _, _, _, _⟩) rfl (fun K hK => ?_) ?_
        rotate_left 1
        · exact AllReadyH.nil
        obtain ⟨_, _⟩ := H9.one
        have hg_ := grown_set v10 k9 0 (.slice A2 m2 c2)
        have hb_ := below_set v10 (w.heap.size + 3) k9 0 (.slice A2 m2 c2) lo9
        have hs_ := hb_.size
        replace O1 := kept_ne O1 hg_ n19
        replace O2 := kept_ne O2 hg_ n29
        replace H9 : Holds (v10.setCell ⟨k9, 0, none⟩ (.slice A2 m2 c2)) k9 #[(.slice A2 m2 c2)] 28 := Blk.set_own H9 0 (.slice A2 m2 c2)
        replace H8 := H8.far ⟨k9, 0, none⟩ (.slice A2 m2 c2) n89
        replace S0 := HO3 _ _ S0 hb_
        replace hmy := Nat.le_trans hmy hb_.size
        go_simp
        generalize v10.setCell ⟨k9, 0, none⟩ (.slice A2 m2 c2) = v11 at *
        clear hg_ hb_ hs_
        refine hK.out _ _ S0.1.1 (fun hHeld => ?_)
        clear hK K
        try simp only [Act.put, List.setIfInBounds_toArray, List.set_cons_zero, List.set_cons_succ]
        refine wpAnyH_done (by kernel_rfl) ?_ _
        obtain ⟨⟨_, _⟩, _⟩ := id S0
        obtain ⟨_, _⟩ := H8.one
        obtain ⟨_, _⟩ := H9.one
        go_wp2_with fail
        refine (RoomOkImpl.roomOk A1 m1 c1 _ p1 hm1.out hs1 (own_ptsC O1 hm1.out)).mono ?_
        rintro e x4 ⟨rfl, hb_⟩
        replace O1 := own_below O1 hb_
        replace O2 := own_below O2 hb_
        replace H8 := H8.later hb_
        replace H9 := H9.later hb_
        replace hmy := Nat.le_trans hmy hb_.size
        replace S0 := HO _ _ S0 hb_
        clear hb_
        obtain ⟨⟨_, _⟩, _⟩ := id S0
        obtain ⟨_, _⟩ := H8.one
        obtain ⟨_, _⟩ := H9.one
        cases q1 : roomB p1
        · obtain ⟨rfl, rfl, rfl⟩ := HN.out (by rw [HB.out, q1]; rfl)
          have hR := two_set S0.2.1 S0.2.2.1 (by omega) (.slice none 0 0) (.slice none 0 0)
          obtain ⟨_, _⟩ := S0.2.1.one
          obtain ⟨_, _⟩ := hR.1.one
          obtain ⟨r1_, _⟩ := hR.2.1.one
          obtain ⟨r2_, _⟩ := hR.2.2.one
          have hb4 := Lib.hid (S0.2.2.2.2.trans ((below_set x4 w.heap.size (w.heap.size + 1) 0 (.slice none 0 0) (by omega)).trans (below_set _ w.heap.size (w.heap.size + 1 + 1) 0 (.slice none 0 0) (by omega))))
          clear hR HN HY HB
          go_wp2_with fail
          refine bodyPost_ret (v := .tuple #[.agg #[.slice none 0 0], .agg #[.slice none 0 0], .bool false]) (by simp [results, Try.results10, go_sem, r1_, r2_]) rfl ⟨none, 0, none, 0, w.heap.size, rfl, Nat.le_refl _, hb4.out.size, World.ownsRow_nil _ _ _ _, (fun k h => by cases h), World.ownsRow_nil _ _ _ _, hb4.out⟩
        go_wp2_with fail
        refine (RoomOkImpl.roomOk A2 m2 c2 _ p2 hm2.out hs2 (own_ptsC O2 hm2.out)).mono ?_
        rintro e x5 ⟨rfl, hb_⟩
        replace O1 := own_below O1 hb_
        replace O2 := own_below O2 hb_
        replace H8 := H8.later hb_
        replace H9 := H9.later hb_
        replace hmy := Nat.le_trans hmy hb_.size
        replace S0 := HO _ _ S0 hb_
        clear hb_
        obtain ⟨⟨_, _⟩, _⟩ := id S0
        obtain ⟨_, _⟩ := H8.one
        obtain ⟨_, _⟩ := H9.one
        cases q2 : roomB p2
        · obtain ⟨rfl, rfl, rfl⟩ := HN.out (by rw [HB.out, q1, q2]; rfl)
          have hR := two_set S0.2.1 S0.2.2.1 (by omega) (.slice none 0 0) (.slice none 0 0)
          obtain ⟨_, _⟩ := S0.2.1.one
          obtain ⟨_, _⟩ := hR.1.one
          obtain ⟨r1_, _⟩ := hR.2.1.one
          obtain ⟨r2_, _⟩ := hR.2.2.one
          have hb4 := Lib.hid (S0.2.2.2.2.trans ((below_set x5 w.heap.size (w.heap.size + 1) 0 (.slice none 0 0) (by omega)).trans (below_set _ w.heap.size (w.heap.size + 1 + 1) 0 (.slice none 0 0) (by omega))))
          clear hR HN HY HB
          go_wp2_with fail
          refine bodyPost_ret (v := .tuple #[.agg #[.slice none 0 0], .agg #[.slice none 0 0], .bool false]) (by simp [results, Try.results10, go_sem, r1_, r2_]) rfl ⟨none, 0, none, 0, w.heap.size, rfl, Nat.le_refl _, hb4.out.size, World.ownsRow_nil _ _ _ _, (fun k h => by cases h), World.ownsRow_nil _ _ _ _, hb4.out⟩
        obtain ⟨rfl, rfl, rfl⟩ := HY.out (by rw [HB.out, q1, q2]; rfl)
        have hmx : mid ≤ x5.heap.size := hmy
        have hR := two_set S0.2.1 S0.2.2.1 (by omega) (.slice A1 m1 c1) (.slice A2 m2 c2)
        obtain ⟨_, _⟩ := S0.2.1.one
        obtain ⟨_, _⟩ := S0.2.2.1.one
        obtain ⟨_, _⟩ := hR.1.one
        obtain ⟨r1_, _⟩ := hR.2.1.one
        obtain ⟨r2_, _⟩ := hR.2.2.one
        obtain ⟨_, _⟩ := (H9.far ⟨w.heap.size + 1, 0, none⟩ (.slice A1 m1 c1) (fun e => by have e : k9 = w.heap.size + 1 := e; omega)).one
        have OF1 := Lib.hid (own_set (own_set O1 (w.heap.size + 1) 0 (.slice A1 m1 c1) (by omega)) (w.heap.size + 1 + 1) 0 (.slice A2 m2 c2) (by omega))
        have OF2 := Lib.hid (own_set (own_set O2 (w.heap.size + 1) 0 (.slice A1 m1 c1) (by omega)) (w.heap.size + 1 + 1) 0 (.slice A2 m2 c2) (by omega))
        have hb3 := ((below_set x5 w.heap.size (w.heap.size + 1) 0 (.slice A1 m1 c1) (by omega)).trans (below_set _ w.heap.size (w.heap.size + 1 + 1) 0 (.slice A2 m2 c2) (by omega)))
        have hb5 := Lib.hid ((S0.2.2.2.2.trans hb3).trans (⟨rfl, rfl, rfl, Nat.le_refl _, fun _ _ => rfl⟩ : Below w.heap.size ((x5.setCell ⟨w.heap.size + 1, 0, none⟩ (.slice A1 m1 c1)).setCell ⟨w.heap.size + 1 + 1, 0, none⟩ (.slice A2 m2 c2)) ((x5.setCell ⟨w.heap.size + 1, 0, none⟩ (.slice A1 m1 c1)).setCell ⟨w.heap.size + 1 + 1, 0, none⟩ (.slice A2 m2 c2)).drew))
        have hk5_ := Lib.hid (Nat.le_trans hmx hb3.size)
        have hm3 := hm1.out
        have hm4 := hm2.out
        subst hm3 hm4
        clear hR HN HY HB hb3
        go_wp2_with fail
        go_region
        go_wp2_with fail
        refine bodyPost_ret (v := .tuple #[.agg #[.slice A1 l1.length c1], .agg #[.slice A2 l2.length c2], .bool true]) (by simp [results, Try.results10, go_sem, r1_, r2_]) rfl ⟨A1, c1, A2, c2, mid, rfl, by omega, hk5_.out, own_base OF1.out (by omega), q12, OF2.out, hb5.out⟩
      refine AllReadyH.cons (o := ⟨some 10, _, _, _, _, _⟩) rfl (fun K hK => ?_) ?_
      · skip
        obtain ⟨k9, hk9⟩ : ∃ q, q = v3.heap.size := ⟨_, rfl⟩
        have lo9 : w.heap.size + 3 ≤ k9 := by rw [hk9]; exact S0.2.2.1.lt
        have n19 : ∀ g, (Value.slice A1 m1 c1).ownBlock = some g → g ≠ k9 := fun g hg => by have := (O1.lt g hg).2; omega
        have n89 : k8 ≠ k9 := by have := H8.lt; omega
        have H9 := Blk.Holds.box v3 #[.slice none 0 0] 28 hk9
        have hb_ := below1 v3 (Obj.cells #[.slice none 0 0] 28)
        replace O1 := own_below O1 hb_
        replace H8 := H8.later hb_
        replace S0 := HO _ _ S0 hb_
        clear hb_
        go_simp
        try rw [← hk9]
        generalize v3.alloc (Obj.cells #[.slice none 0 0] 28) = v9 at *
        clear hk9
        refine hK.out _ _ S0.1.1 (fun hHeld => ?_)
        clear hK K
        try simp only [Act.put, List.setIfInBounds_toArray, List.set_cons_zero, List.set_cons_succ]
        refine wpAnyH_ready (rs := [7]) (by kernel_rfl) (by simp) ?_
        refine AllReadyH.cons (o := ⟨some 25, _, _, _, _, _⟩) rfl (fun K hK => ?_) ?_
        rotate_left 1
        · exact AllReadyH.nil
        go_simp
        go_at_call 31
        refine (QQ.out _ (S0.2.2.2.1.wide S0.2.2.2.2.size)).mono ?_
        rintro e v7 ⟨A2, c2, rfl, O2, hb_⟩
        have hzc_ : w.heap.size + 3 ≤ v9.heap.size := S0.2.2.1.lt
        have n28 : ∀ g, (Value.slice A2 m2 c2).ownBlock = some g → g ≠ k8 := fun g hg => by have := (O2.lt g hg).1; have := H8.lt; omega
        have n29 : ∀ g, (Value.slice A2 m2 c2).ownBlock = some g → g ≠ k9 := fun g hg => by have := (O2.lt g hg).1; have := H9.lt; omega
        obtain ⟨mid, hmid⟩ : ∃ q, q = v9.heap.size := ⟨_, rfl⟩
        rw [← hmid] at O2
        have q12 : ∀ g, (Value.slice A1 m1 c1).ownBlock = some g → g < mid := fun g hg => by have := (O1.lt g hg).2; omega
        have lom : w.heap.size + 3 ≤ mid := by omega
        have hmy : mid ≤ v7.heap.size := by rw [hmid]; exact hb_.size
        clear hmid
        replace O1 := own_below O1 hb_
        replace H8 := H8.later hb_
        replace H9 := H9.later hb_
        replace S0 := HO _ _ S0 hb_
        clear hb_ hzc_
        refine hK.out _ _ S0.1.1 (fun hHeld => ?_)
        clear hK K
        try simp only [Act.put, List.setIfInBounds_toArray, List.set_cons_zero, List.set_cons_succ]
        refine wpAnyH_ready (rs := [10]) (by kernel_rfl) (by simp) ?_
        refine AllReadyH.cons (o := ⟨none, _, _, _, _, _⟩) rfl (fun K hK => ?_) ?_
        rotate_left 1
        · exact AllReadyH.nil
        obtain ⟨_, _⟩ := H8.one
        have hg_ := grown_set v7 k8 0 (.slice A1 m1 c1)
        have hb_ := below_set v7 (w.heap.size + 3) k8 0 (.slice A1 m1 c1) lo8
        have hs_ := hb_.size
        replace O1 := kept_ne O1 hg_ n18
        replace O2 := kept_ne O2 hg_ n28
        replace H8 : Holds (v7.setCell ⟨k8, 0, none⟩ (.slice A1 m1 c1)) k8 #[(.slice A1 m1 c1)] 28 := Blk.set_own H8 0 (.slice A1 m1 c1)
        replace H9 := H9.far ⟨k8, 0, none⟩ (.slice A1 m1 c1) (fun e => n89 e.symm)
        replace S0 := HO3 _ _ S0 hb_
        replace hmy := Nat.le_trans hmy hb_.size
        go_simp
        generalize v7.setCell ⟨k8, 0, none⟩ (.slice A1 m1 c1) = v10 at *
        clear hg_ hb_ hs_
        refine hK.out _ _ S0.1.1 (fun hHeld => ?_)
        clear hK K
        try simp only [Act.put, List.setIfInBounds_toArray, List.set_cons_zero, List.set_cons_succ]
        refine wpAnyH_ready (rs := [11]) (by kernel_rfl) (by simp) ?_
        refine AllReadyH.cons (o := ⟨none, _, _, _, _, _⟩) rfl (fun K hK => ?_) ?_
        rotate_left 1
        · exact AllReadyH.nil
        obtain ⟨_, _⟩ := H9.one
        have hg_ := grown_set v10 k9 0 (.slice A2 m2 c2)
        have hb_ := below_set v10 (w.heap.size + 3) k9 0 (.slice A2 m2 c2) lo9
        have hs_ := hb_.size
        replace O1 := kept_ne O1 hg_ n19
        replace O2 := kept_ne O2 hg_ n29
        replace H9 : Holds (v10.setCell ⟨k9, 0, none⟩ (.slice A2 m2 c2)) k9 #[(.slice A2 m2 c2)] 28 := Blk.set_own H9 0 (.slice A2 m2 c2)
        replace H8 := H8.far ⟨k9, 0, none⟩ (.slice A2 m2 c2) n89
        replace S0 := HO3 _ _ S0 hb_
        replace hmy := Nat.le_trans hmy hb_.size
        go_simp
        generalize v10.setCell ⟨k9, 0, none⟩ (.slice A2 m2 c2) = v11 at *
        clear hg_ hb_ hs_
        refine hK.out _ _ S0.1.1 (fun hHeld => ?_)
        clear hK K
        try simp only [Act.put, List.setIfInBounds_toArray, List.set_cons_zero, List.set_cons_succ]
        refine wpAnyH_done (by kernel_rfl) ?_ _
        obtain ⟨⟨_, _⟩, _⟩ := id S0
        obtain ⟨_, _⟩ := H8.one
        obtain ⟨_, _⟩ := H9.one
        go_wp2_with fail
        refine (RoomOkImpl.roomOk A1 m1 c1 _ p1 hm1.out hs1 (own_ptsC O1 hm1.out)).mono ?_
        rintro e x4 ⟨rfl, hb_⟩
        replace O1 := own_below O1 hb_
        replace O2 := own_below O2 hb_
        replace H8 := H8.later hb_
        replace H9 := H9.later hb_
        replace hmy := Nat.le_trans hmy hb_.size
        replace S0 := HO _ _ S0 hb_
        clear hb_
        obtain ⟨⟨_, _⟩, _⟩ := id S0
        obtain ⟨_, _⟩ := H8.one
        obtain ⟨_, _⟩ := H9.one
        cases q1 : roomB p1
        · obtain ⟨rfl, rfl, rfl⟩ := HN.out (by rw [HB.out, q1]; rfl)
          have hR := two_set S0.2.1 S0.2.2.1 (by omega) (.slice none 0 0) (.slice none 0 0)
          obtain ⟨_, _⟩ := S0.2.1.one
          obtain ⟨_, _⟩ := hR.1.one
          obtain ⟨r1_, _⟩ := hR.2.1.one
          obtain ⟨r2_, _⟩ := hR.2.2.one
          have hb4 := Lib.hid (S0.2.2.2.2.trans ((below_set x4 w.heap.size (w.heap.size + 1) 0 (.slice none 0 0) (by omega)).trans (below_set _ w.heap.size (w.heap.size + 1 + 1) 0 (.slice none 0 0) (by omega))))
          clear hR HN HY HB
          go_wp2_with fail
          refine bodyPost_ret (v := .tuple #[.agg #[.slice none 0 0], .agg #[.slice none 0 0], .bool false]) (by simp [results, Try.results10, go_sem, r1_, r2_]) rfl ⟨none, 0, none, 0, w.heap.size, rfl, Nat.le_refl _, hb4.out.size, World.ownsRow_nil _ _ _ _, (fun k h => by cases h), World.ownsRow_nil _ _ _ _, hb4.out⟩
        go_wp2_with fail
        refine (RoomOkImpl.roomOk A2 m2 c2 _ p2 hm2.out hs2 (own_ptsC O2 hm2.out)).mono ?_
        rintro e x5 ⟨rfl, hb_⟩
        replace O1 := own_below O1 hb_
        replace O2 := own_below O2 hb_
        replace H8 := H8.later hb_
        replace H9 := H9.later hb_
        replace hmy := Nat.le_trans hmy hb_.size
        replace S0 := HO _ _ S0 hb_
        clear hb_
        obtain ⟨⟨_, _⟩, _⟩ := id S0
        obtain ⟨_, _⟩ := H8.one
        obtain ⟨_, _⟩ := H9.one
        cases q2 : roomB p2
        · obtain ⟨rfl, rfl, rfl⟩ := HN.out (by rw [HB.out, q1, q2]; rfl)
          have hR := two_set S0.2.1 S0.2.2.1 (by omega) (.slice none 0 0) (.slice none 0 0)
          obtain ⟨_, _⟩ := S0.2.1.one
          obtain ⟨_, _⟩ := hR.1.one
          obtain ⟨r1_, _⟩ := hR.2.1.one
          obtain ⟨r2_, _⟩ := hR.2.2.one
          have hb4 := Lib.hid (S0.2.2.2.2.trans ((below_set x5 w.heap.size (w.heap.size + 1) 0 (.slice none 0 0) (by omega)).trans (below_set _ w.heap.size (w.heap.size + 1 + 1) 0 (.slice none 0 0) (by omega))))
          clear hR HN HY HB
          go_wp2_with fail
          refine bodyPost_ret (v := .tuple #[.agg #[.slice none 0 0], .agg #[.slice none 0 0], .bool false]) (by simp [results, Try.results10, go_sem, r1_, r2_]) rfl ⟨none, 0, none, 0, w.heap.size, rfl, Nat.le_refl _, hb4.out.size, World.ownsRow_nil _ _ _ _, (fun k h => by cases h), World.ownsRow_nil _ _ _ _, hb4.out⟩
        obtain ⟨rfl, rfl, rfl⟩ := HY.out (by rw [HB.out, q1, q2]; rfl)
        have hmx : mid ≤ x5.heap.size := hmy
        have hR := two_set S0.2.1 S0.2.2.1 (by omega) (.slice A1 m1 c1) (.slice A2 m2 c2)
        obtain ⟨_, _⟩ := S0.2.1.one
        obtain ⟨_, _⟩ := S0.2.2.1.one
        obtain ⟨_, _⟩ := hR.1.one
        obtain ⟨r1_, _⟩ := hR.2.1.one
        obtain ⟨r2_, _⟩ := hR.2.2.one
        obtain ⟨_, _⟩ := (H9.far ⟨w.heap.size + 1, 0, none⟩ (.slice A1 m1 c1) (fun e => by have e : k9 = w.heap.size + 1 := e; omega)).one
        have OF1 := Lib.hid (own_set (own_set O1 (w.heap.size + 1) 0 (.slice A1 m1 c1) (by omega)) (w.heap.size + 1 + 1) 0 (.slice A2 m2 c2) (by omega))
        have OF2 := Lib.hid (own_set (own_set O2 (w.heap.size + 1) 0 (.slice A1 m1 c1) (by omega)) (w.heap.size + 1 + 1) 0 (.slice A2 m2 c2) (by omega))
        have hb3 := ((below_set x5 w.heap.size (w.heap.size + 1) 0 (.slice A1 m1 c1) (by omega)).trans (below_set _ w.heap.size (w.heap.size + 1 + 1) 0 (.slice A2 m2 c2) (by omega)))
        have hb5 := Lib.hid ((S0.2.2.2.2.trans hb3).trans (⟨rfl, rfl, rfl, Nat.le_refl _, fun _ _ => rfl⟩ : Below w.heap.size ((x5.setCell ⟨w.heap.size + 1, 0, none⟩ (.slice A1 m1 c1)).setCell ⟨w.heap.size + 1 + 1, 0, none⟩ (.slice A2 m2 c2)) ((x5.setCell ⟨w.heap.size + 1, 0, none⟩ (.slice A1 m1 c1)).setCell ⟨w.heap.size + 1 + 1, 0, none⟩ (.slice A2 m2 c2)).drew))
        have hk5_ := Lib.hid (Nat.le_trans hmx hb3.size)
        have hm3 := hm1.out
        have hm4 := hm2.out
        subst hm3 hm4
        clear hR HN HY HB hb3
        go_wp2_with fail
        go_region
        go_wp2_with fail
        refine bodyPost_ret (v := .tuple #[.agg #[.slice A1 l1.length c1], .agg #[.slice A2 l2.length c2], .bool true]) (by simp [results, Try.results10, go_sem, r1_, r2_]) rfl ⟨A1, c1, A2, c2, mid, rfl, by omega, hk5_.out, own_base OF1.out (by omega), q12, OF2.out, hb5.out⟩
      exact AllReadyH.nil
    refine AllReadyH.cons (o := ⟨some 10, _, _, _, _, _⟩) rfl (fun K hK => ?_) ?_
    · skip
      obtain ⟨k9, hk9⟩ : ∃ q, q = v8.heap.size := ⟨_, rfl⟩
      have lo9 : w.heap.size + 3 ≤ k9 := by rw [hk9]; exact S0.2.2.1.lt
      have n89 : k8 ≠ k9 := by have := H8.lt; omega
      have H9 := Blk.Holds.box v8 #[.slice none 0 0] 28 hk9
      have hb_ := below1 v8 (Obj.cells #[.slice none 0 0] 28)
      replace H8 := H8.later hb_
      replace S0 := HO _ _ S0 hb_
      clear hb_
      go_simp
      try rw [← hk9]
      generalize v8.alloc (Obj.cells #[.slice none 0 0] 28) = v9 at *
      clear hk9
      refine hK.out _ _ S0.1.1 (fun hHeld => ?_)
      clear hK K
      try simp only [Act.put, List.setIfInBounds_toArray, List.set_cons_zero, List.set_cons_succ]
      refine wpAnyH_ready (rs := [3]) (by kernel_rfl) (by simp) ?_
      refine AllReadyH.cons (o := ⟨some 21, _, _, _, _, _⟩) rfl (fun K hK => ?_) ?_
      rotate_left 1
      · exact AllReadyH.nil
      go_simp
      go_at_call 31
      refine (QP.out _ (S0.2.2.2.1.wide S0.2.2.2.2.size)).mono ?_
      rintro e v3 ⟨A1, c1, rfl, O1, hb_⟩
      have hzc_ : w.heap.size + 3 ≤ v9.heap.size := S0.2.2.1.lt
      have n18 : ∀ g, (Value.slice A1 m1 c1).ownBlock = some g → g ≠ k8 := fun g hg => by have := (O1.lt g hg).1; have := H8.lt; omega
      have n19 : ∀ g, (Value.slice A1 m1 c1).ownBlock = some g → g ≠ k9 := fun g hg => by have := (O1.lt g hg).1; have := H9.lt; omega
      replace O1 := own_base O1 (b' := w.heap.size + 3) hzc_
      replace H8 := H8.later hb_
      replace H9 := H9.later hb_
      replace S0 := HO _ _ S0 hb_
      clear hb_ hzc_
      refine hK.out _ _ S0.1.1 (fun hHeld => ?_)
      clear hK K
      try simp only [Act.put, List.setIfInBounds_toArray, List.set_cons_zero, List.set_cons_succ]
      refine wpAnyH_ready (rs := [7]) (by kernel_rfl) (by simp) ?_
      refine AllReadyH.cons (o := ⟨some 25, _, _, _, _, _⟩) rfl (fun K hK => ?_) ?_
      rotate_left 1
      · exact AllReadyH.nil
      go_simp
      go_at_call 31
      refine (QQ.out _ (S0.2.2.2.1.wide S0.2.2.2.2.size)).mono ?_
      rintro e v7 ⟨A2, c2, rfl, O2, hb_⟩
      have hzc_ : w.heap.size + 3 ≤ v3.heap.size := S0.2.2.1.lt
      have n28 : ∀ g, (Value.slice A2 m2 c2).ownBlock = some g → g ≠ k8 := fun g hg => by have := (O2.lt g hg).1; have := H8.lt; omega
      have n29 : ∀ g, (Value.slice A2 m2 c2).ownBlock = some g → g ≠ k9 := fun g hg => by have := (O2.lt g hg).1; have := H9.lt; omega
      obtain ⟨mid, hmid⟩ : ∃ q, q = v3.heap.size := ⟨_, rfl⟩
      rw [← hmid] at O2
      have q12 : ∀ g, (Value.slice A1 m1 c1).ownBlock = some g → g < mid := fun g hg => by have := (O1.lt g hg).2; omega
      have lom : w.heap.size + 3 ≤ mid := by omega
      have hmy : mid ≤ v7.heap.size := by rw [hmid]; exact hb_.size
      clear hmid
      replace O1 := own_below O1 hb_
      replace H8 := H8.later hb_
      replace H9 := H9.later hb_
      replace S0 := HO _ _ S0 hb_
      clear hb_ hzc_
      refine hK.out _ _ S0.1.1 (fun hHeld => ?_)
      clear hK K
      try simp only [Act.put, List.setIfInBounds_toArray, List.set_cons_zero, List.set_cons_succ]
      refine wpAnyH_ready (rs := [10]) (by kernel_rfl) (by simp) ?_
      refine AllReadyH.cons (o := ⟨none, _, _, _, _, _⟩) rfl (fun K hK => ?_) ?_
      rotate_left 1
      · exact AllReadyH.nil
      obtain ⟨_, _⟩ := H8.one
      have hg_ := grown_set v7 k8 0 (.slice A1 m1 c1)
      have hb_ := below_set v7 (w.heap.size + 3) k8 0 (.slice A1 m1 c1) lo8
      have hs_ := hb_.size
      replace O1 := kept_ne O1 hg_ n18
      replace O2 := kept_ne O2 hg_ n28
      replace H8 : Holds (v7.setCell ⟨k8, 0, none⟩ (.slice A1 m1 c1)) k8 #[(.slice A1 m1 c1)] 28 := Blk.set_own H8 0 (.slice A1 m1 c1)
      replace H9 := H9.far ⟨k8, 0, none⟩ (.slice A1 m1 c1) (fun e => n89 e.symm)
      replace S0 := HO3 _ _ S0 hb_
      replace hmy := Nat.le_trans hmy hb_.size
      go_simp
      generalize v7.setCell ⟨k8, 0, none⟩ (.slice A1 m1 c1) = v10 at *
      clear hg_ hb_ hs_
      refine hK.out _ _ S0.1.1 (fun hHeld => ?_)
      clear hK K
      try simp only [Act.put, List.setIfInBounds_toArray, List.set_cons_zero, List.set_cons_succ]
      refine wpAnyH_ready (rs := [11]) (by kernel_rfl) (by simp) ?_
      refine AllReadyH.cons (o := ⟨none, _, _, _, _, _⟩) rfl (fun K hK => ?_) ?_
      rotate_left 1
      · exact AllReadyH.nil
      obtain ⟨_, _⟩ := H9.one
      have hg_ := grown_set v10 k9 0 (.slice A2 m2 c2)
      have hb_ := below_set v10 (w.heap.size + 3) k9 0 (.slice A2 m2 c2) lo9
      have hs_ := hb_.size
      replace O1 := kept_ne O1 hg_ n19
      replace O2 := kept_ne O2 hg_ n29
      replace H9 : Holds (v10.setCell ⟨k9, 0, none⟩ (.slice A2 m2 c2)) k9 #[(.slice A2 m2 c2)] 28 := Blk.set_own H9 0 (.slice A2 m2 c2)
      replace H8 := H8.far ⟨k9, 0, none⟩ (.slice A2 m2 c2) n89
      replace S0 := HO3 _ _ S0 hb_
      replace hmy := Nat.le_trans hmy hb_.size
      go_simp
      generalize v10.setCell ⟨k9, 0, none⟩ (.slice A2 m2 c2) = v11 at *
      clear hg_ hb_ hs_
      refine hK.out _ _ S0.1.1 (fun hHeld => ?_)
      clear hK K
      try simp only [Act.put, List.setIfInBounds_toArray, List.set_cons_zero, List.set_cons_succ]
      refine wpAnyH_done (by kernel_rfl) ?_ _
      obtain ⟨⟨_, _⟩, _⟩ := id S0
      obtain ⟨_, _⟩ := H8.one
      obtain ⟨_, _⟩ := H9.one
      go_wp2_with fail
      refine (RoomOkImpl.roomOk A1 m1 c1 _ p1 hm1.out hs1 (own_ptsC O1 hm1.out)).mono ?_
      rintro e x4 ⟨rfl, hb_⟩
      replace O1 := own_below O1 hb_
      replace O2 := own_below O2 hb_
      replace H8 := H8.later hb_
      replace H9 := H9.later hb_
      replace hmy := Nat.le_trans hmy hb_.size
      replace S0 := HO _ _ S0 hb_
      clear hb_
      obtain ⟨⟨_, _⟩, _⟩ := id S0
      obtain ⟨_, _⟩ := H8.one
      obtain ⟨_, _⟩ := H9.one
      cases q1 : roomB p1
      · obtain ⟨rfl, rfl, rfl⟩ := HN.out (by rw [HB.out, q1]; rfl)
        have hR := two_set S0.2.1 S0.2.2.1 (by omega) (.slice none 0 0) (.slice none 0 0)
        obtain ⟨_, _⟩ := S0.2.1.one
        obtain ⟨_, _⟩ := hR.1.one
        obtain ⟨r1_, _⟩ := hR.2.1.one
        obtain ⟨r2_, _⟩ := hR.2.2.one
        have hb4 := Lib.hid (S0.2.2.2.2.trans ((below_set x4 w.heap.size (w.heap.size + 1) 0 (.slice none 0 0) (by omega)).trans (below_set _ w.heap.size (w.heap.size + 1 + 1) 0 (.slice none 0 0) (by omega))))
        clear hR HN HY HB
        go_wp2_with fail
        refine bodyPost_ret (v := .tuple #[.agg #[.slice none 0 0], .agg #[.slice none 0 0], .bool false]) (by simp [results, Try.results10, go_sem, r1_, r2_]) rfl ⟨none, 0, none, 0, w.heap.size, rfl, Nat.le_refl _, hb4.out.size, World.ownsRow_nil _ _ _ _, (fun k h => by cases h), World.ownsRow_nil _ _ _ _, hb4.out⟩
      go_wp2_with fail
      refine (RoomOkImpl.roomOk A2 m2 c2 _ p2 hm2.out hs2 (own_ptsC O2 hm2.out)).mono ?_
      rintro e x5 ⟨rfl, hb_⟩
      replace O1 := own_below O1 hb_
      replace O2 := own_below O2 hb_
      replace H8 := H8.later hb_
      replace H9 := H9.later hb_
      replace hmy := Nat.le_trans hmy hb_.size
      replace S0 := HO _ _ S0 hb_
      clear hb_
      obtain ⟨⟨_, _⟩, _⟩ := id S0
      obtain ⟨_, _⟩ := H8.one
      obtain ⟨_, _⟩ := H9.one
      cases q2 : roomB p2
      · obtain ⟨rfl, rfl, rfl⟩ := HN.out (by rw [HB.out, q1, q2]; rfl)
        have hR := two_set S0.2.1 S0.2.2.1 (by omega) (.slice none 0 0) (.slice none 0 0)
        obtain ⟨_, _⟩ := S0.2.1.one
        obtain ⟨_, _⟩ := hR.1.one
        obtain ⟨r1_, _⟩ := hR.2.1.one
        obtain ⟨r2_, _⟩ := hR.2.2.one
        have hb4 := Lib.hid (S0.2.2.2.2.trans ((below_set x5 w.heap.size (w.heap.size + 1) 0 (.slice none 0 0) (by omega)).trans (below_set _ w.heap.size (w.heap.size + 1 + 1) 0 (.slice none 0 0) (by omega))))
        clear hR HN HY HB
        go_wp2_with fail
        refine bodyPost_ret (v := .tuple #[.agg #[.slice none 0 0], .agg #[.slice none 0 0], .bool false]) (by simp [results, Try.results10, go_sem, r1_, r2_]) rfl ⟨none, 0, none, 0, w.heap.size, rfl, Nat.le_refl _, hb4.out.size, World.ownsRow_nil _ _ _ _, (fun k h => by cases h), World.ownsRow_nil _ _ _ _, hb4.out⟩
      obtain ⟨rfl, rfl, rfl⟩ := HY.out (by rw [HB.out, q1, q2]; rfl)
      have hmx : mid ≤ x5.heap.size := hmy
      have hR := two_set S0.2.1 S0.2.2.1 (by omega) (.slice A1 m1 c1) (.slice A2 m2 c2)
      obtain ⟨_, _⟩ := S0.2.1.one
      obtain ⟨_, _⟩ := S0.2.2.1.one
      obtain ⟨_, _⟩ := hR.1.one
      obtain ⟨r1_, _⟩ := hR.2.1.one
      obtain ⟨r2_, _⟩ := hR.2.2.one
      obtain ⟨_, _⟩ := (H9.far ⟨w.heap.size + 1, 0, none⟩ (.slice A1 m1 c1) (fun e => by have e : k9 = w.heap.size + 1 := e; omega)).one
      have OF1 := Lib.hid (own_set (own_set O1 (w.heap.size + 1) 0 (.slice A1 m1 c1) (by omega)) (w.heap.size + 1 + 1) 0 (.slice A2 m2 c2) (by omega))
      have OF2 := Lib.hid (own_set (own_set O2 (w.heap.size + 1) 0 (.slice A1 m1 c1) (by omega)) (w.heap.size + 1 + 1) 0 (.slice A2 m2 c2) (by omega))
      have hb3 := ((below_set x5 w.heap.size (w.heap.size + 1) 0 (.slice A1 m1 c1) (by omega)).trans (below_set _ w.heap.size (w.heap.size + 1 + 1) 0 (.slice A2 m2 c2) (by omega)))
      have hb5 := Lib.hid ((S0.2.2.2.2.trans hb3).trans (⟨rfl, rfl, rfl, Nat.le_refl _, fun _ _ => rfl⟩ : Below w.heap.size ((x5.setCell ⟨w.heap.size + 1, 0, none⟩ (.slice A1 m1 c1)).setCell ⟨w.heap.size + 1 + 1, 0, none⟩ (.slice A2 m2 c2)) ((x5.setCell ⟨w.heap.size + 1, 0, none⟩ (.slice A1 m1 c1)).setCell ⟨w.heap.size + 1 + 1, 0, none⟩ (.slice A2 m2 c2)).drew))
      have hk5_ := Lib.hid (Nat.le_trans hmx hb3.size)
      have hm3 := hm1.out
      have hm4 := hm2.out
      subst hm3 hm4
      clear hR HN HY HB hb3
      go_wp2_with fail
      go_region
      go_wp2_with fail
      refine bodyPost_ret (v := .tuple #[.agg #[.slice A1 l1.length c1], .agg #[.slice A2 l2.length c2], .bool true]) (by simp [results, Try.results10, go_sem, r1_, r2_]) rfl ⟨A1, c1, A2, c2, mid, rfl, by omega, hk5_.out, own_base OF1.out (by omega), q12, OF2.out, hb5.out⟩
    exact AllReadyH.nil
  refine AllReadyH.cons (o := ⟨some 10, _, _, _, _, _⟩) rfl (fun K hK => ?_) ?_
  · skip
    obtain ⟨k9, hk9⟩ : ∃ q, q = v0.heap.size := ⟨_, rfl⟩
    have lo9 : w.heap.size + 3 ≤ k9 := by rw [hk9]; exact S0.2.2.1.lt
    have H9 := Blk.Holds.box v0 #[.slice none 0 0] 28 hk9
    have hb_ := below1 v0 (Obj.cells #[.slice none 0 0] 28)
    replace S0 := HO _ _ S0 hb_
    clear hb_
    go_simp
    try rw [← hk9]
    generalize v0.alloc (Obj.cells #[.slice none 0 0] 28) = v9 at *
    clear hk9
    refine hK.out _ _ S0.1.1 (fun hHeld => ?_)
    clear hK K
    try simp only [Act.put, List.setIfInBounds_toArray, List.set_cons_zero, List.set_cons_succ]
    refine wpAnyH_ready (rs := [3, 8]) (by kernel_rfl) (by simp) ?_
    refine AllReadyH.cons (o := ⟨some 21, _, _, _, _, _⟩) rfl (fun K hK => ?_) ?_
    · skip
      go_simp
      go_at_call 31
      refine (QP.out _ (S0.2.2.2.1.wide S0.2.2.2.2.size)).mono ?_
      rintro e v3 ⟨A1, c1, rfl, O1, hb_⟩
      have hzc_ : w.heap.size + 3 ≤ v9.heap.size := S0.2.2.1.lt
      have n19 : ∀ g, (Value.slice A1 m1 c1).ownBlock = some g → g ≠ k9 := fun g hg => by have := (O1.lt g hg).1; have := H9.lt; omega
      replace O1 := own_base O1 (b' := w.heap.size + 3) hzc_
      replace H9 := H9.later hb_
      replace S0 := HO _ _ S0 hb_
      clear hb_ hzc_
      refine hK.out _ _ S0.1.1 (fun hHeld => ?_)
      clear hK K
      try simp only [Act.put, List.setIfInBounds_toArray, List.set_cons_zero, List.set_cons_succ]
      refine wpAnyH_ready (rs := [7, 8]) (by kernel_rfl) (by simp) ?_
      refine AllReadyH.cons (o := ⟨some 25, _, _, _, _, _⟩) rfl (fun K hK => ?_) ?_
      · skip
        go_simp
        go_at_call 31
        refine (QQ.out _ (S0.2.2.2.1.wide S0.2.2.2.2.size)).mono ?_
        rintro e v7 ⟨A2, c2, rfl, O2, hb_⟩
        have hzc_ : w.heap.size + 3 ≤ v3.heap.size := S0.2.2.1.lt
        have n29 : ∀ g, (Value.slice A2 m2 c2).ownBlock = some g → g ≠ k9 := fun g hg => by have := (O2.lt g hg).1; have := H9.lt; omega
        obtain ⟨mid, hmid⟩ : ∃ q, q = v3.heap.size := ⟨_, rfl⟩
        rw [← hmid] at O2
        have q12 : ∀ g, (Value.slice A1 m1 c1).ownBlock = some g → g < mid := fun g hg => by have := (O1.lt g hg).2; omega
        have lom : w.heap.size + 3 ≤ mid := by omega
        have hmy : mid ≤ v7.heap.size := by rw [hmid]; exact hb_.size
        clear hmid
        replace O1 := own_below O1 hb_
        replace H9 := H9.later hb_
        replace S0 := HO _ _ S0 hb_
        clear hb_ hzc_
        refine hK.out _ _ S0.1.1 (fun hHeld => ?_)
        clear hK K
        try simp only [Act.put, List.setIfInBounds_toArray, List.set_cons_zero, List.set_cons_succ]
        refine wpAnyH_ready (rs := [8]) (by kernel_rfl) (by simp) ?_
        refine AllReadyH.cons (o := ⟨some 9, _, _, _, _, _⟩) rfl (fun K hK => ?_) ?_
        rotate_left 1
        · exact AllReadyH.nil
        obtain ⟨k8, hk8⟩ : ∃ q, q = v7.heap.size := ⟨_, rfl⟩
        have lo8 : w.heap.size + 3 ≤ k8 := by rw [hk8]; exact S0.2.2.1.lt
        have n18 : ∀ g, (Value.slice A1 m1 c1).ownBlock = some g → g ≠ k8 := fun g hg => by have := (O1.lt g hg).2; omega
        have n28 : ∀ g, (Value.slice A2 m2 c2).ownBlock = some g → g ≠ k8 := fun g hg => by have := (O2.lt g hg).2; omega
        have n89 : k8 ≠ k9 := by have := H9.lt; omega
        have H8 := Blk.Holds.box v7 #[.slice none 0 0] 28 hk8
        have hb_ := below1 v7 (Obj.cells #[.slice none 0 0] 28)
        replace O1 := own_below O1 hb_
        replace O2 := own_below O2 hb_
        replace H9 := H9.later hb_
        replace hmy := Nat.le_trans hmy hb_.size
        replace S0 := HO _ _ S0 hb_
        clear hb_
        go_simp
        try rw [← hk8]
        generalize v7.alloc (Obj.cells #[.slice none 0 0] 28) = v8 at *
        clear hk8
        refine hK.out _ _ S0.1.1 (fun hHeld => ?_)
        clear hK K
        try simp only [Act.put, List.setIfInBounds_toArray, List.set_cons_zero, List.set_cons_succ]
        refine wpAnyH_ready (rs := [10]) (by kernel_rfl) (by simp) ?_
        refine AllReadyH.cons (o := ⟨none, _, _, _, _, _⟩) rfl (fun K hK => ?_) ?_
        rotate_left 1
        · exact AllReadyH.nil
        obtain ⟨_, _⟩ := H8.one
        have hg_ := grown_set v8 k8 0 (.slice A1 m1 c1)
        have hb_ := below_set v8 (w.heap.size + 3) k8 0 (.slice A1 m1 c1) lo8
        have hs_ := hb_.size
        replace O1 := kept_ne O1 hg_ n18
        replace O2 := kept_ne O2 hg_ n28
        replace H8 : Holds (v8.setCell ⟨k8, 0, none⟩ (.slice A1 m1 c1)) k8 #[(.slice A1 m1 c1)] 28 := Blk.set_own H8 0 (.slice A1 m1 c1)
        replace H9 := H9.far ⟨k8, 0, none⟩ (.slice A1 m1 c1) (fun e => n89 e.symm)
        replace S0 := HO3 _ _ S0 hb_
        replace hmy := Nat.le_trans hmy hb_.size
        go_simp
        generalize v8.setCell ⟨k8, 0, none⟩ (.slice A1 m1 c1) = v10 at *
        clear hg_ hb_ hs_
        refine hK.out _ _ S0.1.1 (fun hHeld => ?_)
        clear hK K
        try simp only [Act.put, List.setIfInBounds_toArray, List.set_cons_zero, List.set_cons_succ]
        refine wpAnyH_ready (rs := [11]) (by kernel_rfl) (by simp) ?_
        refine AllReadyH.cons (o := ⟨none, _, _, _, _, _⟩) rfl (fun K hK => ?_) ?_
        rotate_left 1
        · exact AllReadyH.nil
        obtain ⟨_, _⟩ := H9.one
        have hg_ := grown_set v10 k9 0 (.slice A2 m2 c2)
        have hb_ := below_set v10 (w.heap.size + 3) k9 0 (.slice A2 m2 c2) lo9
        have hs_ := hb_.size
        replace O1 := kept_ne O1 hg_ n19
        replace O2 := kept_ne O2 hg_ n29
        replace H9 : Holds (v10.setCell ⟨k9, 0, none⟩ (.slice A2 m2 c2)) k9 #[(.slice A2 m2 c2)] 28 := Blk.set_own H9 0 (.slice A2 m2 c2)
        replace H8 := H8.far ⟨k9, 0, none⟩ (.slice A2 m2 c2) n89
        replace S0 := HO3 _ _ S0 hb_
        replace hmy := Nat.le_trans hmy hb_.size
        go_simp
        generalize v10.setCell ⟨k9, 0, none⟩ (.slice A2 m2 c2) = v11 at *
        clear hg_ hb_ hs_
        refine hK.out _ _ S0.1.1 (fun hHeld => ?_)
        clear hK K
        try simp only [Act.put, List.setIfInBounds_toArray, List.set_cons_zero, List.set_cons_succ]
        refine wpAnyH_done (by kernel_rfl) ?_ _
        obtain ⟨⟨_, _⟩, _⟩ := id S0
        obtain ⟨_, _⟩ := H8.one
        obtain ⟨_, _⟩ := H9.one
        go_wp2_with fail
        refine (RoomOkImpl.roomOk A1 m1 c1 _ p1 hm1.out hs1 (own_ptsC O1 hm1.out)).mono ?_
        rintro e x4 ⟨rfl, hb_⟩
        replace O1 := own_below O1 hb_
        replace O2 := own_below O2 hb_
        replace H8 := H8.later hb_
        replace H9 := H9.later hb_
        replace hmy := Nat.le_trans hmy hb_.size
        replace S0 := HO _ _ S0 hb_
        clear hb_
        obtain ⟨⟨_, _⟩, _⟩ := id S0
        obtain ⟨_, _⟩ := H8.one
        obtain ⟨_, _⟩ := H9.one
        cases q1 : roomB p1
        · obtain ⟨rfl, rfl, rfl⟩ := HN.out (by rw [HB.out, q1]; rfl)
          have hR := two_set S0.2.1 S0.2.2.1 (by omega) (.slice none 0 0) (.slice none 0 0)
          obtain ⟨_, _⟩ := S0.2.1.one
          obtain ⟨_, _⟩ := hR.1.one
          obtain ⟨r1_, _⟩ := hR.2.1.one
          obtain ⟨r2_, _⟩ := hR.2.2.one
          have hb4 := Lib.hid (S0.2.2.2.2.trans ((below_set x4 w.heap.size (w.heap.size + 1) 0 (.slice none 0 0) (by omega)).trans (below_set _ w.heap.size (w.heap.size + 1 + 1) 0 (.slice none 0 0) (by omega))))
          clear hR HN HY HB
          go_wp2_with fail
          refine bodyPost_ret (v := .tuple #[.agg #[.slice none 0 0], .agg #[.slice none 0 0], .bool false]) (by simp [results, Try.results10, go_sem, r1_, r2_]) rfl ⟨none, 0, none, 0, w.heap.size, rfl, Nat.le_refl _, hb4.out.size, World.ownsRow_nil _ _ _ _, (fun k h => by cases h), World.ownsRow_nil _ _ _ _, hb4.out⟩
        go_wp2_with fail
        refine (RoomOkImpl.roomOk A2 m2 c2 _ p2 hm2.out hs2 (own_ptsC O2 hm2.out)).mono ?_
        rintro e x5 ⟨rfl, hb_⟩
        replace O1 := own_below O1 hb_
        replace O2 := own_below O2 hb_
        replace H8 := H8.later hb_
        replace H9 := H9.later hb_
        replace hmy := Nat.le_trans hmy hb_.size
        replace S0 := HO _ _ S0 hb_
        clear hb_
        obtain ⟨⟨_, _⟩, _⟩ := id S0
        obtain ⟨_, _⟩ := H8.one
        obtain ⟨_, _⟩ := H9.one
        cases q2 : roomB p2
        · obtain ⟨rfl, rfl, rfl⟩ := HN.out (by rw [HB.out, q1, q2]; rfl)
          have hR := two_set S0.2.1 S0.2.2.1 (by omega) (.slice none 0 0) (.slice none 0 0)
          obtain ⟨_, _⟩ := S0.2.1.one
          obtain ⟨_, _⟩ := hR.1.one
          obtain ⟨r1_, _⟩ := hR.2.1.one
          obtain ⟨r2_, _⟩ := hR.2.2.one
          have hb4 := Lib.hid (S0.2.2.2.2.trans ((below_set x5 w.heap.size (w.heap.size + 1) 0 (.slice none 0 0) (by omega)).trans (below_set _ w.heap.size (w.heap.size + 1 + 1) 0 (.slice none 0 0) (by omega))))
          clear hR HN HY HB
          go_wp2_with fail
          refine bodyPost_ret (v := .tuple #[.agg #[.slice none 0 0], .agg #[.slice none 0 0], .bool false]) (by simp [results, Try.results10, go_sem, r1_, r2_]) rfl ⟨none, 0, none, 0, w.heap.size, rfl, Nat.le_refl _, hb4.out.size, World.ownsRow_nil _ _ _ _, (fun k h => by cases h), World.ownsRow_nil _ _ _ _, hb4.out⟩
        obtain ⟨rfl, rfl, rfl⟩ := HY.out (by rw [HB.out, q1, q2]; rfl)
        have hmx : mid ≤ x5.heap.size := hmy
        have hR := two_set S0.2.1 S0.2.2.1 (by omega) (.slice A1 m1 c1) (.slice A2 m2 c2)
        obtain ⟨_, _⟩ := S0.2.1.one
        obtain ⟨_, _⟩ := S0.2.2.1.one
        obtain ⟨_, _⟩ := hR.1.one
        obtain ⟨r1_, _⟩ := hR.2.1.one
        obtain ⟨r2_, _⟩ := hR.2.2.one
        obtain ⟨_, _⟩ := (H9.far ⟨w.heap.size + 1, 0, none⟩ (.slice A1 m1 c1) (fun e => by have e : k9 = w.heap.size + 1 := e; omega)).one
        have OF1 := Lib.hid (own_set (own_set O1 (w.heap.size + 1) 0 (.slice A1 m1 c1) (by omega)) (w.heap.size + 1 + 1) 0 (.slice A2 m2 c2) (by omega))
        have OF2 := Lib.hid (own_set (own_set O2 (w.heap.size + 1) 0 (.slice A1 m1 c1) (by omega)) (w.heap.size + 1 + 1) 0 (.slice A2 m2 c2) (by omega))
        have hb3 := ((below_set x5 w.heap.size (w.heap.size + 1) 0 (.slice A1 m1 c1) (by omega)).trans (below_set _ w.heap.size (w.heap.size + 1 + 1) 0 (.slice A2 m2 c2) (by omega)))
        have hb5 := Lib.hid ((S0.2.2.2.2.trans hb3).trans (⟨rfl, rfl, rfl, Nat.le_refl _, fun _ _ => rfl⟩ : Below w.heap.size ((x5.setCell ⟨w.heap.size + 1, 0, none⟩ (.slice A1 m1 c1)).setCell ⟨w.heap.size + 1 + 1, 0, none⟩ (.slice A2 m2 c2)) ((x5.setCell ⟨w.heap.size + 1, 0, none⟩ (.slice A1 m1 c1)).setCell ⟨w.heap.size + 1 + 1, 0, none⟩ (.slice A2 m2 c2)).drew))
        have hk5_ := Lib.hid (Nat.le_trans hmx hb3.size)
        have hm3 := hm1.out
        have hm4 := hm2.out
        subst hm3 hm4
        clear hR HN HY HB hb3
        go_wp2_with fail
        go_region
        go_wp2_with fail
        refine bodyPost_ret (v := .tuple #[.agg #[.slice A1 l1.length c1], .agg #[.slice A2 l2.length c2], .bool true]) (by simp [results, Try.results10, go_sem, r1_, r2_]) rfl ⟨A1, c1, A2, c2, mid, rfl, by omega, hk5_.out, own_base OF1.out (by omega), q12, OF2.out, hb5.out⟩
      refine AllReadyH.cons (o := ⟨some 9, _, _, _, _, _⟩) rfl (fun K hK => ?_) ?_
      · skip
        obtain ⟨k8, hk8⟩ : ∃ q, q = v3.heap.size := ⟨_, rfl⟩
        have lo8 : w.heap.size + 3 ≤ k8 := by rw [hk8]; exact S0.2.2.1.lt
        have n18 : ∀ g, (Value.slice A1 m1 c1).ownBlock = some g → g ≠ k8 := fun g hg => by have := (O1.lt g hg).2; omega
        have n89 : k8 ≠ k9 := by have := H9.lt; omega
        have H8 := Blk.Holds.box v3 #[.slice none 0 0] 28 hk8
        have hb_ := below1 v3 (Obj.cells #[.slice none 0 0] 28)
        replace O1 := own_below O1 hb_
        replace H9 := H9.later hb_
        replace S0 := HO _ _ S0 hb_
        clear hb_
        go_simp
        try rw [← hk8]
        generalize v3.alloc (Obj.cells #[.slice none 0 0] 28) = v8 at *
        clear hk8
        refine hK.out _ _ S0.1.1 (fun hHeld => ?_)
        clear hK K
        try simp only [Act.put, List.setIfInBounds_toArray, List.set_cons_zero, List.set_cons_succ]
        refine wpAnyH_ready (rs := [7]) (by kernel_rfl) (by simp) ?_
        refine AllReadyH.cons (o := ⟨some 25, _, _, _, _, _⟩) rfl (fun K hK => ?_) ?_
        rotate_left 1
        · exact AllReadyH.nil
        go_simp
        go_at_call 31
        refine (QQ.out _ (S0.2.2.2.1.wide S0.2.2.2.2.size)).mono ?_
        rintro e v7 ⟨A2, c2, rfl, O2, hb_⟩
        have hzc_ : w.heap.size + 3 ≤ v8.heap.size := S0.2.2.1.lt
        have n28 : ∀ g, (Value.slice A2 m2 c2).ownBlock = some g → g ≠ k8 := fun g hg => by have := (O2.lt g hg).1; have := H8.lt; omega
        have n29 : ∀ g, (Value.slice A2 m2 c2).ownBlock = some g → g ≠ k9 := fun g hg => by have := (O2.lt g hg).1; have := H9.lt; omega
        obtain ⟨mid, hmid⟩ : ∃ q, q = v8.heap.size := ⟨_, rfl⟩
        rw [← hmid] at O2
        have q12 : ∀ g, (Value.slice A1 m1 c1).ownBlock = some g → g < mid := fun g hg => by have := (O1.lt g hg).2; omega
        have lom : w.heap.size + 3 ≤ mid := by omega
        have hmy : mid ≤ v7.heap.size := by rw [hmid]; exact hb_.size
        clear hmid
        replace O1 := own_below O1 hb_
        replace H8 := H8.later hb_
        replace H9 := H9.later hb_
        replace S0 := HO _ _ S0 hb_
        clear hb_ hzc_
        refine hK.out _ _ S0.1.1 (fun hHeld => ?_)
        clear hK K
        try simp only [Act.put, List.setIfInBounds_toArray, List.set_cons_zero, List.set_cons_succ]
        refine wpAnyH_ready (rs := [10]) (by kernel_rfl) (by simp) ?_
        refine AllReadyH.cons (o := ⟨none, _, _, _, _, _⟩) rfl (fun K hK => ?_) ?_
        rotate_left 1
        · exact AllReadyH.nil
        obtain ⟨_, _⟩ := H8.one
        have hg_ := grown_set v7 k8 0 (.slice A1 m1 c1)
        have hb_ := below_set v7 (w.heap.size + 3) k8 0 (.slice A1 m1 c1) lo8
        have hs_ := hb_.size
        replace O1 := kept_ne O1 hg_ n18
        replace O2 := kept_ne O2 hg_ n28
        replace H8 : Holds (v7.setCell ⟨k8, 0, none⟩ (.slice A1 m1 c1)) k8 #[(.slice A1 m1 c1)] 28 := Blk.set_own H8 0 (.slice A1 m1 c1)
        replace H9 := H9.far ⟨k8, 0, none⟩ (.slice A1 m1 c1) (fun e => n89 e.symm)
        replace S0 := HO3 _ _ S0 hb_
        replace hmy := Nat.le_trans hmy hb_.size
        go_simp
        generalize v7.setCell ⟨k8, 0, none⟩ (.slice A1 m1 c1) = v10 at *
        clear hg_ hb_ hs_
        refine hK.out _ _ S0.1.1 (fun hHeld => ?_)
        clear hK K
        try simp only [Act.put, List.setIfInBounds_toArray, List.set_cons_zero, List.set_cons_succ]
        refine wpAnyH_ready (rs := [11]) (by kernel_rfl) (by simp) ?_
        refine AllReadyH.cons (o := ⟨none, _, _, _, _, _⟩) rfl (fun K hK => ?_) ?_
        rotate_left 1
        · exact AllReadyH.nil
        obtain ⟨_, _⟩ := H9.one
        have hg_ := grown_set v10 k9 0 (.slice A2 m2 c2)
        have hb_ := below_set v10 (w.heap.size + 3) k9 0 (.slice A2 m2 c2) lo9
        have hs_ := hb_.size
        replace O1 := kept_ne O1 hg_ n19
        replace O2 := kept_ne O2 hg_ n29
        replace H9 : Holds (v10.setCell ⟨k9, 0, none⟩ (.slice A2 m2 c2)) k9 #[(.slice A2 m2 c2)] 28 := Blk.set_own H9 0 (.slice A2 m2 c2)
        replace H8 := H8.far ⟨k9, 0, none⟩ (.slice A2 m2 c2) n89
        replace S0 := HO3 _ _ S0 hb_
        replace hmy := Nat.le_trans hmy hb_.size
        go_simp
        generalize v10.setCell ⟨k9, 0, none⟩ (.slice A2 m2 c2) = v11 at *
        clear hg_ hb_ hs_
        refine hK.out _ _ S0.1.1 (fun hHeld => ?_)
        clear hK K
        try simp only [Act.put, List.setIfInBounds_toArray, List.set_cons_zero, List.set_cons_succ]
        refine wpAnyH_done (by kernel_rfl) ?_ _
        obtain ⟨⟨_, _⟩, _⟩ := id S0
        obtain ⟨_, _⟩ := H8.one
        obtain ⟨_, _⟩ := H9.one
        go_wp2_with fail
        refine (RoomOkImpl.roomOk A1 m1 c1 _ p1 hm1.out hs1 (own_ptsC O1 hm1.out)).mono ?_
        rintro e x4 ⟨rfl, hb_⟩
        replace O1 := own_below O1 hb_
        replace O2 := own_below O2 hb_
        replace H8 := H8.later hb_
        replace H9 := H9.later hb_
        replace hmy := Nat.le_trans hmy hb_.size
        replace S0 := HO _ _ S0 hb_
        clear hb_
        obtain ⟨⟨_, _⟩, _⟩ := id S0
        obtain ⟨_, _⟩ := H8.one
        obtain ⟨_, _⟩ := H9.one
        cases q1 : roomB p1
        · obtain ⟨rfl, rfl, rfl⟩ := HN.out (by rw [HB.out, q1]; rfl)
          have hR := two_set S0.2.1 S0.2.2.1 (by omega) (.slice none 0 0) (.slice none 0 0)
          obtain ⟨_, _⟩ := S0.2.1.one
          obtain ⟨_, _⟩ := hR.1.one
          obtain ⟨r1_, _⟩ := hR.2.1.one
          obtain ⟨r2_, _⟩ := hR.2.2.one
          have hb4 := Lib.hid (S0.2.2.2.2.trans ((below_set x4 w.heap.size (w.heap.size + 1) 0 (.slice none 0 0) (by omega)).trans (below_set _ w.heap.size (w.heap.size + 1 + 1) 0 (.slice none 0 0) (by omega))))
          clear hR HN HY HB
          go_wp2_with fail
          refine bodyPost_ret (v := .tuple #[.agg #[.slice none 0 0], .agg #[.slice none 0 0], .bool false]) (by simp [results, Try.results10, go_sem, r1_, r2_]) rfl ⟨none, 0, none, 0, w.heap.size, rfl, Nat.le_refl _, hb4.out.size, World.ownsRow_nil _ _ _ _, (fun k h => by cases h), World.ownsRow_nil _ _ _ _, hb4.out⟩
        go_wp2_with fail
        refine (RoomOkImpl.roomOk A2 m2 c2 _ p2 hm2.out hs2 (own_ptsC O2 hm2.out)).mono ?_
        rintro e x5 ⟨rfl, hb_⟩
        replace O1 := own_below O1 hb_
        replace O2 := own_below O2 hb_
        replace H8 := H8.later hb_
        replace H9 := H9.later hb_
        replace hmy := Nat.le_trans hmy hb_.size
        replace S0 := HO _ _ S0 hb_
        clear hb_
        obtain ⟨⟨_, _⟩, _⟩ := id S0
        obtain ⟨_, _⟩ := H8.one
        obtain ⟨_, _⟩ := H9.one
        cases q2 : roomB p2
        · obtain ⟨rfl, rfl, rfl⟩ := HN.out (by rw [HB.out, q1, q2]; rfl)
          have hR := two_set S0.2.1 S0.2.2.1 (by omega) (.slice none 0 0) (.slice none 0 0)
          obtain ⟨_, _⟩ := S0.2.1.one
          obtain ⟨_, _⟩ := hR.1.one
          obtain ⟨r1_, _⟩ := hR.2.1.one
          obtain ⟨r2_, _⟩ := hR.2.2.one
          have hb4 := Lib.hid (S0.2.2.2.2.trans ((below_set x5 w.heap.size (w.heap.size + 1) 0 (.slice none 0 0) (by omega)).trans (below_set _ w.heap.size (w.heap.size + 1 + 1) 0 (.slice none 0 0) (by omega))))
          clear hR HN HY HB
          go_wp2_with fail
          refine bodyPost_ret (v := .tuple #[.agg #[.slice none 0 0], .agg #[.slice none 0 0], .bool false]) (by simp [results, Try.results10, go_sem, r1_, r2_]) rfl ⟨none, 0, none, 0, w.heap.size, rfl, Nat.le_refl _, hb4.out.size, World.ownsRow_nil _ _ _ _, (fun k h => by cases h), World.ownsRow_nil _ _ _ _, hb4.out⟩
        obtain ⟨rfl, rfl, rfl⟩ := HY.out (by rw [HB.out, q1, q2]; rfl)
        have hmx : mid ≤ x5.heap.size := hmy
        have hR := two_set S0.2.1 S0.2.2.1 (by omega) (.slice A1 m1 c1) (.slice A2 m2 c2)
        obtain ⟨_, _⟩ := S0.2.1.one
        obtain ⟨_, _⟩ := S0.2.2.1.one
        obtain ⟨_, _⟩ := hR.1.one
        obtain ⟨r1_, _⟩ := hR.2.1.one
        obtain ⟨r2_, _⟩ := hR.2.2.one
        obtain ⟨_, _⟩ := (H9.far ⟨w.heap.size + 1, 0, none⟩ (.slice A1 m1 c1) (fun e => by have e : k9 = w.heap.size + 1 := e; omega)).one
        have OF1 := Lib.hid (own_set (own_set O1 (w.heap.size + 1) 0 (.slice A1 m1 c1) (by omega)) (w.heap.size + 1 + 1) 0 (.slice A2 m2 c2) (by omega))
        have OF2 := Lib.hid (own_set (own_set O2 (w.heap.size + 1) 0 (.slice A1 m1 c1) (by omega)) (w.heap.size + 1 + 1) 0 (.slice A2 m2 c2) (by omega))
        have hb3 := ((below_set x5 w.heap.size (w.heap.size + 1) 0 (.slice A1 m1 c1) (by omega)).trans (below_set _ w.heap.size (w.heap.size + 1 + 1) 0 (.slice A2 m2 c2) (by omega)))
        have hb5 := Lib.hid ((S0.2.2.2.2.trans hb3).trans (⟨rfl, rfl, rfl, Nat.le_refl _, fun _ _ => rfl⟩ : Below w.heap.size ((x5.setCell ⟨w.heap.size + 1, 0, none⟩ (.slice A1 m1 c1)).setCell ⟨w.heap.size + 1 + 1, 0, none⟩ (.slice A2 m2 c2)) ((x5.setCell ⟨w.heap.size + 1, 0, none⟩ (.slice A1 m1 c1)).setCell ⟨w.heap.size + 1 + 1, 0, none⟩ (.slice A2 m2 c2)).drew))
        have hk5_ := Lib.hid (Nat.le_trans hmx hb3.size)
        have hm3 := hm1.out
        have hm4 := hm2.out
        subst hm3 hm4
        clear hR HN HY HB hb3
        go_wp2_with fail
        go_region
        go_wp2_with fail
        refine bodyPost_ret (v := .tuple #[.agg #[.slice A1 l1.length c1], .agg #[.slice A2 l2.length c2], .bool true]) (by simp [results, Try.results10, go_sem, r1_, r2_]) rfl ⟨A1, c1, A2, c2, mid, rfl, by omega, hk5_.out, own_base OF1.out (by omega), q12, OF2.out, hb5.out⟩
      exact AllReadyH.nil
    refine AllReadyH.cons (o := ⟨some 9, _, _, _, _, _⟩) rfl (fun K hK => ?_) ?_
    · skip
      obtain ⟨k8, hk8⟩ : ∃ q, q = v9.heap.size := ⟨_, rfl⟩
      have lo8 : w.heap.size + 3 ≤ k8 := by rw [hk8]; exact S0.2.2.1.lt
      have n89 : k8 ≠ k9 := by have := H9.lt; omega
      have H8 := Blk.Holds.box v9 #[.slice none 0 0] 28 hk8
      have hb_ := below1 v9 (Obj.cells #[.slice none 0 0] 28)
      replace H9 := H9.later hb_
      replace S0 := HO _ _ S0 hb_
      clear hb_
      go_simp
      try rw [← hk8]
      generalize v9.alloc (Obj.cells #[.slice none 0 0] 28) = v8 at *
      clear hk8
      refine hK.out _ _ S0.1.1 (fun hHeld => ?_)
      clear hK K
      try simp only [Act.put, List.setIfInBounds_toArray, List.set_cons_zero, List.set_cons_succ]
      refine wpAnyH_ready (rs := [3]) (by kernel_rfl) (by simp) ?_
      refine AllReadyH.cons (o := ⟨some 21, _, _, _, _, _⟩) rfl (fun K hK => ?_) ?_
      rotate_left 1
      · exact AllReadyH.nil
      go_simp
      go_at_call 31
      refine (QP.out _ (S0.2.2.2.1.wide S0.2.2.2.2.size)).mono ?_
      rintro e v3 ⟨A1, c1, rfl, O1, hb_⟩
      have hzc_ : w.heap.size + 3 ≤ v8.heap.size := S0.2.2.1.lt
      have n18 : ∀ g, (Value.slice A1 m1 c1).ownBlock = some g → g ≠ k8 := fun g hg => by have := (O1.lt g hg).1; have := H8.lt; omega
      have n19 : ∀ g, (Value.slice A1 m1 c1).ownBlock = some g → g ≠ k9 := fun g hg => by have := (O1.lt g hg).1; have := H9.lt; omega
      replace O1 := own_base O1 (b' := w.heap.size + 3) hzc_
      replace H8 := H8.later hb_
      replace H9 := H9.later hb_
      replace S0 := HO _ _ S0 hb_
      clear hb_ hzc_
      refine hK.out _ _ S0.1.1 (fun hHeld => ?_)
      clear hK K
      try simp only [Act.put, List.setIfInBounds_toArray, List.set_cons_zero, List.set_cons_succ]
      refine wpAnyH_ready (rs := [7]) (by kernel_rfl) (by simp) ?_
      refine AllReadyH.cons (o := ⟨some 25, _, _, _, _, _⟩) rfl (fun K hK => ?_) ?_
      rotate_left 1
      · exact AllReadyH.nil
      go_simp
      go_at_call 31
      refine (QQ.out _ (S0.2.2.2.1.wide S0.2.2.2.2.size)).mono ?_
      rintro e v7 ⟨A2, c2, rfl, O2, hb_⟩
      have hzc_ : w.heap.size + 3 ≤ v3.heap.size := S0.2.2.1.lt
      have n28 : ∀ g, (Value.slice A2 m2 c2).ownBlock = some g → g ≠ k8 := fun g hg => by have := (O2.lt g hg).1; have := H8.lt; omega
      have n29 : ∀ g, (Value.slice A2 m2 c2).ownBlock = some g → g ≠ k9 := fun g hg => by have := (O2.lt g hg).1; have := H9.lt; omega
      obtain ⟨mid, hmid⟩ : ∃ q, q = v3.heap.size := ⟨_, rfl⟩
      rw [← hmid] at O2
      have q12 : ∀ g, (Value.slice A1 m1 c1).ownBlock = some g → g < mid := fun g hg => by have := (O1.lt g hg).2; omega
      have lom : w.heap.size + 3 ≤ mid := by omega
      have hmy : mid ≤ v7.heap.size := by rw [hmid]; exact hb_.size
      clear hmid
      replace O1 := own_below O1 hb_
      replace H8 := H8.later hb_
      replace H9 := H9.later hb_
      replace S0 := HO _ _ S0 hb_
      clear hb_ hzc_
      refine hK.out _ _ S0.1.1 (fun hHeld => ?_)
      clear hK K
      try simp only [Act.put, List.setIfInBounds_toArray, List.set_cons_zero, List.set_cons_succ]
      refine wpAnyH_ready (rs := [10]) (by kernel_rfl) (by simp) ?_
      refine AllReadyH.cons (o := ⟨none, _, _, _, _, _⟩) rfl (fun K hK => ?_) ?_
      rotate_left 1
      · exact AllReadyH.nil
      obtain ⟨_, _⟩ := H8.one
      have hg_ := grown_set v7 k8 0 (.slice A1 m1 c1)
      have hb_ := below_set v7 (w.heap.size + 3) k8 0 (.slice A1 m1 c1) lo8
      have hs_ := hb_.size
      replace O1 := kept_ne O1 hg_ n18
      replace O2 := kept_ne O2 hg_ n28
      replace H8 : Holds (v7.setCell ⟨k8, 0, none⟩ (.slice A1 m1 c1)) k8 #[(.slice A1 m1 c1)] 28 := Blk.set_own H8 0 (.slice A1 m1 c1)
      replace H9 := H9.far ⟨k8, 0, none⟩ (.slice A1 m1 c1) (fun e => n89 e.symm)
      replace S0 := HO3 _ _ S0 hb_
      replace hmy := Nat.le_trans hmy hb_.size
      go_simp
      generalize v7.setCell ⟨k8, 0, none⟩ (.slice A1 m1 c1) = v10 at *
      clear hg_ hb_ hs_
      refine hK.out _ _ S0.1.1 (fun hHeld => ?_)
      clear hK K
      try simp only [Act.put, List.setIfInBounds_toArray, List.set_cons_zero, List.set_cons_succ]
      refine wpAnyH_ready (rs := [11]) (by kernel_rfl) (by simp) ?_
      refine AllReadyH.cons (o := ⟨none, _, _, _, _, _⟩) rfl (fun K hK => ?_) ?_
      rotate_left 1
      · exact AllReadyH.nil
      obtain ⟨_, _⟩ := H9.one
      have hg_ := grown_set v10 k9 0 (.slice A2 m2 c2)
      have hb_ := below_set v10 (w.heap.size + 3) k9 0 (.slice A2 m2 c2) lo9
      have hs_ := hb_.size
      replace O1 := kept_ne O1 hg_ n19
      replace O2 := kept_ne O2 hg_ n29
      replace H9 : Holds (v10.setCell ⟨k9, 0, none⟩ (.slice A2 m2 c2)) k9 #[(.slice A2 m2 c2)] 28 := Blk.set_own H9 0 (.slice A2 m2 c2)
      replace H8 := H8.far ⟨k9, 0, none⟩ (.slice A2 m2 c2) n89
      replace S0 := HO3 _ _ S0 hb_
      replace hmy := Nat.le_trans hmy hb_.size
      go_simp
      generalize v10.setCell ⟨k9, 0, none⟩ (.slice A2 m2 c2) = v11 at *
      clear hg_ hb_ hs_
      refine hK.out _ _ S0.1.1 (fun hHeld => ?_)
      clear hK K
      try simp only [Act.put, List.setIfInBounds_toArray, List.set_cons_zero, List.set_cons_succ]
      refine wpAnyH_done (by kernel_rfl) ?_ _
      obtain ⟨⟨_, _⟩, _⟩ := id S0
      obtain ⟨_, _⟩ := H8.one
      obtain ⟨_, _⟩ := H9.one
      go_wp2_with fail
      refine (RoomOkImpl.roomOk A1 m1 c1 _ p1 hm1.out hs1 (own_ptsC O1 hm1.out)).mono ?_
      rintro e x4 ⟨rfl, hb_⟩
      replace O1 := own_below O1 hb_
      replace O2 := own_below O2 hb_
      replace H8 := H8.later hb_
      replace H9 := H9.later hb_
      replace hmy := Nat.le_trans hmy hb_.size
      replace S0 := HO _ _ S0 hb_
      clear hb_
      obtain ⟨⟨_, _⟩, _⟩ := id S0
      obtain ⟨_, _⟩ := H8.one
      obtain ⟨_, _⟩ := H9.one
      cases q1 : roomB p1
      · obtain ⟨rfl, rfl, rfl⟩ := HN.out (by rw [HB.out, q1]; rfl)
        have hR := two_set S0.2.1 S0.2.2.1 (by omega) (.slice none 0 0) (.slice none 0 0)
        obtain ⟨_, _⟩ := S0.2.1.one
        obtain ⟨_, _⟩ := hR.1.one
        obtain ⟨r1_, _⟩ := hR.2.1.one
        obtain ⟨r2_, _⟩ := hR.2.2.one
        have hb4 := Lib.hid (S0.2.2.2.2.trans ((below_set x4 w.heap.size (w.heap.size + 1) 0 (.slice none 0 0) (by omega)).trans (below_set _ w.heap.size (w.heap.size + 1 + 1) 0 (.slice none 0 0) (by omega))))
        clear hR HN HY HB
        go_wp2_with fail
        refine bodyPost_ret (v := .tuple #[.agg #[.slice none 0 0], .agg #[.slice none 0 0], .bool false]) (by simp [results, Try.results10, go_sem, r1_, r2_]) rfl ⟨none, 0, none, 0, w.heap.size, rfl, Nat.le_refl _, hb4.out.size, World.ownsRow_nil _ _ _ _, (fun k h => by cases h), World.ownsRow_nil _ _ _ _, hb4.out⟩
      go_wp2_with fail
      refine (RoomOkImpl.roomOk A2 m2 c2 _ p2 hm2.out hs2 (own_ptsC O2 hm2.out)).mono ?_
      rintro e x5 ⟨rfl, hb_⟩
      replace O1 := own_below O1 hb_
      replace O2 := own_below O2 hb_
      replace H8 := H8.later hb_
      replace H9 := H9.later hb_
      replace hmy := Nat.le_trans hmy hb_.size
      replace S0 := HO _ _ S0 hb_
      clear hb_
      obtain ⟨⟨_, _⟩, _⟩ := id S0
      obtain ⟨_, _⟩ := H8.one
      obtain ⟨_, _⟩ := H9.one
      cases q2 : roomB p2
      · obtain ⟨rfl, rfl, rfl⟩ := HN.out (by rw [HB.out, q1, q2]; rfl)
        have hR := two_set S0.2.1 S0.2.2.1 (by omega) (.slice none 0 0) (.slice none 0 0)
        obtain ⟨_, _⟩ := S0.2.1.one
        obtain ⟨_, _⟩ := hR.1.one
        obtain ⟨r1_, _⟩ := hR.2.1.one
        obtain ⟨r2_, _⟩ := hR.2.2.one
        have hb4 := Lib.hid (S0.2.2.2.2.trans ((below_set x5 w.heap.size (w.heap.size + 1) 0 (.slice none 0 0) (by omega)).trans (below_set _ w.heap.size (w.heap.size + 1 + 1) 0 (.slice none 0 0) (by omega))))
        clear hR HN HY HB
        go_wp2_with fail
        refine bodyPost_ret (v := .tuple #[.agg #[.slice none 0 0], .agg #[.slice none 0 0], .bool false]) (by simp [results, Try.results10, go_sem, r1_, r2_]) rfl ⟨none, 0, none, 0, w.heap.size, rfl, Nat.le_refl _, hb4.out.size, World.ownsRow_nil _ _ _ _, (fun k h => by cases h), World.ownsRow_nil _ _ _ _, hb4.out⟩
      obtain ⟨rfl, rfl, rfl⟩ := HY.out (by rw [HB.out, q1, q2]; rfl)
      have hmx : mid ≤ x5.heap.size := hmy
      have hR := two_set S0.2.1 S0.2.2.1 (by omega) (.slice A1 m1 c1) (.slice A2 m2 c2)
      obtain ⟨_, _⟩ := S0.2.1.one
      obtain ⟨_, _⟩ := S0.2.2.1.one
      obtain ⟨_, _⟩ := hR.1.one
      obtain ⟨r1_, _⟩ := hR.2.1.one
      obtain ⟨r2_, _⟩ := hR.2.2.one
      obtain ⟨_, _⟩ := (H9.far ⟨w.heap.size + 1, 0, none⟩ (.slice A1 m1 c1) (fun e => by have e : k9 = w.heap.size + 1 := e; omega)).one
      have OF1 := Lib.hid (own_set (own_set O1 (w.heap.size + 1) 0 (.slice A1 m1 c1) (by omega)) (w.heap.size + 1 + 1) 0 (.slice A2 m2 c2) (by omega))
      have OF2 := Lib.hid (own_set (own_set O2 (w.heap.size + 1) 0 (.slice A1 m1 c1) (by omega)) (w.heap.size + 1 + 1) 0 (.slice A2 m2 c2) (by omega))
      have hb3 := ((below_set x5 w.heap.size (w.heap.size + 1) 0 (.slice A1 m1 c1) (by omega)).trans (below_set _ w.heap.size (w.heap.size + 1 + 1) 0 (.slice A2 m2 c2) (by omega)))
      have hb5 := Lib.hid ((S0.2.2.2.2.trans hb3).trans (⟨rfl, rfl, rfl, Nat.le_refl _, fun _ _ => rfl⟩ : Below w.heap.size ((x5.setCell ⟨w.heap.size + 1, 0, none⟩ (.slice A1 m1 c1)).setCell ⟨w.heap.size + 1 + 1, 0, none⟩ (.slice A2 m2 c2)) ((x5.setCell ⟨w.heap.size + 1, 0, none⟩ (.slice A1 m1 c1)).setCell ⟨w.heap.size + 1 + 1, 0, none⟩ (.slice A2 m2 c2)).drew))
      have hk5_ := Lib.hid (Nat.le_trans hmx hb3.size)
      have hm3 := hm1.out
      have hm4 := hm2.out
      subst hm3 hm4
      clear hR HN HY HB hb3
      go_wp2_with fail
      go_region
      go_wp2_with fail
      refine bodyPost_ret (v := .tuple #[.agg #[.slice A1 l1.length c1], .agg #[.slice A2 l2.length c2], .bool true]) (by simp [results, Try.results10, go_sem, r1_, r2_]) rfl ⟨A1, c1, A2, c2, mid, rfl, by omega, hk5_.out, own_base OF1.out (by omega), q12, OF2.out, hb5.out⟩
    exact AllReadyH.nil
  exact AllReadyH.nil
end Go.Proofs.Ytmmmnnncbpdinaa.CutImpl


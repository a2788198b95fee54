/-
  What the model's functions on places do, as contracts: what each answers; new memory alone is written.
-/
import Derived.Test.YthokeedmccfalaaWallOfSpec
import Derived.Test.YthokeedmccfalaaFacts
namespace Go.Proofs.Ythokeedmccfalaa.PlaceSpec
open Go.RowKit PointMath WallMath RoomMath Pts Blk AreaMath PlaceMath
open PointOk (ret_bool ret_i64 below1 below2 below3)

set_option maxRecDepth 100000 in
set_option maxHeartbeats 4000000 in
theorem holds (A : Option Addr) (n cap : Nat) (px py : Int) (w : World) (ps : List (Int × Int)) (hl : ps.length = n) (hn : n ≤ 1048576) (hs : smAll ps) (sp : smP px py) (hp : PtsAt w w.heap.size A ps) :
    Calls Try.prog 125 #[.slice A n cap, .agg #[.int .i64 px, .int .i64 py]] w fun e w' => e = .returned (.int .i64 (placeM ps (px, py) - 1)) ∧ Below w.heap.size w w' := by
  obtain ⟨r, hr⟩ : ∃ r, placeM ps (px, py) - 1 = r := ⟨_, rfl⟩
  have HR := Lib.hid hr
  rw [hr]
  clear hr
  go_enter Try.func125, Try.ntmps125
  go_wp2_with fail
  have X0 := PointOk.box1 w px py 49 (k := w.heap.size) (by simp)
  have b0 := PointOk.below1 w (Obj.cells #[.int .i64 px, .int .i64 py] 49)
  have HO : ∀ W W' : World, (PointOk.Box W (w.heap.size) px py ∧ PtsAt W w.heap.size A ps ∧ Below w.heap.size w W) → Below W.heap.size W W' → (PointOk.Box W' (w.heap.size) px py ∧ PtsAt W' w.heap.size A ps ∧ Below w.heap.size w W') := fun W W' ⟨h0, x0, hb⟩ h => ⟨h0.later h, x0.later (h.mono hb.size), hb.trans (h.mono hb.size)⟩
  have hz0_ : Hid (((w.alloc (Obj.cells #[.int .i64 px, .int .i64 py] 49))).heap.size = w.heap.size + 1) := Lib.hid (by simp)
  have Y0 : PtsAt ((w.alloc (Obj.cells #[.int .i64 px, .int .i64 py] 49))) w.heap.size A ps := hp.later b0
  generalize (w.alloc (Obj.cells #[.int .i64 px, .int .i64 py] 49)) = w0 at X0 Y0 b0 hz0_ ⊢
  have S0 := (⟨X0, Y0, b0⟩ : PointOk.Box w0 (w.heap.size) px py ∧ PtsAt w0 w.heap.size A ps ∧ Below w.heap.size w w0)
  clear X0 Y0 b0
  obtain ⟨⟨_, _⟩, _, _⟩ := id S0
  go_loopw [5, 7] (fun a b wr => ∃ (k : Nat) (s : Int), k ≤ n ∧ a = .int .i64 s ∧ b = .int .i64 k ∧ Hid (s = if parS ps (px, py) k then 1 else -1) ∧ Hid (∀ j, j < k → onK ps (px, py) j = false) ∧ (PointOk.Box wr (w.heap.size) px py ∧ PtsAt wr w.heap.size A ps ∧ Below w.heap.size w wr))
    (fun _ i _ => n - (intOf i).toNat)
  case atStart => exact ⟨0, -1, Nat.zero_le _, rfl, rfl, Lib.hid rfl, Lib.hid (fun j hj => absurd hj (by omega)), S0⟩
  case round =>
    clear S0
    obtain ⟨k, s, hk, rfl, rfl, hpar, hno, S0⟩ := hrel
    obtain ⟨⟨_, _⟩, _, _⟩ := id S0
    by_cases hkn : k < n
    · have hm : (k + 1) % n < n := Nat.mod_lt _ (by omega)
      have p0 := pt_at (ps := ps) (k := k) (by omega)
      have p1 := pt_at (ps := ps) (k := (k + 1) % n) (by omega)
      have s0 := hs k (by omega)
      have s1 := hs ((k + 1) % n) (by omega)
      have HK : Hid (onK ps (px, py) k = btwP (px, py) (pt ps k) (pt ps ((k + 1) % n))) := Lib.hid (by unfold onK; rw [hl])
      have HP : Hid (parS ps (px, py) (k + 1) = (parS ps (px, py) k ^^ riseS (pt ps k) (pt ps ((k + 1) % n)) (px, py))) := Lib.hid (by rw [← hl]; rfl)
      have e1 := succ_emod n k
      have e1t : ((k : Int) + 1).tmod (n : Int) = (((k + 1) % n : Nat) : Int) := by rw [Int.tmod_eq_emod_of_nonneg (by omega)]; exact e1
      generalize (k + 1) % n = m at *
      obtain ⟨ax, ay, ha⟩ : ∃ x y, pt ps k = (x, y) := ⟨_, _, rfl⟩
      obtain ⟨bx, bY, hb⟩ : ∃ x y, pt ps m = (x, y) := ⟨_, _, rfl⟩
      rw [ha] at p0 s0 HK HP
      rw [hb] at p1 s1 HK HP
      obtain ⟨ad, eA, bA, pA⟩ := S0.2.1.get p0
      obtain ⟨ad2, eA2, _, pB⟩ := S0.2.1.get p1
      rw [eA] at eA2
      injection eA2 with eA2
      subst eA2
      subst eA
      have hk1 : (k : Int) < (n : Int) := by omega
      have hk0 : (0 : Int) ≤ (k : Int) := by omega
      have hm1 : (m : Int) < (n : Int) := by omega
      have hm0 : (0 : Int) ≤ (m : Int) := by omega
      have hn0 : ¬ ((n : Int) = 0) := by omega
      have hn1 : ¬ (n = 0) := by omega
      have uk : IntKind.i64.wrap ((k : Int) + 1) = (k : Int) + 1 := IntWalk.i64_in _ (by omega)
      have QB : Hid (∀ w, _) := Lib.hid fun w => PointSpec.l02Btw px py ax ay bx bY sp s0 s1 w
      have QT : Hid (∀ w, _) := Lib.hid fun w => PointSpec.l02Turn ax ay bx bY px py s0 s1 sp w
      obtain ⟨o, ho⟩ : ∃ o, btwB px py ax ay bx bY = o := ⟨_, rfl⟩
      obtain ⟨t, ht⟩ : ∃ t, turnI ax ay bx bY px py = t := ⟨_, rfl⟩
      rw [ho] at QB
      rw [ht] at QT
      replace HK : Hid (onK ps (px, py) k = o) := Lib.hid (by rw [HK.out, ← ho]; rfl)
      replace HP : Hid (parS ps (px, py) (k + 1) = (parS ps (px, py) k ^^ (decide (ay ≤ py) && decide (py < bY) && decide (0 < t) || decide (bY ≤ py) && decide (py < ay) && decide (t < 0)))) := Lib.hid (by rw [HP.out, ← ht]; rfl)
      have hs1 : s = 1 ∨ s = -1 := by rw [hpar.out]; split <;> simp
      have us : IntKind.i64.wrap (-s) = -s := IntWalk.i64_in _ (by omega)
      clear ha hb p0 p1 s0 s1 ho ht
      have HO : ∀ W W' : World, (PointOk.Box W (w.heap.size) px py ∧ PtsAt W w.heap.size (some ad) ps ∧ PtAt W ad k ax ay ∧ PtAt W ad m bx bY ∧ Below w.heap.size w W) → Below W.heap.size W W' → (PointOk.Box W' (w.heap.size) px py ∧ PtsAt W' w.heap.size (some ad) ps ∧ PtAt W' ad k ax ay ∧ PtAt W' ad m bx bY ∧ Below w.heap.size w W') := fun W W' ⟨h0, x0, x1, x2, hb⟩ h => ⟨h0.later h, x0.later (h.mono hb.size), x1.later bA (h.mono hb.size), x2.later bA (h.mono hb.size), hb.trans (h.mono hb.size)⟩
      have pB1 := pB.later bA ((below1 wr (Obj.cells #[.int .i64 ax, .int .i64 ay] 49)).mono S0.2.2.size)
      replace S0 : PointOk.Box wr (w.heap.size) px py ∧ PtsAt wr w.heap.size (some ad) ps ∧ PtAt wr ad k ax ay ∧ PtAt wr ad m bx bY ∧ Below w.heap.size w wr := ⟨S0.1, S0.2.1, pA, pB, S0.2.2⟩
      clear pA pB
      obtain ⟨_, _⟩ := pB1
      obtain ⟨⟨_, _⟩, _, ⟨_, _⟩, ⟨_, _⟩, _⟩ := id S0
      have X1 := (PointOk.box1 wr ax ay 49 (k := wr.heap.size) rfl).alloc (Obj.cells #[.int .i64 bx, .int .i64 bY] 49)
      have X2 := PointOk.box1 (wr.alloc (Obj.cells #[.int .i64 ax, .int .i64 ay] 49)) bx bY 49 (k := wr.heap.size + 1) (by simp)
      replace S0 := HO _ _ S0 (below2 wr (Obj.cells #[.int .i64 ax, .int .i64 ay] 49) (Obj.cells #[.int .i64 bx, .int .i64 bY] 49))
      obtain ⟨⟨_, _⟩, _, ⟨_, _⟩, ⟨_, _⟩, _⟩ := id S0
      obtain ⟨_, _⟩ := id X1
      obtain ⟨_, _⟩ := id X2
      obtain ⟨K_, hK_⟩ : ∃ K, wr.heap.size = K := ⟨_, rfl⟩
      rw [hK_] at X1 X2
      replace hK_ := Lib.hid hK_
      have LT_ := World.block_lt_of_cell? wr (ad.add (k * 2)) (by assumption)
      rw [Pts.block_add] at LT_
      go_wp2_with fail
      generalize (wr.alloc (Obj.cells #[.int .i64 ax, .int .i64 ay] 49)).alloc (Obj.cells #[.int .i64 bx, .int .i64 bY] 49) = W9 at *
      rw [hK_.out]
      have HO : ∀ W W' : World, (PointOk.Box W (w.heap.size) px py ∧ PtsAt W w.heap.size (some ad) ps ∧ PointOk.Box W K_ ax ay ∧ PointOk.Box W (K_ + 1) bx bY ∧ Below w.heap.size w W) → Below W.heap.size W W' → (PointOk.Box W' (w.heap.size) px py ∧ PtsAt W' w.heap.size (some ad) ps ∧ PointOk.Box W' K_ ax ay ∧ PointOk.Box W' (K_ + 1) bx bY ∧ Below w.heap.size w W') := fun W W' ⟨h0, x0, x1, x2, hb⟩ h => ⟨h0.later h, x0.later (h.mono hb.size), x1.later h, x2.later h, hb.trans (h.mono hb.size)⟩
      replace S0 : PointOk.Box W9 (w.heap.size) px py ∧ PtsAt W9 w.heap.size (some ad) ps ∧ PointOk.Box W9 K_ ax ay ∧ PointOk.Box W9 (K_ + 1) bx bY ∧ Below w.heap.size w W9 := ⟨S0.1, S0.2.1, X1, X2, S0.2.2.2.2⟩
      clear X1 X2 LT_
      obtain ⟨⟨_, _⟩, _, ⟨_, _⟩, ⟨_, _⟩, _⟩ := id S0
      refine (QB.out _).mono ?_
      rintro e w1 ⟨rfl, hb_⟩
      replace S0 := HO _ _ S0 hb_
      clear hb_
      obtain ⟨⟨_, _⟩, _, ⟨_, _⟩, ⟨_, _⟩, _⟩ := id S0
      cases o
      rotate_left
      · have E : Hid (r = 0) := Lib.hid (by rw [← HR.out, placeM_on (k := k) (by omega) HK.out]; rfl)
        go_wp2_with fail
        go_ret
        exact ⟨ret_i64 E.out.symm, S0.2.2.2.2⟩
      have hno2 : Hid (∀ j, j < k + 1 → onK ps (px, py) j = false) := Lib.hid (by
        intro j hj
        rcases Nat.lt_or_ge j k with h | h
        · exact hno.out j h
        · obtain rfl : j = k := by omega
          exact HK.out)
      clear hno HK QB
      by_cases h1 : ay ≤ py
      · have g1 : ¬ py < ay := by omega
        by_cases h2 : py < bY
        · have g2 : ¬ bY ≤ py := by omega
          by_cases h3 : 0 < t
          · skip
            have HS2 : Hid (-s = if parS ps (px, py) (k + 1) then 1 else -1) := Lib.hid (by rw [HP.out, hpar.out]; simp [h1, h2, h3, g2]; split <;> simp_all)
            clear HP hpar
            go_wp2_with fail
            refine (QT.out _).mono ?_
            rintro e w2 ⟨rfl, hb_⟩
            replace S0 := HO _ _ S0 hb_
            clear hb_
            obtain ⟨⟨_, _⟩, _, ⟨_, _⟩, ⟨_, _⟩, _⟩ := id S0
            go_wp2_with fail
            first
              | exact ⟨⟨k + 1, -s, by omega, rfl, by go_num, HS2, hno2, S0.1, S0.2.1, S0.2.2.2.2⟩, by simp [intOf]; omega⟩
              | (go_roundw <;> first | exact ⟨k + 1, -s, by omega, rfl, by go_num, HS2, hno2, S0.1, S0.2.1, S0.2.2.2.2⟩ | (simp [intOf]; omega))
          · skip
            have HS2 : Hid (s = if parS ps (px, py) (k + 1) then 1 else -1) := Lib.hid (by rw [HP.out, hpar.out]; simp [h1, h2, h3, g2])
            clear HP hpar
            go_wp2_with fail
            refine (QT.out _).mono ?_
            rintro e w3 ⟨rfl, hb_⟩
            replace S0 := HO _ _ S0 hb_
            clear hb_
            obtain ⟨⟨_, _⟩, _, ⟨_, _⟩, ⟨_, _⟩, _⟩ := id S0
            go_wp2_with fail
            first
              | exact ⟨⟨k + 1, s, by omega, rfl, by go_num, HS2, hno2, S0.1, S0.2.1, S0.2.2.2.2⟩, by simp [intOf]; omega⟩
              | (go_roundw <;> first | exact ⟨k + 1, s, by omega, rfl, by go_num, HS2, hno2, S0.1, S0.2.1, S0.2.2.2.2⟩ | (simp [intOf]; omega))
        · have g2 : bY ≤ py := by omega
          have HS2 : Hid (s = if parS ps (px, py) (k + 1) then 1 else -1) := Lib.hid (by rw [HP.out, hpar.out]; simp [h1, h2, g1, g2])
          clear HP hpar
          go_wp2_with fail
          first
            | exact ⟨⟨k + 1, s, by omega, rfl, by go_num, HS2, hno2, S0.1, S0.2.1, S0.2.2.2.2⟩, by simp [intOf]; omega⟩
            | (go_roundw <;> first | exact ⟨k + 1, s, by omega, rfl, by go_num, HS2, hno2, S0.1, S0.2.1, S0.2.2.2.2⟩ | (simp [intOf]; omega))
      · have g1 : py < ay := by omega
        by_cases h2 : bY ≤ py
        · have g2 : ¬ py < bY := by omega
          by_cases h3 : t < 0
          · skip
            have HS2 : Hid (-s = if parS ps (px, py) (k + 1) then 1 else -1) := Lib.hid (by rw [HP.out, hpar.out]; simp [h1, h2, h3, g1, g2]; split <;> simp_all)
            clear HP hpar
            go_wp2_with fail
            refine (QT.out _).mono ?_
            rintro e w4 ⟨rfl, hb_⟩
            replace S0 := HO _ _ S0 hb_
            clear hb_
            obtain ⟨⟨_, _⟩, _, ⟨_, _⟩, ⟨_, _⟩, _⟩ := id S0
            go_wp2_with fail
            first
              | exact ⟨⟨k + 1, -s, by omega, rfl, by go_num, HS2, hno2, S0.1, S0.2.1, S0.2.2.2.2⟩, by simp [intOf]; omega⟩
              | (go_roundw <;> first | exact ⟨k + 1, -s, by omega, rfl, by go_num, HS2, hno2, S0.1, S0.2.1, S0.2.2.2.2⟩ | (simp [intOf]; omega))
          · skip
            have HS2 : Hid (s = if parS ps (px, py) (k + 1) then 1 else -1) := Lib.hid (by rw [HP.out, hpar.out]; simp [h1, h2, h3, g1, g2])
            clear HP hpar
            go_wp2_with fail
            refine (QT.out _).mono ?_
            rintro e w5 ⟨rfl, hb_⟩
            replace S0 := HO _ _ S0 hb_
            clear hb_
            obtain ⟨⟨_, _⟩, _, ⟨_, _⟩, ⟨_, _⟩, _⟩ := id S0
            go_wp2_with fail
            first
              | exact ⟨⟨k + 1, s, by omega, rfl, by go_num, HS2, hno2, S0.1, S0.2.1, S0.2.2.2.2⟩, by simp [intOf]; omega⟩
              | (go_roundw <;> first | exact ⟨k + 1, s, by omega, rfl, by go_num, HS2, hno2, S0.1, S0.2.1, S0.2.2.2.2⟩ | (simp [intOf]; omega))
        · have g2 : py < bY := by omega
          have HS2 : Hid (s = if parS ps (px, py) (k + 1) then 1 else -1) := Lib.hid (by rw [HP.out, hpar.out]; simp [h1, h2, g1])
          clear HP hpar
          go_wp2_with fail
          first
            | exact ⟨⟨k + 1, s, by omega, rfl, by go_num, HS2, hno2, S0.1, S0.2.1, S0.2.2.2.2⟩, by simp [intOf]; omega⟩
            | (go_roundw <;> first | exact ⟨k + 1, s, by omega, rfl, by go_num, HS2, hno2, S0.1, S0.2.1, S0.2.2.2.2⟩ | (simp [intOf]; omega))
    · obtain rfl : n = k := by omega
      have E : Hid (s = r) := Lib.hid (by rw [← HR.out, placeM_off (by rw [hl]; exact hno.out), hl, hpar.out]; split <;> rfl)
      clear hl HR hpar hno
      go_wp2_with fail
      go_ret
      exact ⟨ret_i64 E.out, S0.2.2⟩

set_option maxRecDepth 100000 in
set_option maxHeartbeats 1600000 in
theorem placeIn (A : Option Addr) (n cap : Nat) (x y : Int) (w : World) (ps : List (Int × Int)) (hl : ps.length = n) (hn : n ≤ 1048576) (hp : PtsAt w w.heap.size A ps) :
    Calls Try.prog 124 #[.agg #[.slice A n cap], .agg #[.int .i64 x, .int .i64 y]] w fun e w' => e = .returned (.int .i64 (placeI ps x y)) ∧ Below w.heap.size w w' := by
  obtain ⟨r, hr⟩ : ∃ r, placeI ps x y = r := ⟨_, rfl⟩
  have HR := Lib.hid hr
  rw [hr]
  clear hr
  go_enter Try.func124, Try.ntmps124
  go_wp2_with fail
  have X0 := (Pts.boxR w (.slice A n cap) 37 (k := w.heap.size) (by simp)).alloc (Obj.cells #[.int .i64 x, .int .i64 y] 49)
  have X1 := PointOk.box1 (w.alloc (Obj.cells #[.slice A n cap] 37)) x y 49 (k := w.heap.size + 1) (by simp)
  have b0 := PointOk.below2 w (Obj.cells #[.slice A n cap] 37) (Obj.cells #[.int .i64 x, .int .i64 y] 49)
  have HO : ∀ W W' : World, (Pts.BoxR W (w.heap.size) (.slice A n cap) ∧ PointOk.Box W (w.heap.size + 1) x y ∧ PtsAt W w.heap.size A ps ∧ Below w.heap.size w W) → Below W.heap.size W W' → (Pts.BoxR W' (w.heap.size) (.slice A n cap) ∧ PointOk.Box W' (w.heap.size + 1) x y ∧ PtsAt W' w.heap.size A ps ∧ Below w.heap.size w W') := fun W W' ⟨h0, h1, x0, hb⟩ h => ⟨h0.later h, h1.later h, x0.later (h.mono hb.size), hb.trans (h.mono hb.size)⟩
  have hz0_ : Hid ((((w.alloc (Obj.cells #[.slice A n cap] 37)).alloc (Obj.cells #[.int .i64 x, .int .i64 y] 49))).heap.size = w.heap.size + 1 + 1) := Lib.hid (by simp)
  have Y0 : PtsAt (((w.alloc (Obj.cells #[.slice A n cap] 37)).alloc (Obj.cells #[.int .i64 x, .int .i64 y] 49))) w.heap.size A ps := hp.later b0
  generalize ((w.alloc (Obj.cells #[.slice A n cap] 37)).alloc (Obj.cells #[.int .i64 x, .int .i64 y] 49)) = w0 at X0 X1 Y0 b0 hz0_ ⊢
  have S0 := (⟨X0, X1, Y0, b0⟩ : Pts.BoxR w0 (w.heap.size) (.slice A n cap) ∧ PointOk.Box w0 (w.heap.size + 1) x y ∧ PtsAt w0 w.heap.size A ps ∧ Below w.heap.size w w0)
  clear X0 X1 Y0 b0
  obtain ⟨⟨_, _⟩, ⟨_, _⟩, _, _⟩ := id S0
  refine (RoomOkSpec.roomOk A n cap _ ps hl hn (S0.2.2.1.wide S0.2.2.2.size)).mono ?_
  rintro e w1 ⟨rfl, hb_⟩
  replace S0 := HO _ _ S0 hb_
  clear hb_
  obtain ⟨⟨_, _⟩, ⟨_, _⟩, _, _⟩ := id S0
  cases hr : roomB ps
  · have E : Hid (r = 0) := Lib.hid (by rw [← HR.out]; unfold placeI; rw [hr]; rfl)
    clear hl HR
    go_wp2_with fail
    go_ret
    exact ⟨ret_i64 E.out.symm, S0.2.2.2⟩
  go_wp2_with fail
  refine (PointOk.pointOk x y _).mono ?_
  rintro e w2 ⟨rfl, hb_⟩
  replace S0 := HO _ _ S0 hb_
  clear hb_
  obtain ⟨⟨_, _⟩, ⟨_, _⟩, _, _⟩ := id S0
  cases ho : okP x y
  · have E : Hid (r = 0) := Lib.hid (by rw [← HR.out]; unfold placeI; rw [ho]; simp)
    clear hl HR
    go_wp2_with fail
    go_ret
    exact ⟨ret_i64 E.out.symm, S0.2.2.2⟩
  obtain ⟨h3, hok, _, _⟩ := roomB_yes hr
  have E : Hid (r = placeM ps (x, y)) := Lib.hid (by rw [← HR.out]; unfold placeI; rw [hr, ho]; rfl)
  have Q : Hid (∀ w hp, _) := Lib.hid fun w hp => holds A n cap x y w ps hl hn (smAll_of hok) (okP_sm ho) hp
  have hb1_ := below1 w2 (Obj.cells #[.int .i64 0, .int .i64 1, .int .i64 2] 3)
  have N := Blk.Holds.box w2 #[.int .i64 0, .int .i64 1, .int .i64 2] 3 rfl
  replace S0 := HO _ _ S0 hb1_
  clear hl HR hr ho hok hb1_
  obtain ⟨⟨_, _⟩, ⟨_, _⟩, _, _⟩ := id S0
  rcases placeM_cases ps (x, y) with h | h | h
  all_goals rw [h] at E Q
  all_goals clear h
  all_goals go_wp2_with fail
  all_goals generalize w2.alloc (Obj.cells #[.int .i64 0, .int .i64 1, .int .i64 2] 3) = w3 at *
  all_goals refine (Q.out _ (S0.2.2.1.wide S0.2.2.2.size)).mono ?_
  all_goals rintro e w4 ⟨rfl, hb_⟩
  all_goals replace S0 := HO _ _ S0 hb_
  all_goals replace N := Blk.Holds.later N hb_
  all_goals clear hb_
  all_goals obtain ⟨_, _, _⟩ := Blk.Holds.three N
  all_goals go_wp2_with fail
  all_goals go_ret
  all_goals exact ⟨ret_i64 E.out.symm, S0.2.2.2⟩

theorem isIn (A : Option Addr) (n cap : Nat) (x y : Int) (w : World) (ps : List (Int × Int)) (hl : ps.length = n) (hn : n ≤ 1048576) (hp : PtsAt w w.heap.size A ps) :
    Calls Try.prog 77 #[.agg #[.slice A n cap], .agg #[.int .i64 x, .int .i64 y]] w fun e w' => e = .returned (.bool (inB ps x y)) ∧ Below w.heap.size w w' := by
  obtain ⟨r, hr⟩ : ∃ r, inB ps x y = r := ⟨_, rfl⟩
  have HR := Lib.hid hr
  rw [hr]
  clear hr
  go_enter Try.func77, Try.ntmps77
  go_wp2_with fail
  have X0 := (Pts.boxR w (.slice A n cap) 37 (k := w.heap.size) (by simp)).alloc (Obj.cells #[.int .i64 x, .int .i64 y] 49)
  have X1 := PointOk.box1 (w.alloc (Obj.cells #[.slice A n cap] 37)) x y 49 (k := w.heap.size + 1) (by simp)
  have b0 := PointOk.below2 w (Obj.cells #[.slice A n cap] 37) (Obj.cells #[.int .i64 x, .int .i64 y] 49)
  have HO : ∀ W W' : World, (Pts.BoxR W (w.heap.size) (.slice A n cap) ∧ PointOk.Box W (w.heap.size + 1) x y ∧ PtsAt W w.heap.size A ps ∧ Below w.heap.size w W) → Below W.heap.size W W' → (Pts.BoxR W' (w.heap.size) (.slice A n cap) ∧ PointOk.Box W' (w.heap.size + 1) x y ∧ PtsAt W' w.heap.size A ps ∧ Below w.heap.size w W') := fun W W' ⟨h0, h1, x0, hb⟩ h => ⟨h0.later h, h1.later h, x0.later (h.mono hb.size), hb.trans (h.mono hb.size)⟩
  have hz0_ : Hid ((((w.alloc (Obj.cells #[.slice A n cap] 37)).alloc (Obj.cells #[.int .i64 x, .int .i64 y] 49))).heap.size = w.heap.size + 1 + 1) := Lib.hid (by simp)
  have Y0 : PtsAt (((w.alloc (Obj.cells #[.slice A n cap] 37)).alloc (Obj.cells #[.int .i64 x, .int .i64 y] 49))) w.heap.size A ps := hp.later b0
  generalize ((w.alloc (Obj.cells #[.slice A n cap] 37)).alloc (Obj.cells #[.int .i64 x, .int .i64 y] 49)) = w0 at X0 X1 Y0 b0 hz0_ ⊢
  have S0 := (⟨X0, X1, Y0, b0⟩ : Pts.BoxR w0 (w.heap.size) (.slice A n cap) ∧ PointOk.Box w0 (w.heap.size + 1) x y ∧ PtsAt w0 w.heap.size A ps ∧ Below w.heap.size w w0)
  clear X0 X1 Y0 b0
  obtain ⟨⟨_, _⟩, ⟨_, _⟩, _, _⟩ := id S0
  refine (placeIn A n cap x y _ ps hl hn (S0.2.2.1.wide S0.2.2.2.size)).mono ?_
  rintro e w1 ⟨rfl, hb_⟩
  replace S0 := HO _ _ S0 hb_
  clear hb_
  obtain ⟨⟨_, _⟩, ⟨_, _⟩, _, _⟩ := id S0
  by_cases h0 : placeI ps x y = 0
  · have E : Hid (r = false) := Lib.hid (by rw [← HR.out]; unfold inB; rw [h0]; rfl)
    rw [h0]
    clear hl HR h0
    go_wp2_with fail
    go_ret
    exact ⟨ret_bool (by rw [E.out]), S0.2.2.2⟩
  · have E : Hid (r = true) := Lib.hid (by rw [← HR.out]; unfold inB; exact decide_eq_true h0)
    generalize placeI ps x y = v at *
    have hv : (v == 0) = false := beq_eq_false_iff_ne.2 h0
    clear hl HR
    go_wp2_with fail
    go_ret
    exact ⟨ret_bool (by rw [E.out]; first | rfl | simp [h0]), S0.2.2.2⟩

end Go.Proofs.Ythokeedmccfalaa.PlaceSpec


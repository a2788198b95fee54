/-
  What the landed functions that cut a way into pieces do, as contracts: what each answers; new memory alone is written.
-/
import Derived.Test.YthokeedmccfalaaBlockImpl
import Derived.Test.YthokeedmccfalaaFacts
import Derived.Test.YthokeedmccfalaaGround
import Derived.Test.YthokeedmccfalaaLawInt
import Derived.Test.YthokeedmccfalaaArr
import Derived.Deep.MidRow
import Derived.Deep.WholeRow
import Derived.Laws.ResultCell
namespace Go.Proofs.Ythokeedmccfalaa.PieceImpl
open Go.RowKit Own PointMath WallMath RoomMath Pts Blk AreaMath PlaceMath FloorMath LineMath CutsMath SightMath Arr
open PointOk (ret_bool ret_i64 below1 below2 below3)

theorem doubled (x y : Int) (h : smP (2 * x) (2 * y)) (w : World) : Calls Try.prog 170 #[.agg #[.int .i64 x, .int .i64 y]] w fun e w' => e = .returned (.agg #[.int .i64 (2 * x), .int .i64 (2 * y)]) ∧ Below w.heap.size w w' := by
  unfold smP at h
  have u1 : IntKind.i64.wrap (2 * x) = 2 * x := IntWalk.i64_in _ (by omega)
  have u2 : IntKind.i64.wrap (2 * y) = 2 * y := IntWalk.i64_in _ (by omega)
  clear h
  go_enter Try.func170, Try.ntmps170
  go_wp2_with fail
  refine bodyPost_ret (v := .agg #[.int .i64 (2 * x), .int .i64 (2 * y)]) (by simp [results, Try.results170, go_sem]) rfl ⟨rfl, ?_⟩
  exact below2 _ _ _

theorem middle (ax ay bx bY : Int) (ha : smP ax ay) (hb : smP bx bY) (w : World) : Calls Try.prog 191 #[.agg #[.int .i64 ax, .int .i64 ay, .int .i64 bx, .int .i64 bY]] w fun e w' => e = .returned (.agg #[.int .i64 (midP ((ax, ay), (bx, bY))).1, .int .i64 (midP ((ax, ay), (bx, bY))).2]) ∧ Below w.heap.size w w' := by
  unfold smP at ha hb
  obtain ⟨mx, hmx⟩ : ∃ m, (ax + bx).tdiv 2 = m := ⟨_, rfl⟩
  obtain ⟨my, hmy⟩ : ∃ m, (ay + bY).tdiv 2 = m := ⟨_, rfl⟩
  have e : midP ((ax, ay), (bx, bY)) = (mx, my) := by unfold midP; rw [← hmx, ← hmy]
  rw [e]
  have t1 := tdiv2 (ax + bx)
  have t2 := tdiv2 (ay + bY)
  have u1 : IntKind.i64.wrap (ax + bx) = ax + bx := IntWalk.i64_in _ (by omega)
  have u2 : IntKind.i64.wrap (ay + bY) = ay + bY := IntWalk.i64_in _ (by omega)
  have u3 : IntKind.i64.wrap mx = mx := IntWalk.i64_in _ (by omega)
  have u4 : IntKind.i64.wrap my = my := IntWalk.i64_in _ (by omega)
  clear ha hb t1 t2 e
  go_enter Try.func191, Try.ntmps191
  go_wp2_with fail
  refine bodyPost_ret (v := .agg #[.int .i64 mx, .int .i64 my]) (by simp [results, Try.results191, go_sem]) rfl ⟨rfl, ?_⟩
  exact below2 _ _ _

theorem info90 : (Try.prog.info? 182).map (·.size) = some 44 := by kernel_rfl

set_option maxRecDepth 100000 in
set_option maxHeartbeats 4000000 in
theorem piecesOf (A : Option Addr) (n cap : Nat) (ax ay bx bY : Int) (w : World) (ps : List (Int × Int)) (hl : ps.length = n) (hn : n ≤ 10) (hs : smAll ps) (sa : smP ax ay) (sb : smP bx bY) (hp : PtsAt w w.heap.size A ps) :
    Calls Try.prog 190 #[.slice A n cap, .agg #[.int .i64 ax, .int .i64 ay, .int .i64 bx, .int .i64 bY]] w fun e w' => e = .returned (.tuple #[.agg (arrL (cutTo ps ((ax, ay), (bx, bY)) n)), .int .i64 ((cutTo ps ((ax, ay), (bx, bY)) n).length : Int)]) ∧ Below w.heap.size w w' := by
  obtain ⟨RL, hRL⟩ : ∃ L, cutTo ps ((ax, ay), (bx, bY)) n = L := ⟨_, rfl⟩
  have HR := Lib.hid hRL
  rw [hRL]
  clear hRL
  have HZ : ∀ w0 : World, w0.heap.size = w.heap.size + 1 + 1 → Blk.Holds (w0.alloc (.cells (arrL []) 182)) (w.heap.size + 1 + 1) (arrL []) 182 := fun w0 h => Blk.Holds.box w0 _ _ h.symm
  go_enter Try.func190, Try.ntmps190
  repeat (first
    | (refine wpList_store_whole rfl 182 _ _ rfl (w.heap.size + 1 + 1) rfl (arrL [((ax, ay), (bx, bY))]) rfl (arrL []) (HZ _ (by simp)) (by rw [arrL_size]; exact info90) (by rw [arrL_size, arrL_size]) (arrL_one _) ?_)
    | go_step)
  have HO : ∀ W W' : World, (PtsAt W w.heap.size A ps ∧ Blk.Holds W (w.heap.size + 1) (arrL []) 182 ∧ w.heap.size + 3 ≤ W.heap.size ∧ Below w.heap.size w W) → Below W.heap.size W W' → (PtsAt W' w.heap.size A ps ∧ Blk.Holds W' (w.heap.size + 1) (arrL []) 182 ∧ w.heap.size + 3 ≤ W'.heap.size ∧ Below w.heap.size w W') := fun W W' ⟨x0, x1, x2, hb⟩ h => ⟨x0.later (h.mono hb.size), Blk.Holds.later x1 h, Nat.le_trans x2 h.size, hb.trans (h.mono hb.size)⟩
  refine wp_at (S := fun W => (PtsAt W w.heap.size A ps ∧ Blk.Holds W (w.heap.size + 1) (arrL []) 182 ∧ w.heap.size + 3 ≤ W.heap.size ∧ Below w.heap.size w W ∧ Blk.Holds W (w.heap.size + 2) (arrL [((ax, ay), (bx, bY))]) 182)) (begins w A ps hp _ _ _ _) (fun v0 Sv => ?_)
  clear HZ
  have S0 : PtsAt v0 w.heap.size A ps ∧ Blk.Holds v0 (w.heap.size + 1) (arrL []) 182 ∧ w.heap.size + 3 ≤ v0.heap.size ∧ Below w.heap.size w v0 := ⟨Sv.1, Sv.2.1, Sv.2.2.1, Sv.2.2.2.1⟩
  have HA0 := Sv.2.2.2.2
  clear Sv hp
  obtain ⟨_, _, _, _⟩ := id S0
  obtain ⟨_, _⟩ : True ∧ True := ⟨trivial, trivial⟩
  go_loopw [7, 15] (fun c q wr => ∃ k : Nat, k ≤ n ∧ q = .int .i64 k ∧ c = .int .i64 ((cutTo ps ((ax, ay), (bx, bY)) k).length : Int) ∧ Blk.Holds wr (w.heap.size + 2) (arrL (cutTo ps ((ax, ay), (bx, bY)) k)) 182 ∧ (PtsAt wr w.heap.size A ps ∧ Blk.Holds wr (w.heap.size + 1) (arrL []) 182 ∧ w.heap.size + 3 ≤ wr.heap.size ∧ Below w.heap.size w wr))
    (fun _ q _ => n - (intOf q).toNat)
  case atStart => exact ⟨0, Nat.zero_le _, rfl, rfl, HA0, S0⟩
  case round =>
    clear S0 HA0
    obtain ⟨k, hkn, rfl, rfl, HA, S0⟩ := hrel
    obtain ⟨_, _, _, _⟩ := id S0
    by_cases hlt : k < n
    · have hk1 : (k : Int) < (n : Int) := by omega
      have hk0 : (0 : Int) ≤ (k : Int) := by omega
      have hll := cutTo_len ps ((ax, ay), (bx, bY)) k
      have hsm := Lib.hid (cut_small hs (w := ((ax, ay), (bx, bY))) sa sb k (by omega))
      have HS : Hid (cutTo ps ((ax, ay), (bx, bY)) (k + 1) = split (cutTo ps ((ax, ay), (bx, bY)) k) (pt ps k)) := Lib.hid rfl
      have sp := hs k (by omega)
      have p0 := pt_at (ps := ps) (k := k) (by omega)
      generalize cutTo ps ((ax, ay), (bx, bY)) k = L at *
      obtain ⟨cx, cy, hcc⟩ : ∃ x y, pt ps k = (x, y) := ⟨_, _, rfl⟩
      rw [hcc] at p0 sp HS
      obtain ⟨ad, eA, bA, pA⟩ := S0.1.get p0
      subst eA
      obtain ⟨len, hlen⟩ : ∃ m, L.length = m := ⟨_, rfl⟩
      rw [hlen] at hll
      rw [hlen]
      have hl11 : (len : Int) < 11 := by omega
      have hl0 : (0 : Int) ≤ (len : Int) := by omega
      have ul : IntKind.i64.wrap ((len : Int) + 1) = (len : Int) + 1 := IntWalk.i64_in _ (by omega)
      have uk : IntKind.i64.wrap ((k : Int) + 1) = (k : Int) + 1 := IntWalk.i64_in _ (by omega)
      have hpA := pA
      obtain ⟨_, _⟩ := hpA
      clear p0 hcc
      have HO : ∀ W W' : World, (PtsAt W w.heap.size (some ad) ps ∧ Blk.Holds W (w.heap.size + 1) (arrL []) 182 ∧ w.heap.size + 3 ≤ W.heap.size ∧ Below w.heap.size w W) → Below W.heap.size W W' → (PtsAt W' w.heap.size (some ad) ps ∧ Blk.Holds W' (w.heap.size + 1) (arrL []) 182 ∧ w.heap.size + 3 ≤ W'.heap.size ∧ Below w.heap.size w W') := fun W W' ⟨x0, x1, x2, hb⟩ h => ⟨x0.later (h.mono hb.size), Blk.Holds.later x1 h, Nat.le_trans x2 h.size, hb.trans (h.mono hb.size)⟩
      have c1 := pA.later bA (below1 wr (Obj.cells #[.int .i64 cx, .int .i64 cy] 49) |>.mono S0.2.2.2.size)
      have HP := Blk.Holds.box wr #[.int .i64 cx, .int .i64 cy] 49 (k := wr.heap.size) rfl
      have hgk : w.heap.size + 2 < wr.heap.size := S0.2.2.1
      replace HA := HA.alloc (Obj.cells #[.int .i64 cx, .int .i64 cy] 49)
      replace S0 := HO _ _ S0 (below1 wr (Obj.cells #[.int .i64 cx, .int .i64 cy] 49))
      obtain ⟨kb, hkb⟩ : ∃ K, wr.heap.size = K := ⟨_, rfl⟩
      obtain ⟨⟨_, _⟩, _, _⟩ := HP.two
      clear pA c1
      go_wp2_with fail
      generalize wr.alloc (Obj.cells #[.int .i64 cx, .int .i64 cy] 49) = v1 at *
      rw [hkb] at HP hgk
      try rw [hkb]
      clear hkb
      obtain ⟨_, _, _, _⟩ := id S0
      have HOg : ∀ W W' : World, (PtsAt W w.heap.size (some ad) ps ∧ Blk.Holds W (w.heap.size + 1) (arrL []) 182 ∧ w.heap.size + 3 ≤ W.heap.size ∧ Below w.heap.size w W) → Below (w.heap.size + 2) W W' → (PtsAt W' w.heap.size (some ad) ps ∧ Blk.Holds W' (w.heap.size + 1) (arrL []) 182 ∧ w.heap.size + 3 ≤ W'.heap.size ∧ Below w.heap.size w W') := fun W W' ⟨h0, h1, h2, hb⟩ h => ⟨h0.later (h.mono (by omega)), (h.block _ (by omega)).trans h1, Nat.le_trans h2 h.size, hb.trans (h.mono (by omega))⟩
      go_loopw [7, 20] (fun c q W2 => ∃ j : Nat, j ≤ len ∧ q = .int .i64 j ∧ c = .int .i64 (len : Int) ∧ Hid (∀ i, i < j → holdK L (cx, cy) i = false) ∧ Blk.Holds W2 (w.heap.size + 2) (arrL L) 182 ∧ Blk.Holds W2 kb #[.int .i64 cx, .int .i64 cy] 49 ∧ (PtsAt W2 w.heap.size (some ad) ps ∧ Blk.Holds W2 (w.heap.size + 1) (arrL []) 182 ∧ w.heap.size + 3 ≤ W2.heap.size ∧ Below w.heap.size w W2))
        (fun _ q _ => len - (intOf q).toNat)
      case atStart => exact ⟨0, Nat.zero_le _, rfl, rfl, Lib.hid (fun _ h => absurd h (by omega)), HA, HP, S0⟩
      case round =>
        clear S0 HA HP
        rename World => wi
        obtain ⟨j, hjl, rfl, rfl, hno, HA, HP, S0⟩ := hrel
        obtain ⟨_, _, _, _⟩ := id S0
        by_cases hlt2 : j < len
        · have hj1 : (j : Int) < (len : Int) := by omega
          have hj0 : (0 : Int) ≤ (j : Int) := by omega
          have hj11 : (j : Int) < 11 := by omega
          have HK : Hid (holdK L (cx, cy) j = btwP (cx, cy) (gt L j).1 (gt L j).2) := Lib.hid rfl
          have sj := hsm.out j
          obtain ⟨⟨⟨ux, uy⟩, ⟨vx, vy⟩⟩, hq⟩ : ∃ q, gt L j = q := ⟨_, rfl⟩
          rw [hq] at HK sj
          have hq2 := Lib.hid hq
          have hqz : gt L len = ((0, 0), (0, 0)) := by unfold gt; rw [List.getD_eq_getElem?_getD, List.getElem?_eq_none (by omega)]; rfl
          replace hqz := Lib.hid hqz
          have QH : Hid (∀ w, _) := Lib.hid fun w => WallImpl.holds ux uy vx vy cx cy sj.1 sj.2 sp w
          obtain ⟨o, ho⟩ : ∃ o, btwB cx cy ux uy vx vy = o := ⟨_, rfl⟩
          rw [ho] at QH
          replace HK : Hid (holdK L (cx, cy) j = o) := Lib.hid (by rw [HK.out, ← ho]; rfl)
          clear ho sj hq
          have HO : ∀ W W' : World, (PtsAt W w.heap.size (some ad) ps ∧ Blk.Holds W (w.heap.size + 1) (arrL []) 182 ∧ w.heap.size + 3 ≤ W.heap.size ∧ Blk.Holds W (w.heap.size + 2) (arrL L) 182 ∧ Blk.Holds W kb #[.int .i64 cx, .int .i64 cy] 49 ∧ PointOk.Box W kb cx cy ∧ FourC W (w.heap.size + 2) j ux uy vx vy ∧ FourC W (w.heap.size + 2) len 0 0 0 0 ∧ FourF W (w.heap.size + 2) len ∧ Below w.heap.size w W) → Below W.heap.size W W' → (PtsAt W' w.heap.size (some ad) ps ∧ Blk.Holds W' (w.heap.size + 1) (arrL []) 182 ∧ w.heap.size + 3 ≤ W'.heap.size ∧ Blk.Holds W' (w.heap.size + 2) (arrL L) 182 ∧ Blk.Holds W' kb #[.int .i64 cx, .int .i64 cy] 49 ∧ PointOk.Box W' kb cx cy ∧ FourC W' (w.heap.size + 2) j ux uy vx vy ∧ FourC W' (w.heap.size + 2) len 0 0 0 0 ∧ FourF W' (w.heap.size + 2) len ∧ Below w.heap.size w W') := fun W W' ⟨x0, x1, x2, x3, x4, x5, x6, x7, x8, hb⟩ h => ⟨x0.later (h.mono hb.size), Blk.Holds.later x1 h, Nat.le_trans x2 h.size, Blk.Holds.later x3 h, Blk.Holds.later x4 h, x5.later h, fourC (Blk.Holds.later x3 h) (by omega) hq2.out, fourC (Blk.Holds.later x3 h) (by omega) hqz.out, fourF (Blk.Holds.later x3 h) (by omega), hb.trans (h.mono hb.size)⟩
          replace S0 : PtsAt wi w.heap.size (some ad) ps ∧ Blk.Holds wi (w.heap.size + 1) (arrL []) 182 ∧ w.heap.size + 3 ≤ wi.heap.size ∧ Blk.Holds wi (w.heap.size + 2) (arrL L) 182 ∧ Blk.Holds wi kb #[.int .i64 cx, .int .i64 cy] 49 ∧ PointOk.Box wi kb cx cy ∧ FourC wi (w.heap.size + 2) j ux uy vx vy ∧ FourC wi (w.heap.size + 2) len 0 0 0 0 ∧ FourF wi (w.heap.size + 2) len ∧ Below w.heap.size w wi := ⟨S0.1, S0.2.1, S0.2.2.1, HA, HP, HP.two.1, fourC HA (by omega) hq2.out, fourC HA (by omega) hqz.out, fourF HA (by omega), S0.2.2.2⟩
          clear HA HP
          obtain ⟨_, _, _, _, _, ⟨_, _⟩, ⟨_, _, _, _⟩, ⟨_, _, _, _⟩, ⟨_, _, _, _⟩, _⟩ := id S0
          go_wp2_with fail
          refine Settle.region (fun W => PtsAt W w.heap.size (some ad) ps ∧ Blk.Holds W (w.heap.size + 1) (arrL []) 182 ∧ w.heap.size + 3 ≤ W.heap.size ∧ Blk.Holds W (w.heap.size + 2) (arrL L) 182 ∧ Blk.Holds W kb #[.int .i64 cx, .int .i64 cy] 49 ∧ PointOk.Box W kb cx cy ∧ FourC W (w.heap.size + 2) j ux uy vx vy ∧ FourC W (w.heap.size + 2) len 0 0 0 0 ∧ FourF W (w.heap.size + 2) len ∧ Below w.heap.size w W) (by kernel_rfl) (by kernel_rfl) (by kernel_rfl) (by kernel_rfl) (HO _ _ S0 ((Below.refl _ _).drew)) ?_
          clear S0
          repeat (first
            | (refine Settle.Settles.off (by rfl) ?_; simp only [Act.put, List.setIfInBounds_toArray, List.set_cons_zero, List.set_cons_succ])
            | (refine Settle.Settles.quiet (v := ?_) (by rfl) ?_ ?_
               rotate_left
               · (intro W hS; obtain ⟨_, _, _, _, _, ⟨_, _⟩, ⟨_, _, _, _⟩, ⟨_, _, _, _⟩, ⟨_, _, _, _⟩, _⟩ := hS; go_simp; with_reducible rfl)
               simp only [Act.put, List.setIfInBounds_toArray, List.set_cons_zero, List.set_cons_succ])
            | (refine Settle.Settles.call (v := ?_) (f := ?_) (args := ?_) (by rfl) ?_ ?_ ?_
               rotate_left 3
               · (intro W; go_simp; refine ⟨?_, ?_⟩ <;> with_reducible rfl)
               · (intro W hS; first | (go_at_call 182; (with_reducible refine (QH.out _).mono ?_); rintro e W1 ⟨rfl, hb⟩; refine ⟨?_, HO _ _ hS hb⟩; with_reducible rfl))
               simp only [Act.put, List.setIfInBounds_toArray, List.set_cons_zero, List.set_cons_succ]))
          refine Settle.Settles.nil ?_
          intro wr S0
          obtain ⟨_, _, _, _, _, ⟨_, _⟩, ⟨_, _, _, _⟩, ⟨_, _, _, _⟩, ⟨_, _, _, _⟩, _⟩ := id S0
          cases o
          · have hno2 : Hid (∀ i, i < j + 1 → holdK L (cx, cy) i = false) := Lib.hid (by
              intro i hi
              rcases Nat.lt_or_ge i j with h | h
              · exact hno.out i h
              · obtain rfl : i = j := by omega
                exact HK.out)
            clear HK hno QH
            go_wp2_with fail
            first
              | exact ⟨⟨j + 1, by omega, by go_num, rfl, hno2, S0.2.2.2.1, S0.2.2.2.2.1, S0.1, S0.2.1, S0.2.2.1, S0.2.2.2.2.2.2.2.2.2⟩, by simp [intOf]; omega⟩
              | (go_roundw <;> first | exact ⟨j + 1, by omega, by go_num, rfl, hno2, S0.2.2.2.1, S0.2.2.2.2.1, S0.1, S0.2.1, S0.2.2.1, S0.2.2.2.2.2.2.2.2.2⟩ | (simp [intOf]; omega))
          · have HF : Hid (firstH L (cx, cy) = some j) := Lib.hid (firstH_at (by omega) HK.out hno.out)
            clear HK hno QH
            go_wp2_with fail
            refine Settle.regionTails (fun W => PtsAt W w.heap.size (some ad) ps ∧ Blk.Holds W (w.heap.size + 1) (arrL []) 182 ∧ w.heap.size + 3 ≤ W.heap.size ∧ Blk.Holds W (w.heap.size + 2) (arrL L) 182 ∧ Blk.Holds W kb #[.int .i64 cx, .int .i64 cy] 49 ∧ PointOk.Box W kb cx cy ∧ FourC W (w.heap.size + 2) j ux uy vx vy ∧ FourC W (w.heap.size + 2) len 0 0 0 0 ∧ FourF W (w.heap.size + 2) len ∧ Below w.heap.size w W) 7 (by kernel_rfl) (by kernel_rfl) (of_decide_eq_true (by kernel_rfl)) (by kernel_rfl) (by kernel_rfl) (by kernel_rfl) (by kernel_rfl) (HO _ _ S0 ((Below.refl _ _).drew)) ?_
            simp only [List.take_succ_cons, List.take_zero, List.drop_succ_cons, List.drop_zero]
            clear S0
            repeat (first
              | (refine Settle.Settles.off (by rfl) ?_; simp only [Act.put, List.setIfInBounds_toArray, List.set_cons_zero, List.set_cons_succ])
              | (refine Settle.Settles.quiet (v := ?_) (by rfl) ?_ ?_
                 rotate_left
                 · (intro W hS; obtain ⟨_, _, _, _, _, ⟨_, _⟩, ⟨_, _, _, _⟩, ⟨_, _, _, _⟩, ⟨_, _, _, _⟩, _⟩ := hS; go_simp; with_reducible rfl)
                 simp only [Act.put, List.setIfInBounds_toArray, List.set_cons_zero, List.set_cons_succ])
              | (refine Settle.Settles.call (v := ?_) (f := ?_) (args := ?_) (by rfl) ?_ ?_ ?_
                 rotate_left 3
                 · (intro W; go_simp; refine ⟨?_, ?_⟩ <;> with_reducible rfl)
                 · (intro W hS; fail)
                 simp only [Act.put, List.setIfInBounds_toArray, List.set_cons_zero, List.set_cons_succ]))
            refine Settle.Settles.nil ?_
            intro wr S0 K_ hK_
            obtain ⟨_, _, _, _, _, ⟨_, _⟩, ⟨_, _, _, _⟩, ⟨_, _, _, _⟩, ⟨_, _, _, _⟩, _⟩ := id S0
            have HA := S0.2.2.2.1
            have HP := S0.2.2.2.2.1
            have hne : kb ≠ w.heap.size + 2 := by omega
            have hne2 : ¬ w.heap.size + 2 = kb := by omega
            have D1 := set_four HA (i := len) (by omega) ((cx, cy), (vx, vy)) (L' := L ++ [((cx, cy), (vx, vy))]) (fun i => by rw [gt_append, hlen])
            have D2 := (((HP.far ⟨w.heap.size + 2, len * 4, none⟩ (.int .i64 cx) hne).far ⟨w.heap.size + 2, len * 4 + 1, none⟩ (.int .i64 cy) hne).far ⟨w.heap.size + 2, len * 4 + 2, none⟩ (.int .i64 vx) hne).far ⟨w.heap.size + 2, len * 4 + 3, none⟩ (.int .i64 vy) hne
            have hq1 : gt (L ++ [((cx, cy), (vx, vy))]) j = ((ux, uy), (vx, vy)) := by rw [gt_append, if_neg (by omega)]; exact hq2.out
            have E1 := set_two D1 (i := j) (by omega) (cx, cy) (L' := split L (cx, cy)) (fun i => by rw [gt_split HF.out, hq2.out])
            have hbl := ((((((Below.refl (w.heap.size + 2) wr).setCell (p := ⟨w.heap.size + 2, len * 4, none⟩) (Nat.le_refl _) (.int .i64 cx)).setCell (p := ⟨w.heap.size + 2, len * 4 + 1, none⟩) (Nat.le_refl _) (.int .i64 cy)).setCell (p := ⟨w.heap.size + 2, len * 4 + 2, none⟩) (Nat.le_refl _) (.int .i64 vx)).setCell (p := ⟨w.heap.size + 2, len * 4 + 3, none⟩) (Nat.le_refl _) (.int .i64 vy)).setCell (p := ⟨w.heap.size + 2, j * 4 + 2, none⟩) (Nat.le_refl _) (.int .i64 cx)).setCell (p := ⟨w.heap.size + 2, j * 4 + 3, none⟩) (Nat.le_refl _) (.int .i64 cy)
            have HS2 : Hid (cutTo ps ((ax, ay), (bx, bY)) (k + 1) = split L (cx, cy) ∧ (cutTo ps ((ax, ay), (bx, bY)) (k + 1)).length = len + 1) := Lib.hid (by
              refine ⟨HS.out, ?_⟩
              rw [HS.out, split_some HF.out]
              simp [hlen])
            simp only at D1 E1
            have Fin : Hid (Blk.Holds _ (w.heap.size + 2) (arrL (cutTo ps ((ax, ay), (bx, bY)) (k + 1))) 182 ∧ _) := Lib.hid ⟨by rw [HS2.out.1]; exact E1, HOg _ _ ⟨S0.1, S0.2.1, S0.2.2.1, S0.2.2.2.2.2.2.2.2.2⟩ hbl⟩
            obtain ⟨_, _⟩ := D2.two.1
            obtain ⟨_, _, _, _⟩ := fourC D1 (k := j) (by omega) hq1
            obtain ⟨_, _, _, _⟩ := fourF D1 (k := j) (by omega)
            clear HA HP D1 D2 E1 hbl hq1 S0 HS HF HOg
            go_wp2_with fail
            exact ⟨⟨k + 1, by omega, by go_num, by rw [HS2.out.2]; first | rfl | simp, Fin.out.1, Fin.out.2⟩, by simp [intOf]; omega⟩
        · obtain rfl : len = j := by omega
          have HF : Hid (firstH L (cx, cy) = none) := Lib.hid (firstH_of (by rw [hlen]; exact hno.out))
          have HS2 : Hid (cutTo ps ((ax, ay), (bx, bY)) (k + 1) = L) := Lib.hid (by rw [HS.out, split_none HF.out])
          have HN : Hid (Blk.Holds wi (w.heap.size + 2) (arrL (cutTo ps ((ax, ay), (bx, bY)) (k + 1))) 182 ∧ (PtsAt wi w.heap.size (some ad) ps ∧ Blk.Holds wi (w.heap.size + 1) (arrL []) 182 ∧ w.heap.size + 3 ≤ wi.heap.size ∧ Below w.heap.size w wi)) := Lib.hid ⟨by rw [HS2.out]; exact HA, S0⟩
          clear HS HF hno HA HP S0 HOg
          go_wp2_with fail
          first
            | exact ⟨⟨k + 1, by omega, by go_num, by rw [HS2.out, hlen], HN.out.1, HN.out.2⟩, by simp [intOf]; omega⟩
            | (go_roundw <;> first | exact ⟨k + 1, by omega, by go_num, by rw [HS2.out, hlen], HN.out.1, HN.out.2⟩ | (simp [intOf]; omega))
    · obtain rfl : n = k := by omega
      rw [HR.out] at HA ⊢
      have HZ := S0.2.1
      have hsz := S0.2.2.1
      have hbe := S0.2.2.2
      have HB2 := Lib.hid (setRow_holds (c' := arrL RL) HZ)
      have hbl := Lib.hid (hbe.trans (setRow_below (w := wr) (b := w.heap.size) (g := w.heap.size + 1) (arrL RL) (by omega)))
      have hu := Try.underlying182
      have hld := run_loadVar_row _ _ 182 182 _ (0, 0) _ HB2.out hu rfl (by rw [arrL_size]; exact info90)
      clear S0 HR hs hl
      repeat (first
        | (refine wpList_load_whole rfl 182 _ rfl (w.heap.size + 1 + 1) rfl (arrL RL) HA 11 143 hu (by rw [arrL_size]; exact info90) ?_)
        | (refine wpList_store_whole rfl 182 _ _ rfl (w.heap.size + 1) rfl (arrL RL) rfl (arrL []) HZ (by rw [arrL_size]; exact info90) (by rw [arrL_size, arrL_size]) (arrL_one _) ?_)
        | go_step)
      try simp only [Exit.inBlock, Exit.then]
      refine bodyPost_ret (v := .tuple #[.agg (arrL RL), .int .i64 (RL.length : Int)]) ?_ rfl ⟨rfl, hbl.out⟩
      rw [results_cell_tmp rfl]
      simp [asAddr, Result.andThen, hld]

end Go.Proofs.Ythokeedmccfalaa.PieceImpl


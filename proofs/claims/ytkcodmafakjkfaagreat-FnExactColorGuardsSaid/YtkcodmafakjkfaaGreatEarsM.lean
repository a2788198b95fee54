/-
  How the model divides a room into triangles, as contracts: what each function answers; new memory alone is written.
-/
import Derived.Test.YtkcodmafakjkfaaGreatDiagSpec
import Derived.Test.YtkcodmafakjkfaaGreatTriSpec
import Derived.Test.YtkcodmafakjkfaaGreatTrisPlain
import Derived.Test.YtkcodmafakjkfaaGreatGround
import Derived.Lib.MinMax
import Derived.Test.YtkcodmafakjkfaaGreatEars
import Derived.Test.YtkcodmafakjkfaaGreatConcatI
import Derived.Test.YtkcodmafakjkfaaGreatAppOne
import Derived.Deep.RegionHeld3

/-
  How the model divides a room into triangles, as contracts: what each function answers; new memory alone is written.
-/
namespace Go.Proofs.YtkcodmafakjkfaaGreat.TrisSpec
open Go.RowKit Own PointMath WallMath RoomMath Pts Blk AreaMath PlaceMath FloorMath LineMath CutsMath SightMath DiagMath TriMath TrisMath Ints
open PointOk (ret_bool ret_i64 below1 below2 below3)

set_option maxRecDepth 100000 in
set_option maxHeartbeats 3200000 in
theorem l11Sorted (a b c : Nat) (h : a ≤ 1048576 ∧ b ≤ 1048576 ∧ c ≤ 1048576) (d1 : a ≠ b) (d2 : b ≠ c) (d3 : a ≠ c) (w : World) :
    Calls Tryz.prog 57 #[.int .i64 (a : Int), .int .i64 (b : Int), .int .i64 (c : Int)] w fun e w' => e = .returned (.agg #[.int .i64 (triS a b c).1, .int .i64 (triS a b c).2.1, .int .i64 (triS a b c).2.2]) ∧ Below w.heap.size w w' := by
  have u1 : IntKind.i64.wrap ((a : Int) + b) = (a : Int) + b := IntWalk.i64_in _ (by omega)
  have u2 : IntKind.i64.wrap ((a : Int) + b + c) = (a : Int) + b + c := IntWalk.i64_in _ (by omega)
  by_cases h1 : a < b
  · by_cases h2 : b < c
    · have h3 := h1
      have E : triS a b c = ((a : Int), (b : Int), (c : Int)) := by
        unfold triS
        rw [show min (min a b) c = a by omega, show max (max a b) c = c by omega, show a + b + c - a - c = b by omega]
      rw [E]
      clear E
      have iba : ¬ (b : Int) < (a : Int) := by omega
      have nba : ¬ b < a := by omega
      have iab : (a : Int) < (b : Int) := by omega
      have nab : a < b := by omega
      have ica : ¬ (c : Int) < (a : Int) := by omega
      have nca : ¬ c < a := by omega
      have iac : (a : Int) < (c : Int) := by omega
      have nac : a < c := by omega
      have icb : ¬ (c : Int) < (b : Int) := by omega
      have ncb : ¬ c < b := by omega
      have ibc : (b : Int) < (c : Int) := by omega
      have nbc : b < c := by omega
      have u3 : IntKind.i64.wrap ((a : Int) + b + c - a) = (a : Int) + b + c - a := IntWalk.i64_in _ (by omega)
      have u4 : IntKind.i64.wrap ((a : Int) + b + c - a - c) = (b : Int) := by rw [IntWalk.i64_in _ (by omega)]; omega
      clear h1 h2 h3 d1 d2 d3
      go_enter Tryz.func57, Tryz.ntmps57
      go_wp2_with fail
      refine bodyPost_ret (v := .agg #[.int .i64 (a : Int), .int .i64 (b : Int), .int .i64 (c : Int)]) (by simp [results, Tryz.results57, go_sem]; try (have hq1 : (a : Int) + b - a = b := by omega); try rw [hq1]; try exact IntWalk.i64_in _ (by omega)) rfl ⟨rfl, ?_⟩
      exact below1 _ _
    · by_cases h3 : c < a
      · skip
        have E : triS a b c = ((c : Int), (a : Int), (b : Int)) := by
          unfold triS
          rw [show min (min a b) c = c by omega, show max (max a b) c = b by omega, show a + b + c - c - b = a by omega]
        rw [E]
        clear E
        have iba : ¬ (b : Int) < (a : Int) := by omega
        have nba : ¬ b < a := by omega
        have iab : (a : Int) < (b : Int) := by omega
        have nab : a < b := by omega
        have ica : (c : Int) < (a : Int) := by omega
        have nca : c < a := by omega
        have iac : ¬ (a : Int) < (c : Int) := by omega
        have nac : ¬ a < c := by omega
        have icb : (c : Int) < (b : Int) := by omega
        have ncb : c < b := by omega
        have ibc : ¬ (b : Int) < (c : Int) := by omega
        have nbc : ¬ b < c := by omega
        have u3 : IntKind.i64.wrap ((a : Int) + b + c - c) = (a : Int) + b + c - c := IntWalk.i64_in _ (by omega)
        have u4 : IntKind.i64.wrap ((a : Int) + b + c - c - b) = (a : Int) := by rw [IntWalk.i64_in _ (by omega)]; omega
        clear h1 h2 h3 d1 d2 d3
        go_enter Tryz.func57, Tryz.ntmps57
        go_wp2_with fail
        refine bodyPost_ret (v := .agg #[.int .i64 (c : Int), .int .i64 (a : Int), .int .i64 (b : Int)]) (by simp [results, Tryz.results57, go_sem]; try (have hq1 : (a : Int) + b - a = b := by omega); try rw [hq1]; try exact IntWalk.i64_in _ (by omega)) rfl ⟨rfl, ?_⟩
        exact below1 _ _
      · skip
        have E : triS a b c = ((a : Int), (c : Int), (b : Int)) := by
          unfold triS
          rw [show min (min a b) c = a by omega, show max (max a b) c = b by omega, show a + b + c - a - b = c by omega]
        rw [E]
        clear E
        have iba : ¬ (b : Int) < (a : Int) := by omega
        have nba : ¬ b < a := by omega
        have iab : (a : Int) < (b : Int) := by omega
        have nab : a < b := by omega
        have ica : ¬ (c : Int) < (a : Int) := by omega
        have nca : ¬ c < a := by omega
        have iac : (a : Int) < (c : Int) := by omega
        have nac : a < c := by omega
        have icb : (c : Int) < (b : Int) := by omega
        have ncb : c < b := by omega
        have ibc : ¬ (b : Int) < (c : Int) := by omega
        have nbc : ¬ b < c := by omega
        have u3 : IntKind.i64.wrap ((a : Int) + b + c - a) = (a : Int) + b + c - a := IntWalk.i64_in _ (by omega)
        have u4 : IntKind.i64.wrap ((a : Int) + b + c - a - b) = (c : Int) := by rw [IntWalk.i64_in _ (by omega)]; omega
        clear h1 h2 h3 d1 d2 d3
        go_enter Tryz.func57, Tryz.ntmps57
        go_wp2_with fail
        refine bodyPost_ret (v := .agg #[.int .i64 (a : Int), .int .i64 (c : Int), .int .i64 (b : Int)]) (by simp [results, Tryz.results57, go_sem]; try (have hq1 : (a : Int) + b - a = b := by omega); try rw [hq1]; try exact IntWalk.i64_in _ (by omega)) rfl ⟨rfl, ?_⟩
        exact below1 _ _
  · by_cases h2 : a < c
    · have h3 := h1
      have E : triS a b c = ((b : Int), (a : Int), (c : Int)) := by
        unfold triS
        rw [show min (min a b) c = b by omega, show max (max a b) c = c by omega, show a + b + c - b - c = a by omega]
      rw [E]
      clear E
      have iba : (b : Int) < (a : Int) := by omega
      have nba : b < a := by omega
      have iab : ¬ (a : Int) < (b : Int) := by omega
      have nab : ¬ a < b := by omega
      have ica : ¬ (c : Int) < (a : Int) := by omega
      have nca : ¬ c < a := by omega
      have iac : (a : Int) < (c : Int) := by omega
      have nac : a < c := by omega
      have icb : ¬ (c : Int) < (b : Int) := by omega
      have ncb : ¬ c < b := by omega
      have ibc : (b : Int) < (c : Int) := by omega
      have nbc : b < c := by omega
      have u3 : IntKind.i64.wrap ((a : Int) + b + c - b) = (a : Int) + b + c - b := IntWalk.i64_in _ (by omega)
      have u4 : IntKind.i64.wrap ((a : Int) + b + c - b - c) = (a : Int) := by rw [IntWalk.i64_in _ (by omega)]; omega
      clear h1 h2 h3 d1 d2 d3
      go_enter Tryz.func57, Tryz.ntmps57
      go_wp2_with fail
      refine bodyPost_ret (v := .agg #[.int .i64 (b : Int), .int .i64 (a : Int), .int .i64 (c : Int)]) (by simp [results, Tryz.results57, go_sem]; try (have hq1 : (a : Int) + b - a = b := by omega); try rw [hq1]; try exact IntWalk.i64_in _ (by omega)) rfl ⟨rfl, ?_⟩
      exact below1 _ _
    · by_cases h3 : c < b
      · skip
        have E : triS a b c = ((c : Int), (b : Int), (a : Int)) := by
          unfold triS
          rw [show min (min a b) c = c by omega, show max (max a b) c = a by omega, show a + b + c - c - a = b by omega]
        rw [E]
        clear E
        have iba : (b : Int) < (a : Int) := by omega
        have nba : b < a := by omega
        have iab : ¬ (a : Int) < (b : Int) := by omega
        have nab : ¬ a < b := by omega
        have ica : (c : Int) < (a : Int) := by omega
        have nca : c < a := by omega
        have iac : ¬ (a : Int) < (c : Int) := by omega
        have nac : ¬ a < c := by omega
        have icb : (c : Int) < (b : Int) := by omega
        have ncb : c < b := by omega
        have ibc : ¬ (b : Int) < (c : Int) := by omega
        have nbc : ¬ b < c := by omega
        have u3 : IntKind.i64.wrap ((a : Int) + b + c - c) = (a : Int) + b + c - c := IntWalk.i64_in _ (by omega)
        have u4 : IntKind.i64.wrap ((a : Int) + b + c - c - a) = (b : Int) := by rw [IntWalk.i64_in _ (by omega)]; omega
        clear h1 h2 h3 d1 d2 d3
        go_enter Tryz.func57, Tryz.ntmps57
        go_wp2_with fail
        refine bodyPost_ret (v := .agg #[.int .i64 (c : Int), .int .i64 (b : Int), .int .i64 (a : Int)]) (by simp [results, Tryz.results57, go_sem]; try (have hq1 : (a : Int) + b - a = b := by omega); try rw [hq1]; try exact IntWalk.i64_in _ (by omega)) rfl ⟨rfl, ?_⟩
        exact below1 _ _
      · skip
        have E : triS a b c = ((b : Int), (c : Int), (a : Int)) := by
          unfold triS
          rw [show min (min a b) c = b by omega, show max (max a b) c = a by omega, show a + b + c - b - a = c by omega]
        rw [E]
        clear E
        have iba : (b : Int) < (a : Int) := by omega
        have nba : b < a := by omega
        have iab : ¬ (a : Int) < (b : Int) := by omega
        have nab : ¬ a < b := by omega
        have ica : (c : Int) < (a : Int) := by omega
        have nca : c < a := by omega
        have iac : ¬ (a : Int) < (c : Int) := by omega
        have nac : ¬ a < c := by omega
        have icb : ¬ (c : Int) < (b : Int) := by omega
        have ncb : ¬ c < b := by omega
        have ibc : (b : Int) < (c : Int) := by omega
        have nbc : b < c := by omega
        have u3 : IntKind.i64.wrap ((a : Int) + b + c - b) = (a : Int) + b + c - b := IntWalk.i64_in _ (by omega)
        have u4 : IntKind.i64.wrap ((a : Int) + b + c - b - a) = (c : Int) := by rw [IntWalk.i64_in _ (by omega)]; omega
        clear h1 h2 h3 d1 d2 d3
        go_enter Tryz.func57, Tryz.ntmps57
        go_wp2_with fail
        refine bodyPost_ret (v := .agg #[.int .i64 (b : Int), .int .i64 (c : Int), .int .i64 (a : Int)]) (by simp [results, Tryz.results57, go_sem]; try (have hq1 : (a : Int) + b - a = b := by omega); try rw [hq1]; try exact IntWalk.i64_in _ (by omega)) rfl ⟨rfl, ?_⟩
        exact below1 _ _

theorem tmod_nat (a m : Nat) : ((a : Nat) : Int).tmod ((m : Nat) : Int) = ((a % m : Nat) : Int) := by
  rw [Int.tmod_eq_emod_of_nonneg (by omega)]; simp

set_option maxRecDepth 100000 in
set_option maxHeartbeats 6400000 in
theorem l11Ear (A : Option Addr) (n cap : Nat) (B : Option Addr) (m cb k : Nat) (w : World) (ps : List (Int × Int)) (hl : ps.length = n) (hr : roomB ps = true) (hp : PtsAt w w.heap.size A ps)
    (l : List Nat) (hlm : l.length = m) (h3 : 3 < m) (hm : m ≤ 1048576) (ha : Asc n l) (hq : IntsAt w w.heap.size B (li l)) (hk : k < m) :
    Calls Tryz.prog 56 #[.slice A n cap, .slice B m cb, .int .i64 (k : Int)] w fun e w' => e = .returned (.bool (earM ps l k)) ∧ Below w.heap.size w w' := by
  obtain ⟨n1, n2⟩ := not_near ha (by omega) (show k < l.length by omega)
  have he : earM ps l k = (decide (0 < turnP (pt ps (pvx l k)) (pt ps (ix l k)) (pt ps (nxx l k))) && diagM ps (pvx l k) (nxx l k) && (List.range m).all (inAny ps l (pvx l k) (ix l k) (nxx l k))) := by
    unfold earM nearN; rw [hl, decide_eq_false n1, decide_eq_false n2, hlm]; rfl
  rw [he]
  obtain ⟨r, hr⟩ : ∃ r, (decide (0 < turnP (pt ps (pvx l k)) (pt ps (ix l k)) (pt ps (nxx l k))) && diagM ps (pvx l k) (nxx l k) && (List.range m).all (inAny ps l (pvx l k) (ix l k) (nxx l k))) = r := ⟨_, rfl⟩
  have HR := Lib.hid hr
  rw [hr]
  clear hr
  have hok := Lib.hid (roomB_yes hr).2.1
  have hn10 := (roomB_yes hr).1
  have hp1 : pvN m k < m := Nat.mod_lt _ (by omega)
  have hn1 : nxN m k < m := Nat.mod_lt _ (by omega)
  have xi : pvx l k < n := by unfold pvx; exact ha.2 _ (by rw [hlm]; exact hp1)
  have xj : nxx l k < n := by unfold nxx; exact ha.2 _ (by rw [hlm]; exact hn1)
  have xb : ix l k < n := ha.2 _ (by omega)
  have HA : Hid (∀ s, s < m → ix l s < n) := Lib.hid (fun s hs => ha.2 _ (by omega))
  have p0 : (li l)[pvN m k]? = some ((pvx l k : Nat) : Int) := by unfold pvx; rw [hlm]; exact li_at (by omega)
  have p1 := li_at (l := l) (k := k) (by omega)
  have p2 : (li l)[nxN m k]? = some ((nxx l k : Nat) : Int) := by unfold nxx; rw [hlm]; exact li_at (by omega)
  have t1 : ((k : Int) + (m : Int) - 1).tmod (m : Int) = ((pvN m k : Nat) : Int) := by
    rw [show (k : Int) + (m : Int) - 1 = ((k + m - 1 : Nat) : Int) by omega]; exact tmod_nat _ _
  have t2 : ((k : Int) + 1).tmod (m : Int) = ((nxN m k : Nat) : Int) := by
    rw [show (k : Int) + 1 = ((k + 1 : Nat) : Int) by omega]; exact tmod_nat _ _
  have t3 : (((pvx l k : Nat) : Int) + 1).tmod (n : Int) = (((pvx l k + 1) % n : Nat) : Int) := by
    rw [show ((pvx l k : Nat) : Int) + 1 = ((pvx l k + 1 : Nat) : Int) by omega]; exact tmod_nat _ _
  have t4 : (((nxx l k : Nat) : Int) + 1).tmod (n : Int) = (((nxx l k + 1) % n : Nat) : Int) := by
    rw [show ((nxx l k : Nat) : Int) + 1 = ((nxx l k + 1 : Nat) : Int) by omega]; exact tmod_nat _ _
  have QD : Hid (∀ W h, _) := Lib.hid fun W h => DiagSpec.diag A n cap (pvx l k) (nxx l k) W ps hl hr xi xj h
  have q0 := pt_at (ps := ps) (k := pvx l k) (by omega)
  have q1 := pt_at (ps := ps) (k := ix l k) (by omega)
  have q2 := pt_at (ps := ps) (k := nxx l k) (by omega)
  have oa := okP_sm (okAll_at hok.out (k := pvx l k) (by omega))
  have ob := okP_sm (okAll_at hok.out (k := ix l k) (by omega))
  have oc := okP_sm (okAll_at hok.out (k := nxx l k) (by omega))
  have HIN : Hid (∀ s, inAny ps l (pvx l k) (ix l k) (nxx l k) s = (decide (ix l s = pvx l k) || decide (ix l s = nxx l k) || decide (ix l s = ix l k) || !triIn (pt ps (pvx l k)) (pt ps (ix l k)) (pt ps (nxx l k)) (pt ps (ix l s)))) := Lib.hid (fun s => by
    unfold inAny
    cases decide (ix l s = pvx l k) <;> cases decide (ix l s = nxx l k) <;> cases decide (ix l s = ix l k) <;> rfl)
  obtain ⟨F, hF⟩ : ∃ F, inAny ps l (pvx l k) (ix l k) (nxx l k) = F := ⟨_, rfl⟩
  rw [hF] at HR HIN
  obtain ⟨d, hd⟩ : ∃ d, diagM ps (pvx l k) (nxx l k) = d := ⟨_, rfl⟩
  rw [hd] at HR QD
  obtain ⟨ax, ay, h0⟩ : ∃ x y, pt ps (pvx l k) = (x, y) := ⟨_, _, rfl⟩
  obtain ⟨bx, bY, h1⟩ : ∃ x y, pt ps (ix l k) = (x, y) := ⟨_, _, rfl⟩
  obtain ⟨cx, cy, h2⟩ : ∃ x y, pt ps (nxx l k) = (x, y) := ⟨_, _, rfl⟩
  rw [h0] at HR HIN q0 oa
  rw [h1] at HR HIN q1 ob
  rw [h2] at HR HIN q2 oc
  have QT : Hid (∀ w, _) := Lib.hid fun w => PointSpec.l02Turn ax ay bx bY cx cy oa ob oc w
  have QI : Hid (∀ px py (h : smP px py) w, _) := Lib.hid fun px py (h : smP px py) w => TriSpec.l11In ax ay bx bY cx cy px py oa ob oc h w
  obtain ⟨t, ht⟩ : ∃ t, turnI ax ay bx bY cx cy = t := ⟨_, rfl⟩
  have ht2 : turnP (ax, ay) (bx, bY) (cx, cy) = t := ht
  rw [ht] at QT
  rw [ht2] at HR
  generalize hgi : pvx l k = i at *
  generalize hgb : ix l k = b at *
  generalize hgj : nxx l k = j at *
  generalize pvN m k = pi at *
  generalize nxN m k = pj at *
  generalize (i + 1) % n = x1 at *
  generalize (j + 1) % n = x2 at *
  obtain ⟨ad, eA, bA, pA⟩ := hp.get q0
  obtain ⟨ad2, eA2, _, pB⟩ := hp.get q1
  rw [eA] at eA2
  injection eA2 with eA2
  subst eA2
  obtain ⟨ad2, eA2, _, pC⟩ := hp.get q2
  rw [eA] at eA2
  injection eA2 with eA2
  subst eA2
  subst eA
  obtain ⟨bd, eB, bB, vA⟩ := hq.get p0
  obtain ⟨bd2, eB2, _, vB⟩ := hq.get p1
  rw [eB] at eB2
  injection eB2 with eB2
  subst eB2
  obtain ⟨bd2, eB2, _, vC⟩ := hq.get p2
  rw [eB] at eB2
  injection eB2 with eB2
  subst eB2
  subst eB
  have i0 : (0 : Int) ≤ (pi : Int) := by omega
  have i1 : (pi : Int) < (m : Int) := by omega
  have i2 : (0 : Int) ≤ (pj : Int) := by omega
  have i3 : (pj : Int) < (m : Int) := by omega
  have k0 : (0 : Int) ≤ (k : Int) := by omega
  have k1 : (k : Int) < (m : Int) := by omega
  have j0 : (0 : Int) ≤ (i : Int) := by omega
  have j1 : (i : Int) < (n : Int) := by omega
  have j2 : (0 : Int) ≤ (j : Int) := by omega
  have j3 : (j : Int) < (n : Int) := by omega
  have j4 : (0 : Int) ≤ (b : Int) := by omega
  have j5 : (b : Int) < (n : Int) := by omega
  have z1 : ¬ (m : Int) = 0 := by omega
  have z2 : ¬ (n : Int) = 0 := by omega
  have z3 : ¬ m = 0 := by omega
  have z4 : ¬ n = 0 := by omega
  have u1 : IntKind.i64.wrap ((k : Int) + (m : Int)) = (k : Int) + (m : Int) := IntWalk.i64_in _ (by omega)
  have u2 : IntKind.i64.wrap ((k : Int) + (m : Int) - 1) = (k : Int) + (m : Int) - 1 := IntWalk.i64_in _ (by omega)
  have u3 : IntKind.i64.wrap ((k : Int) + 1) = (k : Int) + 1 := IntWalk.i64_in _ (by omega)
  have hn63 : n ≤ 1048576 := by have := (roomB_yes hr); rw [← hl]; unfold roomB at hr; simp at hr; omega
  have u4 : IntKind.i64.wrap ((i : Int) + 1) = (i : Int) + 1 := IntWalk.i64_in _ (by omega)
  have u5 : IntKind.i64.wrap ((j : Int) + 1) = (j : Int) + 1 := IntWalk.i64_in _ (by omega)
  have y1 : ((x1 : Int) != (j : Int)) = true := by rw [bne_iff_ne]; omega
  have y2 : ((x2 : Int) != (i : Int)) = true := by rw [bne_iff_ne]; omega
  have y3 : (x1 != j) = true := by rw [bne_iff_ne]; exact n1
  have y4 : (x2 != i) = true := by rw [bne_iff_ne]; exact n2
  clear p0 p1 p2 q0 q1 q2 oa ob oc h0 h1 h2 hd he ht ht2 n1 n2
  go_enter Tryz.func56, Tryz.ntmps56
  have HO : ∀ W W' : World, (PtsAt W w.heap.size (some ad) ps ∧ IntsAt W w.heap.size (some bd) (li l) ∧ PtAt W ad i ax ay ∧ PtAt W ad b bx bY ∧ PtAt W ad j cx cy ∧ IntAt W bd pi (i : Int) ∧ IntAt W bd k (b : Int) ∧ IntAt W bd pj (j : Int) ∧ Below w.heap.size w W) → Below W.heap.size W W' → (PtsAt W' w.heap.size (some ad) ps ∧ IntsAt W' w.heap.size (some bd) (li l) ∧ PtAt W' ad i ax ay ∧ PtAt W' ad b bx bY ∧ PtAt W' ad j cx cy ∧ IntAt W' bd pi (i : Int) ∧ IntAt W' bd k (b : Int) ∧ IntAt W' bd pj (j : Int) ∧ Below w.heap.size w W') := fun W W' ⟨x0, x1, x2, x3, x4, x5, x6, x7, hb⟩ h => ⟨x0.later (h.mono hb.size), x1.later (h.mono hb.size), x2.later bA (h.mono hb.size), x3.later bA (h.mono hb.size), x4.later bA (h.mono hb.size), x5.later bB (h.mono hb.size), x6.later bB (h.mono hb.size), x7.later bB (h.mono hb.size), hb.trans (h.mono hb.size)⟩
  have S0 : PtsAt w w.heap.size (some ad) ps ∧ IntsAt w w.heap.size (some bd) (li l) ∧ PtAt w ad i ax ay ∧ PtAt w ad b bx bY ∧ PtAt w ad j cx cy ∧ IntAt w bd pi (i : Int) ∧ IntAt w bd k (b : Int) ∧ IntAt w bd pj (j : Int) ∧ Below w.heap.size w w := ⟨hp, hq, pA, pB, pC, vA, vB, vC, Below.refl _ _⟩
  clear hp hq pA pB pC vA vB vC
  obtain ⟨_, _, ⟨_, _⟩, ⟨_, _⟩, ⟨_, _⟩, ⟨_, _⟩, ⟨_, _⟩, ⟨_, _⟩, _⟩ := id S0
  have S1 := HO _ _ S0 (below1 w (Obj.cells #[.int .i64 ax, .int .i64 ay] 40))
  have S2 := HO _ _ S1 (below1 (w.alloc (Obj.cells #[.int .i64 ax, .int .i64 ay] 40)) (Obj.cells #[.int .i64 bx, .int .i64 bY] 40))
  clear HO
  obtain ⟨_, _, ⟨_, _⟩, ⟨_, _⟩, ⟨_, _⟩, ⟨_, _⟩, ⟨_, _⟩, ⟨_, _⟩, _⟩ := id S1
  obtain ⟨_, _, ⟨_, _⟩, ⟨_, _⟩, ⟨_, _⟩, ⟨_, _⟩, ⟨_, _⟩, ⟨_, _⟩, _⟩ := id S2
  go_wp2_with fail
  clear S1 S2
  have X0 := ((PointOk.box1 w ax ay 40 (k := w.heap.size) (by simp)).alloc (Obj.cells #[.int .i64 bx, .int .i64 bY] 40)).alloc (Obj.cells #[.int .i64 cx, .int .i64 cy] 40)
  have X1 := (PointOk.box1 (w.alloc (Obj.cells #[.int .i64 ax, .int .i64 ay] 40)) bx bY 40 (k := w.heap.size + 1) (by simp)).alloc (Obj.cells #[.int .i64 cx, .int .i64 cy] 40)
  have X2 := PointOk.box1 ((w.alloc (Obj.cells #[.int .i64 ax, .int .i64 ay] 40)).alloc (Obj.cells #[.int .i64 bx, .int .i64 bY] 40)) cx cy 40 (k := w.heap.size + 1 + 1) (by simp)
  have b0 := PointOk.below3 w (Obj.cells #[.int .i64 ax, .int .i64 ay] 40) (Obj.cells #[.int .i64 bx, .int .i64 bY] 40) (Obj.cells #[.int .i64 cx, .int .i64 cy] 40)
  have HO : ∀ W W' : World, (PointOk.Box W (w.heap.size) ax ay ∧ PointOk.Box W (w.heap.size + 1) bx bY ∧ PointOk.Box W (w.heap.size + 1 + 1) cx cy ∧ PtsAt W w.heap.size (some ad) ps ∧ IntsAt W w.heap.size (some bd) (li l) ∧ IntAt W bd k (b : Int) ∧ Below w.heap.size w W) → Below W.heap.size W W' → (PointOk.Box W' (w.heap.size) ax ay ∧ PointOk.Box W' (w.heap.size + 1) bx bY ∧ PointOk.Box W' (w.heap.size + 1 + 1) cx cy ∧ PtsAt W' w.heap.size (some ad) ps ∧ IntsAt W' w.heap.size (some bd) (li l) ∧ IntAt W' bd k (b : Int) ∧ Below w.heap.size w W') := fun W W' ⟨h0, h1, h2, x0, x1, x2, hb⟩ h => ⟨h0.later h, h1.later h, h2.later h, x0.later (h.mono hb.size), x1.later (h.mono hb.size), x2.later bB (h.mono hb.size), hb.trans (h.mono hb.size)⟩
  have hz0_ : Hid (((((w.alloc (Obj.cells #[.int .i64 ax, .int .i64 ay] 40)).alloc (Obj.cells #[.int .i64 bx, .int .i64 bY] 40)).alloc (Obj.cells #[.int .i64 cx, .int .i64 cy] 40))).heap.size = w.heap.size + 1 + 1 + 1) := Lib.hid (by simp)
  have Y0 : PtsAt ((((w.alloc (Obj.cells #[.int .i64 ax, .int .i64 ay] 40)).alloc (Obj.cells #[.int .i64 bx, .int .i64 bY] 40)).alloc (Obj.cells #[.int .i64 cx, .int .i64 cy] 40))) w.heap.size (some ad) ps := S0.1.later b0
  have Y1 : IntsAt ((((w.alloc (Obj.cells #[.int .i64 ax, .int .i64 ay] 40)).alloc (Obj.cells #[.int .i64 bx, .int .i64 bY] 40)).alloc (Obj.cells #[.int .i64 cx, .int .i64 cy] 40))) w.heap.size (some bd) (li l) := S0.2.1.later b0
  have Y2 : IntAt ((((w.alloc (Obj.cells #[.int .i64 ax, .int .i64 ay] 40)).alloc (Obj.cells #[.int .i64 bx, .int .i64 bY] 40)).alloc (Obj.cells #[.int .i64 cx, .int .i64 cy] 40))) bd k (b : Int) := S0.2.2.2.2.2.2.1.later bB b0
  generalize (((w.alloc (Obj.cells #[.int .i64 ax, .int .i64 ay] 40)).alloc (Obj.cells #[.int .i64 bx, .int .i64 bY] 40)).alloc (Obj.cells #[.int .i64 cx, .int .i64 cy] 40)) = w0 at X0 X1 X2 Y0 Y1 Y2 b0 hz0_ ⊢
  have S0 := (⟨X0, X1, X2, Y0, Y1, Y2, b0⟩ : PointOk.Box w0 (w.heap.size) ax ay ∧ PointOk.Box w0 (w.heap.size + 1) bx bY ∧ PointOk.Box w0 (w.heap.size + 1 + 1) cx cy ∧ PtsAt w0 w.heap.size (some ad) ps ∧ IntsAt w0 w.heap.size (some bd) (li l) ∧ IntAt w0 bd k (b : Int) ∧ Below w.heap.size w w0)
  clear X0 X1 X2 Y0 Y1 Y2 b0
  obtain ⟨⟨_, _⟩, ⟨_, _⟩, ⟨_, _⟩, _, _, ⟨_, _⟩, _⟩ := id S0
  refine (QT.out _).mono ?_
  rintro e w1 ⟨rfl, hb_⟩
  replace S0 := HO _ _ S0 hb_
  clear hb_
  obtain ⟨⟨_, _⟩, ⟨_, _⟩, ⟨_, _⟩, _, _, ⟨_, _⟩, _⟩ := id S0
  by_cases c0 : 0 < t
  rotate_left
  · have E : Hid (r = false) := Lib.hid (by rw [← HR.out, decide_eq_false c0]; rfl)
    have g0 : t ≤ 0 := by omega
    clear HR HIN QD QI HA hok hl hlm hgi hgb hgj
    go_wp2_with fail
    go_ret
    exact ⟨ret_bool E.out.symm, S0.2.2.2.2.2.2⟩
  have g0 : ¬ t ≤ 0 := by omega
  go_wp2_with fail
  refine (QD.out _ (S0.2.2.2.1.wide S0.2.2.2.2.2.2.size)).mono ?_
  rintro e w2 ⟨rfl, hb_⟩
  replace S0 := HO _ _ S0 hb_
  clear hb_
  obtain ⟨⟨_, _⟩, ⟨_, _⟩, ⟨_, _⟩, _, _, ⟨_, _⟩, _⟩ := id S0
  cases d
  · have E : Hid (r = false) := Lib.hid (by rw [← HR.out, Bool.and_false]; rfl)
    clear HR HIN QI HA hok hl hlm hgi hgb hgj
    go_wp2_with fail
    go_ret
    exact ⟨ret_bool E.out.symm, S0.2.2.2.2.2.2⟩
  have HA1 : Hid ((∀ s, s < m → F s = true) → r = true) := Lib.hid (fun h => by rw [← HR.out, decide_eq_true c0, show (List.range m).all F = true from List.all_eq_true.2 (fun q hq => h q (List.mem_range.1 hq))]; rfl)
  have HA0 : Hid (∀ s, s < m → F s = false → r = false) := Lib.hid (fun s hs h => by rw [← HR.out, show (List.range m).all F = false from List.all_eq_false.2 ⟨s, List.mem_range.2 hs, by rw [h]; simp⟩, Bool.and_false])
  clear HR QD QT hgi hgb hgj
  go_wp2_with fail
  go_loopw [14] (fun q wr => ∃ s : Nat, s ≤ m ∧ q = .int .i64 s ∧ Hid (∀ j, j < s → F j = true) ∧ (PointOk.Box wr (w.heap.size) ax ay ∧ PointOk.Box wr (w.heap.size + 1) bx bY ∧ PointOk.Box wr (w.heap.size + 1 + 1) cx cy ∧ PtsAt wr w.heap.size (some ad) ps ∧ IntsAt wr w.heap.size (some bd) (li l) ∧ IntAt wr bd k (b : Int) ∧ Below w.heap.size w wr))
    (fun q _ => m - (intOf q).toNat)
  case atStart => exact ⟨0, Nat.zero_le _, rfl, Lib.hid (fun t ht => absurd ht (by omega)), S0⟩
  case round =>
    clear S0
    obtain ⟨s, hs, rfl, hin, S0⟩ := hrel
    obtain ⟨⟨_, _⟩, ⟨_, _⟩, ⟨_, _⟩, _, _, ⟨_, _⟩, _⟩ := id S0
    by_cases hst : s < m
    rotate_left
    · obtain rfl : s = m := by omega
      have E := Lib.hid (HA1.out hin.out)
      clear HA1 HA0 hin hl hlm hok HIN QI HA
      go_wp2_with fail
      go_ret
      exact ⟨ret_bool E.out.symm, S0.2.2.2.2.2.2⟩
    have q0 := li_at (l := l) (k := s) (by omega)
    have xs := HA.out s hst
    have pp := pt_at (ps := ps) (k := ix l s) (by omega)
    have op := okP_sm (okAll_at hok.out (k := ix l s) (by omega))
    have HF := Lib.hid (HIN.out s)
    have HS1 : Hid (F s = true → ∀ j, j < s + 1 → F j = true) := Lib.hid (fun h j hj => by
      rcases Nat.lt_or_ge j s with h1 | h1
      · exact hin.out j h1
      · obtain rfl : j = s := by omega
        exact h)
    replace HA0 := Lib.hid (fun h => HA0.out s hst h)
    generalize ix l s = x at *
    obtain ⟨px, py, hx⟩ : ∃ u v, pt ps x = (u, v) := ⟨_, _, rfl⟩
    rw [hx] at pp op HF
    have QL := Lib.hid (QI.out px py op)
    generalize F s = iv at *
    generalize triIn (ax, ay) (bx, bY) (cx, cy) (px, py) = tr at *
    obtain ⟨ad3, eA3, _, pX⟩ := S0.2.2.2.1.get pp
    injection eA3 with eA3
    subst eA3
    obtain ⟨bd3, eB3, _, pQ⟩ := S0.2.2.2.2.1.get q0
    injection eB3 with eB3
    subst eB3
    have hs1 : (s : Int) < (m : Int) := by omega
    have hs0 : (0 : Int) ≤ (s : Int) := by omega
    have hx1 : (x : Int) < (n : Int) := by omega
    have hx0 : (0 : Int) ≤ (x : Int) := by omega
    clear q0 pp op hx hin QI HIN HA
    have HO : ∀ W W' : World, (PointOk.Box W w.heap.size ax ay ∧ PointOk.Box W (w.heap.size + 1) bx bY ∧ PointOk.Box W (w.heap.size + 1 + 1) cx cy ∧ PtsAt W w.heap.size (some ad) ps ∧ IntsAt W w.heap.size (some bd) (li l) ∧ IntAt W bd k (b : Int) ∧ IntAt W bd s (x : Int) ∧ PtAt W ad x px py ∧ Below w.heap.size w W) → Below W.heap.size W W' → (PointOk.Box W' w.heap.size ax ay ∧ PointOk.Box W' (w.heap.size + 1) bx bY ∧ PointOk.Box W' (w.heap.size + 1 + 1) cx cy ∧ PtsAt W' w.heap.size (some ad) ps ∧ IntsAt W' w.heap.size (some bd) (li l) ∧ IntAt W' bd k (b : Int) ∧ IntAt W' bd s (x : Int) ∧ PtAt W' ad x px py ∧ Below w.heap.size w W') := fun W W' ⟨x0, x1, x2, x3, x4, x5, x6, x7, hb⟩ h => ⟨x0.later h, x1.later h, x2.later h, x3.later (h.mono hb.size), x4.later (h.mono hb.size), x5.later bB (h.mono hb.size), x6.later bB (h.mono hb.size), x7.later bA (h.mono hb.size), hb.trans (h.mono hb.size)⟩
    replace S0 : PointOk.Box wr w.heap.size ax ay ∧ PointOk.Box wr (w.heap.size + 1) bx bY ∧ PointOk.Box wr (w.heap.size + 1 + 1) cx cy ∧ PtsAt wr w.heap.size (some ad) ps ∧ IntsAt wr w.heap.size (some bd) (li l) ∧ IntAt wr bd k (b : Int) ∧ IntAt wr bd s (x : Int) ∧ PtAt wr ad x px py ∧ Below w.heap.size w wr := ⟨S0.1, S0.2.1, S0.2.2.1, S0.2.2.2.1, S0.2.2.2.2.1, S0.2.2.2.2.2.1, pQ, pX, S0.2.2.2.2.2.2⟩
    clear pQ pX
    obtain ⟨⟨_, _⟩, ⟨_, _⟩, ⟨_, _⟩, _, _, ⟨_, _⟩, ⟨_, _⟩, ⟨_, _⟩, _⟩ := id S0
    by_cases e1 : x = i
    · have hin2 := Lib.hid (HS1.out (by rw [HF.out, decide_eq_true e1]; rfl))
      have m1 : ((x : Int) != (i : Int)) = false := by rw [bne_eq_false_iff_eq]; omega
      have m1n : (x != i) = false := by rw [bne_eq_false_iff_eq]; exact e1
      clear HS1 HF HA0 HA1 hl hlm QL e1
      go_wp2_with fail
      refine Settle.region (fun W => PointOk.Box W w.heap.size ax ay ∧ PointOk.Box W (w.heap.size + 1) bx bY ∧ PointOk.Box W (w.heap.size + 1 + 1) cx cy ∧ PtsAt W w.heap.size (some ad) ps ∧ IntsAt W w.heap.size (some bd) (li l) ∧ IntAt W bd k (b : Int) ∧ IntAt W bd s (x : Int) ∧ PtAt W ad x px py ∧ Below w.heap.size w W) (by kernel_rfl) (by kernel_rfl) (by kernel_rfl) (by kernel_rfl) (HO _ _ S0 ((Below.refl _ _).drew)) ?_
      clear S0
      repeat (first
        | (refine Settle.Settles.off (by rfl) ?_; simp only [Act.put, List.setIfInBounds_toArray, List.set_cons_zero, List.set_cons_succ])
        | (refine Settle.Settles.quiet (v := ?_) (by rfl) ?_ ?_
           rotate_left
           · (intro W hS; obtain ⟨⟨_, _⟩, ⟨_, _⟩, ⟨_, _⟩, _, _, ⟨_, _⟩, ⟨_, _⟩, ⟨_, _⟩, _⟩ := hS; go_simp; with_reducible rfl)
           simp only [Act.put, List.setIfInBounds_toArray, List.set_cons_zero, List.set_cons_succ])
        | (refine Settle.Settles.call (v := ?_) (f := ?_) (args := ?_) (by rfl) ?_ ?_ ?_
           rotate_left 3
           · (intro W; go_simp; refine ⟨?_, ?_⟩ <;> with_reducible rfl)
           · (intro W hS; fail)
           simp only [Act.put, List.setIfInBounds_toArray, List.set_cons_zero, List.set_cons_succ]))
      refine Settle.Settles.nil ?_
      intro wr S0
      obtain ⟨⟨_, _⟩, ⟨_, _⟩, ⟨_, _⟩, _, _, ⟨_, _⟩, ⟨_, _⟩, ⟨_, _⟩, _⟩ := id S0
      go_wp2_with fail
      first
        | exact ⟨⟨s + 1, by omega, by go_num, hin2, S0.1, S0.2.1, S0.2.2.1, S0.2.2.2.1, S0.2.2.2.2.1, S0.2.2.2.2.2.1, S0.2.2.2.2.2.2.2.2⟩, by simp [intOf]; omega⟩
        | (go_roundw <;> first | exact ⟨s + 1, by omega, by go_num, hin2, S0.1, S0.2.1, S0.2.2.1, S0.2.2.2.1, S0.2.2.2.2.1, S0.2.2.2.2.2.1, S0.2.2.2.2.2.2.2.2⟩ | (simp [intOf]; omega))
    have m1 : ((x : Int) != (i : Int)) = true := by rw [bne_iff_ne]; omega
    have m1n : (x != i) = true := by rw [bne_iff_ne]; exact e1
    by_cases e2 : x = j
    · have hin2 := Lib.hid (HS1.out (by rw [HF.out, decide_eq_true e2]; simp))
      have m2 : ((x : Int) != (j : Int)) = false := by rw [bne_eq_false_iff_eq]; omega
      have m2n : (x != j) = false := by rw [bne_eq_false_iff_eq]; exact e2
      clear HS1 HF HA0 HA1 hl hlm QL e1 e2
      go_wp2_with fail
      refine Settle.region (fun W => PointOk.Box W w.heap.size ax ay ∧ PointOk.Box W (w.heap.size + 1) bx bY ∧ PointOk.Box W (w.heap.size + 1 + 1) cx cy ∧ PtsAt W w.heap.size (some ad) ps ∧ IntsAt W w.heap.size (some bd) (li l) ∧ IntAt W bd k (b : Int) ∧ IntAt W bd s (x : Int) ∧ PtAt W ad x px py ∧ Below w.heap.size w W) (by kernel_rfl) (by kernel_rfl) (by kernel_rfl) (by kernel_rfl) (HO _ _ S0 ((Below.refl _ _).drew)) ?_
      clear S0
      repeat (first
        | (refine Settle.Settles.off (by rfl) ?_; simp only [Act.put, List.setIfInBounds_toArray, List.set_cons_zero, List.set_cons_succ])
        | (refine Settle.Settles.quiet (v := ?_) (by rfl) ?_ ?_
           rotate_left
           · (intro W hS; obtain ⟨⟨_, _⟩, ⟨_, _⟩, ⟨_, _⟩, _, _, ⟨_, _⟩, ⟨_, _⟩, ⟨_, _⟩, _⟩ := hS; go_simp; with_reducible rfl)
           simp only [Act.put, List.setIfInBounds_toArray, List.set_cons_zero, List.set_cons_succ])
        | (refine Settle.Settles.call (v := ?_) (f := ?_) (args := ?_) (by rfl) ?_ ?_ ?_
           rotate_left 3
           · (intro W; go_simp; refine ⟨?_, ?_⟩ <;> with_reducible rfl)
           · (intro W hS; fail)
           simp only [Act.put, List.setIfInBounds_toArray, List.set_cons_zero, List.set_cons_succ]))
      refine Settle.Settles.nil ?_
      intro wr S0
      obtain ⟨⟨_, _⟩, ⟨_, _⟩, ⟨_, _⟩, _, _, ⟨_, _⟩, ⟨_, _⟩, ⟨_, _⟩, _⟩ := id S0
      go_wp2_with fail
      first
        | exact ⟨⟨s + 1, by omega, by go_num, hin2, S0.1, S0.2.1, S0.2.2.1, S0.2.2.2.1, S0.2.2.2.2.1, S0.2.2.2.2.2.1, S0.2.2.2.2.2.2.2.2⟩, by simp [intOf]; omega⟩
        | (go_roundw <;> first | exact ⟨s + 1, by omega, by go_num, hin2, S0.1, S0.2.1, S0.2.2.1, S0.2.2.2.1, S0.2.2.2.2.1, S0.2.2.2.2.2.1, S0.2.2.2.2.2.2.2.2⟩ | (simp [intOf]; omega))
    have m2 : ((x : Int) != (j : Int)) = true := by rw [bne_iff_ne]; omega
    have m2n : (x != j) = true := by rw [bne_iff_ne]; exact e2
    by_cases e3 : x = b
    · have hin2 := Lib.hid (HS1.out (by rw [HF.out, decide_eq_true e3]; simp))
      have m3 : ((x : Int) != (b : Int)) = false := by rw [bne_eq_false_iff_eq]; omega
      have m3n : (x != b) = false := by rw [bne_eq_false_iff_eq]; exact e3
      clear HS1 HF HA0 HA1 hl hlm QL e1 e2 e3
      go_wp2_with fail
      refine Settle.region (fun W => PointOk.Box W w.heap.size ax ay ∧ PointOk.Box W (w.heap.size + 1) bx bY ∧ PointOk.Box W (w.heap.size + 1 + 1) cx cy ∧ PtsAt W w.heap.size (some ad) ps ∧ IntsAt W w.heap.size (some bd) (li l) ∧ IntAt W bd k (b : Int) ∧ IntAt W bd s (x : Int) ∧ PtAt W ad x px py ∧ Below w.heap.size w W) (by kernel_rfl) (by kernel_rfl) (by kernel_rfl) (by kernel_rfl) (HO _ _ S0 ((Below.refl _ _).drew)) ?_
      clear S0
      repeat (first
        | (refine Settle.Settles.off (by rfl) ?_; simp only [Act.put, List.setIfInBounds_toArray, List.set_cons_zero, List.set_cons_succ])
        | (refine Settle.Settles.quiet (v := ?_) (by rfl) ?_ ?_
           rotate_left
           · (intro W hS; obtain ⟨⟨_, _⟩, ⟨_, _⟩, ⟨_, _⟩, _, _, ⟨_, _⟩, ⟨_, _⟩, ⟨_, _⟩, _⟩ := hS; go_simp; with_reducible rfl)
           simp only [Act.put, List.setIfInBounds_toArray, List.set_cons_zero, List.set_cons_succ])
        | (refine Settle.Settles.call (v := ?_) (f := ?_) (args := ?_) (by rfl) ?_ ?_ ?_
           rotate_left 3
           · (intro W; go_simp; refine ⟨?_, ?_⟩ <;> with_reducible rfl)
           · (intro W hS; fail)
           simp only [Act.put, List.setIfInBounds_toArray, List.set_cons_zero, List.set_cons_succ]))
      refine Settle.Settles.nil ?_
      intro wr S0
      obtain ⟨⟨_, _⟩, ⟨_, _⟩, ⟨_, _⟩, _, _, ⟨_, _⟩, ⟨_, _⟩, ⟨_, _⟩, _⟩ := id S0
      go_wp2_with fail
      first
        | exact ⟨⟨s + 1, by omega, by go_num, hin2, S0.1, S0.2.1, S0.2.2.1, S0.2.2.2.1, S0.2.2.2.2.1, S0.2.2.2.2.2.1, S0.2.2.2.2.2.2.2.2⟩, by simp [intOf]; omega⟩
        | (go_roundw <;> first | exact ⟨s + 1, by omega, by go_num, hin2, S0.1, S0.2.1, S0.2.2.1, S0.2.2.2.1, S0.2.2.2.2.1, S0.2.2.2.2.2.1, S0.2.2.2.2.2.2.2.2⟩ | (simp [intOf]; omega))
    have m3 : ((x : Int) != (b : Int)) = true := by rw [bne_iff_ne]; omega
    have m3n : (x != b) = true := by rw [bne_iff_ne]; exact e3
    cases tr
    · have hin2 := Lib.hid (HS1.out (by rw [HF.out]; simp))
      clear HS1 HF HA0 HA1 hl hlm e1 e2 e3
      go_wp2_with fail
      refine Settle.region (fun W => PointOk.Box W w.heap.size ax ay ∧ PointOk.Box W (w.heap.size + 1) bx bY ∧ PointOk.Box W (w.heap.size + 1 + 1) cx cy ∧ PtsAt W w.heap.size (some ad) ps ∧ IntsAt W w.heap.size (some bd) (li l) ∧ IntAt W bd k (b : Int) ∧ IntAt W bd s (x : Int) ∧ PtAt W ad x px py ∧ Below w.heap.size w W) (by kernel_rfl) (by kernel_rfl) (by kernel_rfl) (by kernel_rfl) (HO _ _ S0 ((Below.refl _ _).drew)) ?_
      clear S0
      repeat (first
        | (refine Settle.Settles.off (by rfl) ?_; simp only [Act.put, List.setIfInBounds_toArray, List.set_cons_zero, List.set_cons_succ])
        | (refine Settle.Settles.quiet (v := ?_) (by rfl) ?_ ?_
           rotate_left
           · (intro W hS; obtain ⟨⟨_, _⟩, ⟨_, _⟩, ⟨_, _⟩, _, _, ⟨_, _⟩, ⟨_, _⟩, ⟨_, _⟩, _⟩ := hS; go_simp; with_reducible rfl)
           simp only [Act.put, List.setIfInBounds_toArray, List.set_cons_zero, List.set_cons_succ])
        | (refine Settle.Settles.call (v := ?_) (f := ?_) (args := ?_) (by rfl) ?_ ?_ ?_
           rotate_left 3
           · (intro W; go_simp; refine ⟨?_, ?_⟩ <;> with_reducible rfl)
           · (intro W hS; first | (go_at_call 90; (with_reducible refine (QL.out _).mono ?_); rintro e W1 ⟨rfl, hb⟩; refine ⟨?_, HO _ _ hS hb⟩; with_reducible rfl))
           simp only [Act.put, List.setIfInBounds_toArray, List.set_cons_zero, List.set_cons_succ]))
      refine Settle.Settles.nil ?_
      intro wr S0
      obtain ⟨⟨_, _⟩, ⟨_, _⟩, ⟨_, _⟩, _, _, ⟨_, _⟩, ⟨_, _⟩, ⟨_, _⟩, _⟩ := id S0
      go_wp2_with fail
      first
        | exact ⟨⟨s + 1, by omega, by go_num, hin2, S0.1, S0.2.1, S0.2.2.1, S0.2.2.2.1, S0.2.2.2.2.1, S0.2.2.2.2.2.1, S0.2.2.2.2.2.2.2.2⟩, by simp [intOf]; omega⟩
        | (go_roundw <;> first | exact ⟨s + 1, by omega, by go_num, hin2, S0.1, S0.2.1, S0.2.2.1, S0.2.2.2.1, S0.2.2.2.2.1, S0.2.2.2.2.2.1, S0.2.2.2.2.2.2.2.2⟩ | (simp [intOf]; omega))
    · have E : Hid (r = false) := Lib.hid (HA0.out (by rw [HF.out, decide_eq_false e1, decide_eq_false e2, decide_eq_false e3]; rfl))
      clear HS1 HF HA0 HA1 hl hlm e1 e2 e3
      go_wp2_with fail
      refine Settle.region (fun W => PointOk.Box W w.heap.size ax ay ∧ PointOk.Box W (w.heap.size + 1) bx bY ∧ PointOk.Box W (w.heap.size + 1 + 1) cx cy ∧ PtsAt W w.heap.size (some ad) ps ∧ IntsAt W w.heap.size (some bd) (li l) ∧ IntAt W bd k (b : Int) ∧ IntAt W bd s (x : Int) ∧ PtAt W ad x px py ∧ Below w.heap.size w W) (by kernel_rfl) (by kernel_rfl) (by kernel_rfl) (by kernel_rfl) (HO _ _ S0 ((Below.refl _ _).drew)) ?_
      clear S0
      repeat (first
        | (refine Settle.Settles.off (by rfl) ?_; simp only [Act.put, List.setIfInBounds_toArray, List.set_cons_zero, List.set_cons_succ])
        | (refine Settle.Settles.quiet (v := ?_) (by rfl) ?_ ?_
           rotate_left
           · (intro W hS; obtain ⟨⟨_, _⟩, ⟨_, _⟩, ⟨_, _⟩, _, _, ⟨_, _⟩, ⟨_, _⟩, ⟨_, _⟩, _⟩ := hS; go_simp; with_reducible rfl)
           simp only [Act.put, List.setIfInBounds_toArray, List.set_cons_zero, List.set_cons_succ])
        | (refine Settle.Settles.call (v := ?_) (f := ?_) (args := ?_) (by rfl) ?_ ?_ ?_
           rotate_left 3
           · (intro W; go_simp; refine ⟨?_, ?_⟩ <;> with_reducible rfl)
           · (intro W hS; first | (go_at_call 90; (with_reducible refine (QL.out _).mono ?_); rintro e W1 ⟨rfl, hb⟩; refine ⟨?_, HO _ _ hS hb⟩; with_reducible rfl))
           simp only [Act.put, List.setIfInBounds_toArray, List.set_cons_zero, List.set_cons_succ]))
      refine Settle.Settles.nil ?_
      intro wr S0
      obtain ⟨⟨_, _⟩, ⟨_, _⟩, ⟨_, _⟩, _, _, ⟨_, _⟩, ⟨_, _⟩, ⟨_, _⟩, _⟩ := id S0
      go_wp2_with fail
      go_ret
      exact ⟨ret_bool E.out.symm, S0.2.2.2.2.2.2.2.2⟩
end Go.Proofs.YtkcodmafakjkfaaGreat.TrisSpec

/-
  What the model's TrianglesOf does, as a contract: the triangles, in a new slice.
-/
namespace Go.Proofs.YtkcodmafakjkfaaGreat.TrisModel
open Go.RowKit Own PointMath WallMath RoomMath Pts Blk AreaMath PlaceMath FloorMath LineMath CutsMath SightMath DiagMath TriMath TrisMath Ints Tup3 TriRow TrisSpec
open PointOk (ret_bool ret_i64 below1 below2 below3)

theorem infoI : (Tryz.prog.info? 3).map (fun i => (i.zero, i.size, i.bytes)) = some (some (.int .i64 0), 1, 8) := by kernel_rfl
def lenV : Value → Nat
  | .slice _ n _ => n
  | _ => 0
/-- append of a slice of numbers, an empty one too, at a step of a region that draws its order. -/
theorem step_append_ints (w : World) {ops : Array Oper} {o : Oper} {a : Act} {K : Act → World → Prop} {Q : Exit → Act → World → Prop} {E : Prop} (hgd : o.guard = none) (s x : Operand)
    (ho : o.op = .call { callee := .builtin .append, args := #[s, x], argTypes := #[43, 43] })
    (B : Nat) (v : Value) (n : Nat) (xs : List Int) (hs : a.eval s = v) (hown : w.ownsRow B 3 1 v n (icells xs))
    (A2 : Option Addr) (m c : Nat) (zs : List Int) (hz : zs.length = m) (hx : a.eval x = .slice A2 m c) (hq : IntsAt w w.heap.size A2 zs) (hN : n + m ≤ 1048576) (hB : B ≤ w.heap.size)
    (h : ∀ v' w', w'.ownsRow B 3 1 v' (n + m) (icells (xs ++ zs)) → w.grownBy w' v.ownBlock → K (a.put o.dst v') w') :
    if Region.wanted o (yielded ops a.tmps) = true then Oper.wp Tryz.prog o a w K Q else E := by
  have hw : Region.wanted o (yielded ops a.tmps) = true := by simp [Region.wanted, hgd]
  rw [if_pos hw]
  obtain ⟨i0, hi, hz0, hz1, hz2⟩ := info_parts infoI
  obtain ⟨A0, c0, rfl⟩ := own_shape hown
  by_cases hm : m = 0
  · subst hm
    obtain rfl : zs = [] := List.length_eq_zero_iff.1 hz
    have hc : n ≤ c0 := by
      rcases hown.2 with ⟨h1, _⟩ | ⟨g', cap', cur, h1, _, _, h4, _⟩
      · injection h1 with _ h2 h3; omega
      · injection h1 with _ h2 h3; omega
    refine Lib.wp_append_run w s x _ _ ho _ _ hs hx _ _ (run_append_nothing w _ _ o.type _ i0 Tryz.underlying43 hi _ _ _ hc _ ?_) ?_
    · cases A2 with
      | none => exact Src.ofNil w Tryz.underlying43 _
      | some ad => exact Src.ofSlice w Tryz.underlying43 ad 0 c [] (by simp) (by simp) (by simp)
    · exact h _ _ (by simpa using hown) ⟨rfl, rfl, rfl, Nat.le_refl _, fun _ _ _ => rfl⟩
  · obtain ⟨ad, rfl⟩ : ∃ ad, A2 = some ad := by
      obtain ⟨ad, e, _⟩ := hq 0 (by omega)
      exact ⟨ad, e⟩
    refine wp_append_lies w s x _ ho B 3 i0 _ 1 8 Tryz.underlying43 hi hz0 hz1 hz2 rfl (by decide) _ n (icells xs) hs hown ad m c (icells zs) hx (by rw [icells_length, hz, Nat.mul_one]) (ConcatI.news hq) (ConcatI.icells_one zs) (by omega) (by unfold maxLen; omega) (by omega) hB _ rfl ?_
    intro g cap w' ho' hg _ _
    exact h _ _ (by rw [ConcatI.icells_app]; exact ho') hg
theorem ints_take {w : World} {b : Nat} {A : Option Addr} {zs : List Int} (h : IntsAt w b A zs) (k : Nat) : IntsAt w b A (zs.take k) := by
  intro j hj
  rw [List.length_take] at hj
  obtain ⟨ad, h1, h2, h3⟩ := h j (by omega)
  exact ⟨ad, h1, h2, by rw [List.getElem_take]; exact h3⟩
/-- What is left of a slice behind its first elements, where the capacity may end there. -/
def dropA (B : Option Addr) (cb j : Nat) : Option Addr := if cb = j then B else B.map fun x => { block := x.block, off := x.off + j }
theorem ints_drop {w : World} {b : Nat} {A : Option Addr} {zs : List Int} (h : IntsAt w b A zs) {cb j : Nat} (hj0 : 0 < j) (hcb : zs.length ≤ cb) : IntsAt w b (dropA A cb j) (zs.drop j) := by
  intro i hi
  rw [List.length_drop] at hi
  obtain ⟨ad, rfl, h2, h3⟩ := h (j + i) (by omega)
  unfold dropA
  rw [if_neg (by omega)]
  have e : (⟨ad.block, ad.off + j, none⟩ : Addr).add i = ad.add (j + i) := by
    unfold Addr.add
    by_cases hi0 : i = 0
    · subst hi0
      simp
      intro h; omega
    · rw [if_neg hi0, if_neg (by omega)]
      simp [Nat.add_assoc]
  refine ⟨_, rfl, h2, ?_⟩
  rw [List.getElem_drop, e]
  exact h3
theorem li_cell {l : List Nat} {k : Nat} (h : k < l.length) : (icells (li l))[k]? = some (.int .i64 ((ix l k : Nat) : Int)) := by
  unfold icells
  rw [List.getElem?_map, li_at h]
  rfl
/-- Where the search from the end has come to. -/
def Seek (f : Nat → Bool) (m k : Nat) (v : Int) : Prop :=
  (v = -1 ∧ ∀ j, k ≤ j → j < m → f j = false) ∨ ∃ x : Nat, v = (x : Int) ∧ k ≤ x ∧ x < m ∧ f x = true ∧ ∀ j, k ≤ j → j < x → f j = false
theorem seek_start (f : Nat → Bool) (m : Nat) : Seek f m m (-1) := .inl ⟨rfl, fun j h1 h2 => by omega⟩
theorem seek_hit {f : Nat → Bool} {m k : Nat} (hk : k < m) (h : f k = true) : Seek f m k (k : Int) := .inr ⟨k, rfl, Nat.le_refl _, hk, h, fun j h1 h2 => by omega⟩
theorem seek_miss {f : Nat → Bool} {m k : Nat} {v : Int} (hs : Seek f m (k + 1) v) (h : f k = false) : Seek f m k v := by
  rcases hs with ⟨h1, h2⟩ | ⟨x, h1, h2, h3, h4, h5⟩
  · refine .inl ⟨h1, fun j ha hb => ?_⟩
    rcases Nat.eq_or_lt_of_le ha with e | e
    · rw [← e]; exact h
    · exact h2 j e hb
  · refine .inr ⟨x, h1, by omega, h3, h4, fun j ha hb => ?_⟩
    rcases Nat.eq_or_lt_of_le ha with e | e
    · rw [← e]; exact h
    · exact h5 j e hb
theorem seek_end {f : Nat → Bool} {m : Nat} {v : Int} (hs : Seek f m 0 v) : v = firstI m f := by
  rcases hs with ⟨h1, h2⟩ | ⟨x, h1, _, h3, h4, h5⟩
  · rw [h1, firstI_none (fun j hj => h2 j (by omega) hj)]
  · rw [h1, firstI_at h3 h4 (fun j hj => h5 j (by omega) hj)]
theorem seek_in {f : Nat → Bool} {m k : Nat} {v : Int} (hs : Seek f m k v) : -1 ≤ v ∧ v < (m : Int) ∨ m = 0 := by
  rcases hs with ⟨h1, _⟩ | ⟨x, h1, _, h3, _⟩ <;> omega

set_option maxRecDepth 100000 in
set_option maxHeartbeats 12800000 in
theorem trianglesOf (A : Option Addr) (n cap : Nat) (w : World) (ps : List (Int × Int)) (hl : ps.length = n) (hn : n ≤ 1048576) (hp : PtsAt w w.heap.size A ps) :
    Calls Tryz.prog 16 #[.agg #[.slice A n cap]] w (GivesC 65 3 w (trisL ps).length (cellsT (trisL ps))) := by
  obtain ⟨r, hr⟩ : ∃ r, trisL ps = r := ⟨_, rfl⟩
  have HR := Lib.hid hr
  rw [hr]
  clear hr
  have HE0 : Hid (roomB ps = false → r = []) := Lib.hid (fun h => by rw [← HR.out]; unfold trisL; rw [h]; rfl)
  have HE1 : Hid (roomB ps = true → (trisF ps (List.range n)).getD [] = r) := Lib.hid (fun h => by rw [← HR.out]; unfold trisL; rw [h, hl]; rfl)
  clear HR
  go_enter Tryz.func16, Tryz.ntmps16
  go_wp2_with fail
  have X0 := Pts.boxR w (.slice A n cap) 30 (k := w.heap.size) (by simp)
  have b0 := PointOk.below1 w (Obj.cells #[.slice A n cap] 30)
  have HO : ∀ W W' : World, (Pts.BoxR W (w.heap.size) (.slice A n cap) ∧ PtsAt W w.heap.size A ps ∧ Below w.heap.size w W) → Below W.heap.size W W' → (Pts.BoxR W' (w.heap.size) (.slice A n cap) ∧ PtsAt W' w.heap.size A ps ∧ Below w.heap.size w W') := fun W W' ⟨h0, x0, hb⟩ h => ⟨h0.later h, x0.later (h.mono hb.size), hb.trans (h.mono hb.size)⟩
  have hz0_ : Hid (((w.alloc (Obj.cells #[.slice A n cap] 30))).heap.size = w.heap.size + 1) := Lib.hid (by simp)
  have Y0 : PtsAt ((w.alloc (Obj.cells #[.slice A n cap] 30))) w.heap.size A ps := hp.later b0
  generalize (w.alloc (Obj.cells #[.slice A n cap] 30)) = w0 at X0 Y0 b0 hz0_ ⊢
  have S0 := (⟨X0, Y0, b0⟩ : Pts.BoxR w0 (w.heap.size) (.slice A n cap) ∧ PtsAt w0 w.heap.size A ps ∧ Below w.heap.size w w0)
  clear X0 Y0 b0
  obtain ⟨⟨_, _⟩, _, _⟩ := id S0
  have HO2 : ∀ W W' : World, (Pts.BoxR W (w.heap.size) (.slice A n cap) ∧ PtsAt W w.heap.size A ps ∧ Below w.heap.size w W) → Below (w.heap.size + 1) W W' → (Pts.BoxR W' (w.heap.size) (.slice A n cap) ∧ PtsAt W' w.heap.size A ps ∧ Below w.heap.size w W') := fun W W' ⟨h0, x0, hb⟩ h => ⟨⟨(h.cell (by simp)).trans h0.1, trivial⟩, x0.later (h.mono (by omega)), hb.trans (h.mono (by omega))⟩
  have hz1 : w.heap.size + 1 ≤ w0.heap.size := World.block_lt_of_cell? _ _ S0.1.1
  have h4 := own_base (own_empty w0 65 3) hz1
  replace S0 := HO _ _ S0 (below1 w0 (Obj.cells #[] 65))
  replace hz1 : w.heap.size + 1 ≤ (w0.alloc (Obj.cells #[] 65)).heap.size := Nat.le_trans hz1 (below1 w0 _).size
  generalize w0.alloc (Obj.cells #[] 65) = w1 at *
  rw [hz0_.out] at h4
  refine (RoomOkSpec.roomOk A n cap _ ps hl hn (S0.2.1.wide S0.2.2.size)).mono ?_
  rintro e w2 ⟨rfl, hb_⟩
  replace S0 := HO _ _ S0 hb_
  replace h4 := Lib.hid (own_below h4 hb_)
  replace hz1 := Nat.le_trans hz1 hb_.size
  clear hb_
  obtain ⟨⟨_, _⟩, _, _⟩ := id S0
  cases hr : roomB ps
  · have E := Lib.hid (HE0.out hr)
    clear HE0 HE1 hl
    go_wp2_with fail
    go_ret
    exact ⟨some ⟨w.heap.size + 1, 0, none⟩, 0, by rw [E.out]; rfl, by rw [E.out]; exact own_base h4.out (Nat.le_succ _), S0.2.2⟩
  have HE := Lib.hid (HE1.out hr)
  have hy := roomB_yes hr
  clear HE0 HE1
  go_wp2_with fail
  have h3 := own_base (own_empty w2 3 1) hz1
  have hb0 := below1 w2 (Obj.cells #[] 3)
  replace S0 := HO _ _ S0 hb0
  have hbB := Lib.hid hb0
  clear hb0
  obtain ⟨⟨_, _⟩, _, _⟩ := id S0
  obtain ⟨W3, hW3⟩ : ∃ W, w2.alloc (Obj.cells #[] 3) = W := ⟨_, rfl⟩
  rw [hW3] at S0 h3 hbB
  have hbel0 : Below w2.heap.size W3 W3 := Below.refl _ _
  have hz2 : w2.heap.size ≤ W3.heap.size := hbB.out.size
  have h30 : W3.ownsRow w2.heap.size 3 1 (.slice (some ⟨w2.heap.size, 0, none⟩) 0 0) 0 [] := by rw [← hW3]; exact own_empty w2 3 1
  rw [hW3]
  clear h3 hW3
  go_loopw [4, 5] (fun v q wr => ∃ k : Nat, k ≤ n ∧ q = .int .i64 k ∧ wr.ownsRow w2.heap.size 3 1 v k (icells (li (List.range k))) ∧ w2.heap.size ≤ wr.heap.size ∧ Below w2.heap.size W3 wr)
    (fun _ q _ => n - (intOf q).toNat)
  case atStart => exact ⟨0, Nat.zero_le _, rfl, h30, hz2, hbel0⟩
  case round =>
    obtain ⟨k, hk, rfl, h3, hz3, hbel⟩ := hrel
    have hbW : Below W3.heap.size W3 wr → (Pts.BoxR wr (w.heap.size) (.slice A n cap) ∧ PtsAt wr w.heap.size A ps ∧ Below w.heap.size w wr) := fun h => HO _ _ S0 h
    have hb1 : w.heap.size + 1 ≤ w2.heap.size := hz1
    have S1 := HO2 _ _ S0 (hbel.mono hb1)
    obtain ⟨⟨_, _⟩, _, _⟩ := id S1
    have h3 := Lib.hid h3
    by_cases hlt : k < n
    · have hk1 : (k : Int) < (n : Int) := by omega
      have hk0 : (0 : Int) ≤ (k : Int) := by omega
      clear hbW
      go_wp2_with (at_builtin; refine AppOne.append_one _ (by rfl) _ _ (by rfl) w2.heap.size _ k (icells (li (List.range k))) (by rfl) h3.out (k : Int) (by rfl) (by omega) hz3 ?_)
      intro v5 w5 h5 hb5
      rw [show icells (li (List.range k)) ++ [Value.int .i64 (k : Int)] = icells (li (List.range (k + 1))) by rw [List.range_succ, li_snoc, icells_snoc]] at h5
      have h5 := Lib.hid h5
      have hb6 := hbel.trans hb5
      have hz5 := Nat.le_trans hz3 hb5.size
      clear h3 hb5 S1
      go_wp2_with fail
      first
        | exact ⟨⟨k + 1, by omega, by go_num, h5.out, hz5, hb6⟩, by simp [intOf]; omega⟩
        | (go_roundw <;> first | exact ⟨k + 1, by omega, by go_num, h5.out, hz5, hb6⟩ | (simp [intOf]; omega))
    obtain rfl : n = k := by omega
    clear hbW S0
    have S0 := S1
    have h4 := Lib.hid (own_below h4.out (hbB.out.trans hbel))
    have h3 := Lib.hid (own_base h3.out hz1)
    have hz := Nat.le_trans hz1 hz3
    obtain ⟨A1, c1, rfl⟩ := own_shape h3.out
    clear hbB hbel hbel0 h30 hz3 hz2 S1 hz1
    obtain ⟨⟨_, _⟩, _, _⟩ := id S0
    have hn3 := hy.1
    go_wp2_with fail
    go_loopw [3, 4] (fun v3 v4 wr => ∃ (m q : Nat) (l : List Nat) (o : List Tu) (A3 : Option Addr) (c3 : Nat), v4 = .slice A3 m c3 ∧ wr.ownsRow (w.heap.size + 1) 3 1 (.slice A3 m c3) m (icells (li l)) ∧ wr.ownsRow (w.heap.size + 1) 65 3 v3 q (cellsT o) ∧
      Hid (l.length = m ∧ o.length = q ∧ Asc n l ∧ 3 ≤ m ∧ q + m = n ∧ (trisF ps l).map (o ++ ·) = trisF ps (List.range n)) ∧ w.heap.size + 1 ≤ wr.heap.size ∧ (Pts.BoxR wr (w.heap.size) (.slice A n cap) ∧ PtsAt wr w.heap.size A ps ∧ Below w.heap.size w wr))
      (fun _ v4 _ => lenV v4)
    case atStart => exact ⟨n, 0, List.range n, [], A1, c1, rfl, h3.out, h4.out, Lib.hid ⟨by simp, rfl, asc_range n, by omega, by omega, by simp⟩, hz, S0⟩
    case round =>
      clear S0 h3 h4 hz
      obtain ⟨m, q, l, o, A3, c3, rfl, h3, h4, hi, hz, S0⟩ := hrel
      obtain ⟨⟨_, _⟩, _, _⟩ := id S0
      obtain ⟨hlm, hoq, ha, hm3, hqm, hmap⟩ := hi.out
      clear hi
      have hlm := Lib.hid hlm
      have hoq := Lib.hid hoq
      have ha := Lib.hid ha
      have hmap := Lib.hid hmap
      have hA3 : ∃ g3, A3 = some ⟨g3, 0, none⟩ := by
        obtain ⟨g3, cc3, e3, _, _⟩ := h3.form (by omega)
        injection e3 with x1 _ x3
        exact ⟨g3, x1⟩
      have hc3 : m ≤ c3 := by
        rcases h3.2 with ⟨h1, _⟩ | ⟨g', cap', cur, h1, _, _, h4_, _⟩
        · injection h1 with _ h2 h3; omega
        · injection h1 with _ h2 h3; omega
      obtain ⟨A4, c4, rfl⟩ := own_shape h4
      have h3 := Lib.hid h3
      have h4 := Lib.hid h4
      by_cases hlt : 3 < m
      rotate_left
      · obtain ⟨g3, rfl⟩ := hA3
        obtain rfl : m = 3 := by omega
        have E : Hid (o ++ [triAt l 1] = r) := Lib.hid (by rw [← HE.out, ← hmap.out, trisF_end (by rw [hlm.out]; omega)]; rfl)
        have hlt3 : ¬ (3 : Int) < 3 := by omega
        obtain ⟨a, b, c, et, hab, hbc, hcn, hr3⟩ := rot ha.out (by rw [hlm.out]; omega) (show 1 < l.length by rw [hlm.out]; omega)
        have et2 : triS (ix l 0) (ix l 1) (ix l 2) = triAt l 1 := by unfold triAt pvx nxx; rw [hlm.out]; rfl
        have d0 := ha.out.1 0 1 (by omega) (by rw [hlm.out]; omega)
        have d1 := ha.out.1 1 2 (by omega) (by rw [hlm.out]; omega)
        have d2 := ha.out.2 2 (by rw [hlm.out]; omega)
        have QT : Hid (∀ w, _) := Lib.hid fun w => l11Sorted (ix l 0) (ix l 1) (ix l 2) (by omega) (by omega) (by omega) (by omega) w
        rw [et2] at QT
        obtain ⟨z0, z1, z2, hz_⟩ : ∃ z0 z1 z2, triAt l 1 = (z0, z1, z2) := ⟨_, _, _, rfl⟩
        rw [hz_] at QT E
        have hq1 : r.length = q + 1 := by rw [← E.out, List.length_append, hoq.out]; rfl
        have L0 := li_at (l := l) (k := 0) (by rw [hlm.out]; omega)
        have L1 := li_at (l := l) (k := 1) (by rw [hlm.out]; omega)
        have L2 := li_at (l := l) (k := 2) (by rw [hlm.out]; omega)
        generalize ix l 0 = x0 at *
        generalize ix l 1 = x1 at *
        generalize ix l 2 = x2 at *
        clear hmap HE hz_ hl hr hy ha hlm et et2 hr3 d0 d1 d2
        generalize li l = LL at *
        have HO : ∀ W W' : World, (Pts.BoxR W w.heap.size (.slice A n cap) ∧ Hid (W.ownsRow (w.heap.size + 1) 3 1 (.slice (some ⟨g3, 0, none⟩) 3 c3) 3 (icells LL)) ∧ Hid (W.ownsRow (w.heap.size + 1) 65 3 (.slice A4 q c4) q (cellsT o)) ∧ w.heap.size + 1 ≤ W.heap.size ∧ Below w.heap.size w W) → Below W.heap.size W W' → (Pts.BoxR W' w.heap.size (.slice A n cap) ∧ Hid (W'.ownsRow (w.heap.size + 1) 3 1 (.slice (some ⟨g3, 0, none⟩) 3 c3) 3 (icells LL)) ∧ Hid (W'.ownsRow (w.heap.size + 1) 65 3 (.slice A4 q c4) q (cellsT o)) ∧ w.heap.size + 1 ≤ W'.heap.size ∧ Below w.heap.size w W') := fun W W' ⟨x0, x1, x2, x3, hb⟩ h => ⟨x0.later h, Lib.hid (own_below (x1).out h), Lib.hid (own_below (x2).out h), Nat.le_trans x3 h.size, hb.trans (h.mono hb.size)⟩
        have S1 : Pts.BoxR wr w.heap.size (.slice A n cap) ∧ Hid (wr.ownsRow (w.heap.size + 1) 3 1 (.slice (some ⟨g3, 0, none⟩) 3 c3) 3 (icells LL)) ∧ Hid (wr.ownsRow (w.heap.size + 1) 65 3 (.slice A4 q c4) q (cellsT o)) ∧ w.heap.size + 1 ≤ wr.heap.size ∧ Below w.heap.size w wr := ⟨S0.1, h3, h4, hz, S0.2.2⟩
        clear h3 h4 hz S0
        have S0 := S1
        clear S1
        obtain ⟨⟨_, _⟩, _, _, _, _⟩ := id S0
        go_wp2_with fail
        have S0d := HO _ _ S0 ((Below.refl _ _).drew)
        have HS0_ : wr.drew.cell? ⟨g3, 0, none⟩ = some (.int .i64 (x0 : Int)) ∧ wr.drew.cell? ⟨g3, 1, none⟩ = some (.int .i64 (x1 : Int)) ∧ wr.drew.cell? ⟨g3, 2, none⟩ = some (.int .i64 (x2 : Int)) := ⟨(row_cell S0d.2.1.out (j := 0) (by omega) L0).1, (row_cell S0d.2.1.out (j := 1) (by omega) L1).1, (row_cell S0d.2.1.out (j := 2) (by omega) L2).1⟩
        go_region_held3 (fun W => W.cell? ⟨g3, 0, none⟩ = some (.int .i64 (x0 : Int)) ∧ W.cell? ⟨g3, 1, none⟩ = some (.int .i64 (x1 : Int)) ∧ W.cell? ⟨g3, 2, none⟩ = some (.int .i64 (x2 : Int))) (first | exact HS0_ | exact HS8_ | exact HS9_ | exact HS5_ | assumption) (first | (go_at_call 57; refine (QT.out _).mono ?_; rintro e w8 ⟨rfl, hb8⟩; have S8 := HO _ _ S0d hb8; have HS8_ : w8.cell? ⟨g3, 0, none⟩ = some (.int .i64 (x0 : Int)) ∧ w8.cell? ⟨g3, 1, none⟩ = some (.int .i64 (x1 : Int)) ∧ w8.cell? ⟨g3, 2, none⟩ = some (.int .i64 (x2 : Int)) := ⟨(row_cell S8.2.1.out (j := 0) (by omega) L0).1, (row_cell S8.2.1.out (j := 1) (by omega) L1).1, (row_cell S8.2.1.out (j := 2) (by omega) L2).1⟩; have S9 := HO _ _ S8 (below1 w8 (Obj.cells #[.int .i64 z0, .int .i64 z1, .int .i64 z2] 65)); have HS9_ : (w8.alloc (Obj.cells #[.int .i64 z0, .int .i64 z1, .int .i64 z2] 65)).cell? ⟨g3, 0, none⟩ = some (.int .i64 (x0 : Int)) ∧ (w8.alloc (Obj.cells #[.int .i64 z0, .int .i64 z1, .int .i64 z2] 65)).cell? ⟨g3, 1, none⟩ = some (.int .i64 (x1 : Int)) ∧ (w8.alloc (Obj.cells #[.int .i64 z0, .int .i64 z1, .int .i64 z2] 65)).cell? ⟨g3, 2, none⟩ = some (.int .i64 (x2 : Int)) := ⟨(row_cell S9.2.1.out (j := 0) (by omega) L0).1, (row_cell S9.2.1.out (j := 1) (by omega) L1).1, (row_cell S9.2.1.out (j := 2) (by omega) L2).1⟩) | (refine step_append_tri _ (by rfl) _ _ (by rfl) (w.heap.size + 1) _ q o (by rfl) S8.2.2.1.out z0 z1 z2 (by rfl) (by omega) S8.2.2.2.1 ?_; intro v5 w5 h5 hg5; have h35 := kept_apart S8.2.1.out hg5 (rows_ne S8.2.1.out S8.2.2.1.out (by decide)); have HS5_ : w5.cell? ⟨g3, 0, none⟩ = some (.int .i64 (x0 : Int)) ∧ w5.cell? ⟨g3, 1, none⟩ = some (.int .i64 (x1 : Int)) ∧ w5.cell? ⟨g3, 2, none⟩ = some (.int .i64 (x2 : Int)) := ⟨(row_cell h35 (j := 0) (by omega) L0).1, (row_cell h35 (j := 1) (by omega) L1).1, (row_cell h35 (j := 2) (by omega) L2).1⟩))
        have hb5 : Below (w.heap.size + 1) w8 w5 := (Below.refl _ _).grown hg5 S8.2.2.2.1 (fun g hg => (S8.2.2.1.out.lt g hg).1)
        have hbw := S8.2.2.2.2.trans (hb5.mono (by omega))
        rw [E.out, ← hq1] at h5
        obtain ⟨A5, c5, rfl⟩ := own_shape h5
        have h5 := Lib.hid h5
        clear hb5 hg5 S0 HO
        go_wp2_with fail
        go_ret
        exact ⟨A5, c5, rfl, own_base h5.out (by omega), hbw⟩
      obtain ⟨ad, rfl⟩ : ∃ ad, A3 = some ad := by
        obtain ⟨g3, rfl⟩ := hA3
        exact ⟨_, rfl⟩
      have hgt : (3 : Int) < (m : Int) := by omega
      have hmb : m ≤ 1048576 := by omega
      have QE : Hid (∀ (j : Nat) (hj : j < m) W h h2, _) := Lib.hid fun (j : Nat) (hj : j < m) W h h2 => l11Ear A n cap (some ad) m c3 j W ps hl hr h l hlm.out hlt hmb ha.out h2 hj
      have u0 : IntKind.i64.wrap ((m : Int) - 1) = (m : Int) - 1 := IntWalk.i64_in _ (by omega)
      clear hA3
      have HO : ∀ W W' : World, (Pts.BoxR W w.heap.size (.slice A n cap) ∧ PtsAt W w.heap.size A ps ∧ Hid (W.ownsRow (w.heap.size + 1) 3 1 (.slice (some ad) m c3) m (icells (li l))) ∧ Hid (W.ownsRow (w.heap.size + 1) 65 3 (.slice A4 q c4) q (cellsT o)) ∧ w.heap.size + 1 ≤ W.heap.size ∧ Below w.heap.size w W) → Below W.heap.size W W' → (Pts.BoxR W' w.heap.size (.slice A n cap) ∧ PtsAt W' w.heap.size A ps ∧ Hid (W'.ownsRow (w.heap.size + 1) 3 1 (.slice (some ad) m c3) m (icells (li l))) ∧ Hid (W'.ownsRow (w.heap.size + 1) 65 3 (.slice A4 q c4) q (cellsT o)) ∧ w.heap.size + 1 ≤ W'.heap.size ∧ Below w.heap.size w W') := fun W W' ⟨x0, x1, x2, x3, x4, hb⟩ h => ⟨x0.later h, x1.later (h.mono hb.size), Lib.hid (own_below (x2).out h), Lib.hid (own_below (x3).out h), Nat.le_trans x4 h.size, hb.trans (h.mono hb.size)⟩
      have S1 : Pts.BoxR wr w.heap.size (.slice A n cap) ∧ PtsAt wr w.heap.size A ps ∧ Hid (wr.ownsRow (w.heap.size + 1) 3 1 (.slice (some ad) m c3) m (icells (li l))) ∧ Hid (wr.ownsRow (w.heap.size + 1) 65 3 (.slice A4 q c4) q (cellsT o)) ∧ w.heap.size + 1 ≤ wr.heap.size ∧ Below w.heap.size w wr := ⟨S0.1, S0.2.1, h3, h4, hz, S0.2.2⟩
      clear h3 h4 hz S0
      have S0 := S1
      clear S1
      obtain ⟨⟨_, _⟩, _, _, _, _, _⟩ := id S0
      go_wp2_with fail
      go_loopw [6, 7] (fun v6 v7 wr => ∃ (k : Nat) (v : Int), k ≤ m ∧ v7 = .int .i64 ((k : Int) - 1) ∧ v6 = .int .i64 v ∧ Hid (Seek (earM ps l) m k v) ∧ (Pts.BoxR wr w.heap.size (.slice A n cap) ∧ PtsAt wr w.heap.size A ps ∧ Hid (wr.ownsRow (w.heap.size + 1) 3 1 (.slice (some ad) m c3) m (icells (li l))) ∧ Hid (wr.ownsRow (w.heap.size + 1) 65 3 (.slice A4 q c4) q (cellsT o)) ∧ w.heap.size + 1 ≤ wr.heap.size ∧ Below w.heap.size w wr))
        (fun _ v7 _ => (intOf v7 + 1).toNat)
      case atStart => exact ⟨m, -1, Nat.le_refl _, rfl, rfl, Lib.hid (seek_start _ _), S0⟩
      case round =>
        clear S0
        obtain ⟨k, v, hk, rfl, rfl, hs, S0⟩ := hrel
        rename World => wi
        obtain ⟨⟨_, _⟩, _, _, _, _, _⟩ := id S0
        by_cases hk0 : k = 0
        rotate_left
        · obtain ⟨j, rfl⟩ : ∃ j, k = j + 1 := ⟨k - 1, by omega⟩
          have QJ := Lib.hid (QE.out j (by omega))
          have HH : Hid (earM ps l j = true → Seek (earM ps l) m j (j : Int)) := Lib.hid (fun h => seek_hit (by omega) h)
          have HM : Hid (earM ps l j = false → Seek (earM ps l) m j v) := Lib.hid (fun h => seek_miss hs.out h)
          generalize earM ps l j = b at *
          have ej : ((j + 1 : Nat) : Int) - 1 = (j : Int) := by omega
          rw [ej]
          have g0 : (0 : Int) ≤ (j : Int) := by omega
          have u1 : IntKind.i64.wrap ((j : Int) - 1) = (j : Int) - 1 := IntWalk.i64_in _ (by omega)
          have hz0 : w.heap.size ≤ wi.heap.size := S0.2.2.2.2.2.size
          clear hs ej HE hmap
          go_wp2_with fail
          refine (QJ.out _ (S0.2.1.wide hz0) (ints_own S0.2.2.1.out)).mono ?_
          rintro e w1 ⟨rfl, hb_⟩
          replace S0 := HO _ _ S0 hb_
          clear hb_ QJ hz0
          obtain ⟨⟨_, _⟩, _, _, _, _, _⟩ := id S0
          cases b
          · have h2 := Lib.hid (HM.out rfl)
            clear HH HM
            go_wp2_with fail
            first
              | exact ⟨⟨j, v, by omega, by go_num, rfl, h2, S0⟩, by simp [intOf]⟩
              | (go_roundw <;> first | exact ⟨j, v, by omega, by go_num, rfl, h2, S0⟩ | (simp [intOf]; omega))
          · have h2 := Lib.hid (HH.out rfl)
            clear HH HM
            go_wp2_with fail
            first
              | exact ⟨⟨j, (j : Int), by omega, by go_num, rfl, h2, S0⟩, by simp [intOf]⟩
              | (go_roundw <;> first | exact ⟨j, (j : Int), by omega, by go_num, rfl, h2, S0⟩ | (simp [intOf]; omega))
        obtain rfl : k = 0 := hk0
        have hv : v = earAt ps l := by rw [seek_end hs.out]; unfold earAt; rw [hlm.out]
        have hlb := earAt_lt ps l
        rw [hlm.out, ← hv] at hlb
        have g1 : ¬ (0 : Int) ≤ ((0 : Nat) : Int) - 1 := by omega
        have g2 : ¬ (0 : Int) ≤ -1 := by omega
        clear QE hs
        by_cases hneg : v < 0
        · have E : Hid (r = []) := Lib.hid (by rw [← HE.out, ← hmap.out, trisF_none (by rw [hlm.out]; exact hlt) (by rw [← hv]; exact hneg)]; rfl)
          have hbn := S0.2.2.2.2.2.trans ((below1 wi (Obj.cells #[] 65)).mono S0.2.2.2.2.2.size)
          have hon := Lib.hid (own_base (own_empty wi 65 3) S0.2.2.2.2.2.size)
          clear HE hmap hlb hl hr hy ha hlm hv
          go_wp2_with fail
          go_ret
          exact ⟨_, _, by rw [E.out]; rfl, by rw [E.out]; exact hon.out, hbn⟩
        obtain ⟨k, rfl⟩ := Int.eq_ofNat_of_zero_le (show 0 ≤ v by omega)
        have hkm : k < m := by omega
        have hk := hv.symm
        clear hv hlb hneg
        have hp1 : pvN m k < m := Nat.mod_lt _ (by omega)
        have hn1 : nxN m k < m := Nat.mod_lt _ (by omega)
        have L0 := li_at (l := l) (k := pvN m k) (by rw [hlm.out]; exact hp1)
        have L1 := li_at (l := l) (k := k) (by rw [hlm.out]; exact hkm)
        have L2 := li_at (l := l) (k := nxN m k) (by rw [hlm.out]; exact hn1)
        have t1 : ((k : Int) + (m : Int) - 1).tmod (m : Int) = ((pvN m k : Nat) : Int) := by
          rw [show (k : Int) + (m : Int) - 1 = ((k + m - 1 : Nat) : Int) by omega]; exact tmod_nat _ _
        have t2 : ((k : Int) + 1).tmod (m : Int) = ((nxN m k : Nat) : Int) := by
          rw [show (k : Int) + 1 = ((k + 1 : Nat) : Int) by omega]; exact tmod_nat _ _
        have t1e : ((k : Int) + (m : Int) - 1) % (m : Int) = ((pvN m k : Nat) : Int) := by
          rw [show (k : Int) + (m : Int) - 1 = ((k + m - 1 : Nat) : Int) by omega]; exact (Int.natCast_emod _ _).symm
        have t2e : ((k : Int) + 1) % (m : Int) = ((nxN m k : Nat) : Int) := by
          rw [show (k : Int) + 1 = ((k + 1 : Nat) : Int) by omega]; exact (Int.natCast_emod _ _).symm
        obtain ⟨a, b, c, et, hab_, hbc, hcn, hr3⟩ := rot ha.out (by rw [hlm.out]; omega) (show k < l.length by rw [hlm.out]; exact hkm)
        have et2 : triS (ix l (pvN m k)) (ix l k) (ix l (nxN m k)) = triAt l k := by unfold triAt pvx nxx; rw [hlm.out]
        unfold pvx nxx at hr3
        rw [hlm.out] at hr3
        have QT : Hid (∀ w, _) := Lib.hid fun w => l11Sorted (ix l (pvN m k)) (ix l k) (ix l (nxN m k)) (by omega) (by omega) (by omega) (by omega) w
        rw [et2] at QT
        have hm2 : Hid ((trisF ps (l.eraseIdx k)).map ((o ++ [triAt l k]) ++ ·) = trisF ps (List.range n)) := Lib.hid (by
          rw [← hmap.out, trisF_step (by rw [hlm.out]; exact hlt) hk, Option.map_map]
          congr 1
          funext x
          simp)
        have ha2 := Lib.hid (ha.out.erase (k := k) (by rw [hlm.out]; exact hkm))
        have hl2 : Hid ((l.eraseIdx k).length = m - 1) := Lib.hid (by rw [erase_len (by rw [hlm.out]; exact hkm), hlm.out])
        obtain ⟨z0, z1, z2, hz_⟩ : ∃ z0 z1 z2, triAt l k = (z0, z1, z2) := ⟨_, _, _, rfl⟩
        rw [hz_] at QT hm2
        have hoq2 : Hid ((o ++ [(z0, z1, z2)]).length = q + 1) := Lib.hid (by rw [List.length_append, hoq.out]; rfl)
        have hla : ((li l).take k).length = k := by rw [List.length_take, li_len, hlm.out]; omega
        have hlb : ((li l).drop (k + 1)).length = m - (k + 1) := by rw [List.length_drop, li_len, hlm.out]
        have hab : (li l).take k ++ (li l).drop (k + 1) = li (l.eraseIdx k) := (li_erase l k).symm
        have hll : (li l).length = m := by rw [li_len, hlm.out]
        have i0 : (0 : Int) ≤ ((pvN m k : Nat) : Int) := by omega
        have i1 : ((pvN m k : Nat) : Int) < (m : Int) := by omega
        have i2 : (0 : Int) ≤ ((nxN m k : Nat) : Int) := by omega
        have i3 : ((nxN m k : Nat) : Int) < (m : Int) := by omega
        have k0 : (0 : Int) ≤ (k : Int) := by omega
        have k1 : (k : Int) < (m : Int) := by omega
        have z1_ : ¬ (m : Int) = 0 := by omega
        have z3_ : ¬ m = 0 := by omega
        have u1 : IntKind.i64.wrap ((k : Int) + (m : Int)) = (k : Int) + (m : Int) := IntWalk.i64_in _ (by omega)
        have u2 : IntKind.i64.wrap ((k : Int) + (m : Int) - 1) = (k : Int) + (m : Int) - 1 := IntWalk.i64_in _ (by omega)
        have u3 : IntKind.i64.wrap ((k : Int) + 1) = (k : Int) + 1 := IntWalk.i64_in _ (by omega)
        have hkn : ¬ (k : Int) < 0 := by omega
        generalize ix l (pvN m k) = x0 at *
        generalize ix l k = x1 at *
        generalize ix l (nxN m k) = x2 at *
        generalize pvN m k = pi at *
        generalize nxN m k = pj at *
        clear hk et et2 hr3 hz_ hab_ hbc hcn hmap
        go_wp2_with fail
        have S0d := HO _ _ S0 ((Below.refl _ _).drew)
        have HS0_ : wi.drew.cell? (ad.add pi) = some (.int .i64 (x0 : Int)) ∧ wi.drew.cell? (ad.add k) = some (.int .i64 (x1 : Int)) ∧ wi.drew.cell? (ad.add pj) = some (.int .i64 (x2 : Int)) := ⟨(row_at S0d.2.2.1.out L0).1, (row_at S0d.2.2.1.out L1).1, (row_at S0d.2.2.1.out L2).1⟩
        go_region_held3 (fun W => W.cell? (ad.add pi) = some (.int .i64 (x0 : Int)) ∧ W.cell? (ad.add k) = some (.int .i64 (x1 : Int)) ∧ W.cell? (ad.add pj) = some (.int .i64 (x2 : Int))) (first | exact HS0_ | exact HS8_ | exact HS9_ | exact HS5_ | assumption) (first | (go_at_call 57; refine (QT.out _).mono ?_; rintro e w8 ⟨rfl, hb8⟩; have S8 := HO _ _ S0d hb8; have HS8_ : w8.cell? (ad.add pi) = some (.int .i64 (x0 : Int)) ∧ w8.cell? (ad.add k) = some (.int .i64 (x1 : Int)) ∧ w8.cell? (ad.add pj) = some (.int .i64 (x2 : Int)) := ⟨(row_at S8.2.2.1.out L0).1, (row_at S8.2.2.1.out L1).1, (row_at S8.2.2.1.out L2).1⟩; have S9 := HO _ _ S8 (below1 w8 (Obj.cells #[.int .i64 z0, .int .i64 z1, .int .i64 z2] 65)); have HS9_ : (w8.alloc (Obj.cells #[.int .i64 z0, .int .i64 z1, .int .i64 z2] 65)).cell? (ad.add pi) = some (.int .i64 (x0 : Int)) ∧ (w8.alloc (Obj.cells #[.int .i64 z0, .int .i64 z1, .int .i64 z2] 65)).cell? (ad.add k) = some (.int .i64 (x1 : Int)) ∧ (w8.alloc (Obj.cells #[.int .i64 z0, .int .i64 z1, .int .i64 z2] 65)).cell? (ad.add pj) = some (.int .i64 (x2 : Int)) := ⟨(row_at S9.2.2.1.out L0).1, (row_at S9.2.2.1.out L1).1, (row_at S9.2.2.1.out L2).1⟩) | (refine step_append_tri _ (by rfl) _ _ (by rfl) (w.heap.size + 1) _ q o (by rfl) S8.2.2.2.1.out z0 z1 z2 (by rfl) (by omega) S8.2.2.2.2.1 ?_; intro v5 w5 h5 hg5; have h35 := kept_apart S8.2.2.1.out hg5 (rows_ne S8.2.2.1.out S8.2.2.2.1.out (by decide)); have HS5_ : w5.cell? (ad.add pi) = some (.int .i64 (x0 : Int)) ∧ w5.cell? (ad.add k) = some (.int .i64 (x1 : Int)) ∧ w5.cell? (ad.add pj) = some (.int .i64 (x2 : Int)) := ⟨(row_at h35 L0).1, (row_at h35 L1).1, (row_at h35 L2).1⟩))
        have hb5 : Below (w.heap.size + 1) w8 w5 := (Below.refl _ _).grown hg5 S8.2.2.2.2.1 (fun g hg => (S8.2.2.2.1.out.lt g hg).1)
        have B5 := HO2 _ _ ⟨S8.1, S8.2.1, S8.2.2.2.2.2⟩ hb5
        have hz5 := Nat.le_trans S8.2.2.2.2.1 hb5.size
        obtain ⟨A5, c5, rfl⟩ := own_shape h5
        have HO : ∀ W W' : World, (Pts.BoxR W w.heap.size (.slice A n cap) ∧ PtsAt W w.heap.size A ps ∧ Hid (W.ownsRow (w.heap.size + 1) 65 3 (.slice A5 (q + 1) c5) (q + 1) (cellsT (o ++ [(z0, z1, z2)]))) ∧ w.heap.size + 1 ≤ W.heap.size ∧ Below w.heap.size w W) → Below W.heap.size W W' → (Pts.BoxR W' w.heap.size (.slice A n cap) ∧ PtsAt W' w.heap.size A ps ∧ Hid (W'.ownsRow (w.heap.size + 1) 65 3 (.slice A5 (q + 1) c5) (q + 1) (cellsT (o ++ [(z0, z1, z2)]))) ∧ w.heap.size + 1 ≤ W'.heap.size ∧ Below w.heap.size w W') := fun W W' ⟨x0, x1, x2, x3, hb⟩ h => ⟨x0.later h, x1.later (h.mono hb.size), Lib.hid (own_below (x2).out h), Nat.le_trans x3 h.size, hb.trans (h.mono hb.size)⟩
        have S1 : Pts.BoxR w5 w.heap.size (.slice A n cap) ∧ PtsAt w5 w.heap.size A ps ∧ Hid (w5.ownsRow (w.heap.size + 1) 65 3 (.slice A5 (q + 1) c5) (q + 1) (cellsT (o ++ [(z0, z1, z2)]))) ∧ w.heap.size + 1 ≤ w5.heap.size ∧ Below w.heap.size w w5 := ⟨B5.1, B5.2.1, Lib.hid h5, hz5, B5.2.2⟩
        have PT := Lib.hid (ints_take (ints_own h35) k)
        have PD := Lib.hid (ints_drop (cb := c3) (j := k + 1) (ints_own h35) (by omega) (by omega))
        clear S0 S8 S9 HS8_ HS9_ HS5_ HS0_ S0d B5 h5 hg5 h35 hz5 hb5 QT L0 L1 L2 t1 t2 t1e t2e hll
        have S0 := S1
        clear S1
        generalize (li l).take k = la at *
        generalize (li l).drop (k + 1) = lb at *
        have hkc : (k : Int) ≤ (c3 : Int) := by omega
        have hk2 : (k : Int) + 1 ≤ (m : Int) := by omega
        have hk4 : (0 : Int) ≤ (k : Int) + 1 := by omega
        have hk5 : k ≤ c3 := by omega
        have hk6 : k + 1 ≤ m := by omega
        have hk7 : (m : Int) ≤ (c3 : Int) := by omega
        have hNc : Hid (k + (m - (k + 1)) = m - 1) := Lib.hid (by omega)
        have hab := Lib.hid hab
        obtain ⟨w6_, hw6⟩ : ∃ W, (w5.alloc (Obj.cells #[] 3)).drew = W := ⟨_, rfl⟩
        have hb6_ : Below w5.heap.size w5 w6_ := by rw [← hw6]; exact (below1 w5 _).trans (Below.refl _ _).drew
        have hE : Hid (w6_.ownsRow w5.heap.size 3 1 (.slice (some ⟨w5.heap.size, 0, none⟩) 0 0) 0 (icells [])) := Lib.hid (by rw [← hw6]; exact own_below (own_empty w5 3 1) (Below.refl _ _).drew)
        have HB6 : Hid (∀ w6, w6_.grownBy w6 (Value.slice (some ⟨w5.heap.size, 0, none⟩) 0 0).ownBlock → Below w5.heap.size w5 w6) := Lib.hid (fun w6 g6 => hb6_.grown g6 hb6_.size (fun g hg => (hE.out.lt g hg).1))
        have PT5 := Lib.hid ((PT.out.later hb6_).wide hb6_.size)
        have hsz5 := hb6_.size
        clear PT hb6_
        rw [← hw6] at hE HB6 PT5 hsz5
        clear hw6 w6_
        go_wp2_with fail
        by_cases hcase : c3 = k + 1
        · have hd : dropA (some ad) c3 (k + 1) = some ad := by unfold dropA; rw [if_pos hcase]
          have hT : (c3 = k + 1) = True := eq_true hcase
          rw [hd] at PD
          clear hd hcase
          go_region_held3 (fun _ => True) (exact True.intro) (first | (refine step_append_ints _ (by rfl) _ _ (by rfl) w5.heap.size _ 0 [] (by rfl) hE.out _ k c3 la hla (by rfl) PT5.out (by omega) hsz5 ?_; intro v6 w6 h6 g6; have h6' : w6.ownsRow w5.heap.size 3 1 v6 k (icells la) := (by simpa using h6); have hb6 := HB6.out w6 g6; have PD6 := (PD.out.later hb6).wide hb6.size; clear h6 g6; obtain ⟨A6, c6, rfl⟩ := own_shape h6') | (refine step_append_ints _ (by rfl) _ _ (by rfl) w5.heap.size _ k la (by rfl) h6' _ (m - (k + 1)) (c3 - (k + 1)) lb hlb (by rfl) PD6 (by omega) hb6.size ?_; intro v7 w7 h7 g7; have h7' : w7.ownsRow w5.heap.size 3 1 v7 (m - 1) (icells (la ++ lb)) := (by rw [hNc.out] at h7; exact h7); have hb7 := hb6.grown g7 hb6.size (fun g hg => (h6'.lt g hg).1); obtain ⟨A8, c8, rfl⟩ := own_shape h7'; clear h7 g7))
          have S7 := HO _ _ S0 hb7
          have h7q := Lib.hid (own_base h7' S0.2.2.2.1)
          rw [hab.out] at h7q
          clear h7' h6' hb6 PD6 S0
          go_wp2_with fail
          first
            | exact ⟨⟨m - 1, q + 1, l.eraseIdx k, o ++ [(z0, z1, z2)], A8, c8, rfl, h7q.out, S7.2.2.1.out, Lib.hid ⟨hl2.out, hoq2.out, ha2.out, by omega, by omega, hm2.out⟩, S7.2.2.2.1, S7.1, S7.2.1, S7.2.2.2.2⟩, by simp [lenV]; omega⟩
            | (go_roundw <;> first | exact ⟨m - 1, q + 1, l.eraseIdx k, o ++ [(z0, z1, z2)], A8, c8, rfl, h7q.out, S7.2.2.1.out, Lib.hid ⟨hl2.out, hoq2.out, ha2.out, by omega, by omega, hm2.out⟩, S7.2.2.2.1, S7.1, S7.2.1, S7.2.2.2.2⟩ | (simp [lenV]; omega))

        · have hd : dropA (some ad) c3 (k + 1) = some ⟨ad.block, ad.off + (k + 1), none⟩ := by simp [dropA, hcase]
          rw [hd] at PD
          clear hd
          go_region_held3 (fun _ => True) (exact True.intro) (first | (refine step_append_ints _ (by rfl) _ _ (by rfl) w5.heap.size _ 0 [] (by rfl) hE.out _ k c3 la hla (by rfl) PT5.out (by omega) hsz5 ?_; intro v6 w6 h6 g6; have h6' : w6.ownsRow w5.heap.size 3 1 v6 k (icells la) := (by simpa using h6); have hb6 := HB6.out w6 g6; have PD6 := (PD.out.later hb6).wide hb6.size; clear h6 g6; obtain ⟨A6, c6, rfl⟩ := own_shape h6') | (refine step_append_ints _ (by rfl) _ _ (by rfl) w5.heap.size _ k la (by rfl) h6' _ (m - (k + 1)) (c3 - (k + 1)) lb hlb (by rfl) PD6 (by omega) hb6.size ?_; intro v7 w7 h7 g7; have h7' : w7.ownsRow w5.heap.size 3 1 v7 (m - 1) (icells (la ++ lb)) := (by rw [hNc.out] at h7; exact h7); have hb7 := hb6.grown g7 hb6.size (fun g hg => (h6'.lt g hg).1); obtain ⟨A8, c8, rfl⟩ := own_shape h7'; clear h7 g7))
          have S7 := HO _ _ S0 hb7
          have h7q := Lib.hid (own_base h7' S0.2.2.2.1)
          rw [hab.out] at h7q
          clear h7' h6' hb6 PD6 S0
          go_wp2_with fail
          first
            | exact ⟨⟨m - 1, q + 1, l.eraseIdx k, o ++ [(z0, z1, z2)], A8, c8, rfl, h7q.out, S7.2.2.1.out, Lib.hid ⟨hl2.out, hoq2.out, ha2.out, by omega, by omega, hm2.out⟩, S7.2.2.2.1, S7.1, S7.2.1, S7.2.2.2.2⟩, by simp [lenV]; omega⟩
            | (go_roundw <;> first | exact ⟨m - 1, q + 1, l.eraseIdx k, o ++ [(z0, z1, z2)], A8, c8, rfl, h7q.out, S7.2.2.1.out, Lib.hid ⟨hl2.out, hoq2.out, ha2.out, by omega, by omega, hm2.out⟩, S7.2.2.2.1, S7.1, S7.2.1, S7.2.2.2.2⟩ | (simp [lenV]; omega))

end Go.Proofs.YtkcodmafakjkfaaGreat.TrisModel

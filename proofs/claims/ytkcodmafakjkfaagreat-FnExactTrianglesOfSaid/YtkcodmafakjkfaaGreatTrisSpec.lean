/-
  How the model divides a room into triangles, as contracts: what each function answers; new memory alone is written.
-/
import Derived.Test.YtkcodmafakjkfaaGreatDiagSpec
import Derived.Test.YtkcodmafakjkfaaGreatTriSpec
import Derived.Test.YtkcodmafakjkfaaGreatTreeMath
import Derived.Test.YtkcodmafakjkfaaGreatGround
import Derived.Lib.MinMax
namespace Go.Proofs.YtkcodmafakjkfaaGreat.TrisSpec
open Go.RowKit Own PointMath WallMath RoomMath Pts Blk AreaMath PlaceMath FloorMath LineMath CutsMath SightMath DiagMath TriMath TrisMath Ints
open PointOk (ret_bool ret_i64 below1 below2 below3)

set_option maxRecDepth 100000 in
set_option maxHeartbeats 3200000 in
theorem l11Sorted (a b c : Nat) (h : a ≤ 1048576 ∧ b ≤ 1048576 ∧ c ≤ 1048576) (d1 : a ≠ b) (d2 : b ≠ c) (d3 : a ≠ c) (w : World) :
    Calls Tryz.prog 57 #[.int .i64 (a : Int), .int .i64 (b : Int), .int .i64 (c : Int)] w fun e w' => e = .returned (.agg #[.int .i64 (triS a b c).1, .int .i64 (triS a b c).2.1, .int .i64 (triS a b c).2.2]) ∧ Below w.heap.size w w' := by
  have u1 : IntKind.i64.wrap ((a : Int) + b) = (a : Int) + b := IntWalk.i64_in _ (by omega)
  have u2 : IntKind.i64.wrap ((a : Int) + b + c) = (a : Int) + b + c := IntWalk.i64_in _ (by omega)
  by_cases h1 : a < b
  · by_cases h2 : b < c
    · have h3 := h1
      have E : triS a b c = ((a : Int), (b : Int), (c : Int)) := by
        unfold triS
        rw [show min (min a b) c = a by omega, show max (max a b) c = c by omega, show a + b + c - a - c = b by omega]
      rw [E]
      clear E
      have iba : ¬ (b : Int) < (a : Int) := by omega
      have nba : ¬ b < a := by omega
      have iab : (a : Int) < (b : Int) := by omega
      have nab : a < b := by omega
      have ica : ¬ (c : Int) < (a : Int) := by omega
      have nca : ¬ c < a := by omega
      have iac : (a : Int) < (c : Int) := by omega
      have nac : a < c := by omega
      have icb : ¬ (c : Int) < (b : Int) := by omega
      have ncb : ¬ c < b := by omega
      have ibc : (b : Int) < (c : Int) := by omega
      have nbc : b < c := by omega
      have u3 : IntKind.i64.wrap ((a : Int) + b + c - a) = (a : Int) + b + c - a := IntWalk.i64_in _ (by omega)
      have u4 : IntKind.i64.wrap ((a : Int) + b + c - a - c) = (b : Int) := by rw [IntWalk.i64_in _ (by omega)]; omega
      clear h1 h2 h3 d1 d2 d3
      go_enter Tryz.func57, Tryz.ntmps57
      go_wp2_with fail
      refine bodyPost_ret (v := .agg #[.int .i64 (a : Int), .int .i64 (b : Int), .int .i64 (c : Int)]) (by simp [results, Tryz.results57, go_sem]; try (have hq1 : (a : Int) + b - a = b := by omega); try rw [hq1]; try exact IntWalk.i64_in _ (by omega)) rfl ⟨rfl, ?_⟩
      exact below1 _ _
    · by_cases h3 : c < a
      · skip
        have E : triS a b c = ((c : Int), (a : Int), (b : Int)) := by
          unfold triS
          rw [show min (min a b) c = c by omega, show max (max a b) c = b by omega, show a + b + c - c - b = a by omega]
        rw [E]
        clear E
        have iba : ¬ (b : Int) < (a : Int) := by omega
        have nba : ¬ b < a := by omega
        have iab : (a : Int) < (b : Int) := by omega
        have nab : a < b := by omega
        have ica : (c : Int) < (a : Int) := by omega
        have nca : c < a := by omega
        have iac : ¬ (a : Int) < (c : Int) := by omega
        have nac : ¬ a < c := by omega
        have icb : (c : Int) < (b : Int) := by omega
        have ncb : c < b := by omega
        have ibc : ¬ (b : Int) < (c : Int) := by omega
        have nbc : ¬ b < c := by omega
        have u3 : IntKind.i64.wrap ((a : Int) + b + c - c) = (a : Int) + b + c - c := IntWalk.i64_in _ (by omega)
        have u4 : IntKind.i64.wrap ((a : Int) + b + c - c - b) = (a : Int) := by rw [IntWalk.i64_in _ (by omega)]; omega
        clear h1 h2 h3 d1 d2 d3
        go_enter Tryz.func57, Tryz.ntmps57
        go_wp2_with fail
        refine bodyPost_ret (v := .agg #[.int .i64 (c : Int), .int .i64 (a : Int), .int .i64 (b : Int)]) (by simp [results, Tryz.results57, go_sem]; try (have hq1 : (a : Int) + b - a = b := by omega); try rw [hq1]; try exact IntWalk.i64_in _ (by omega)) rfl ⟨rfl, ?_⟩
        exact below1 _ _
      · skip
        have E : triS a b c = ((a : Int), (c : Int), (b : Int)) := by
          unfold triS
          rw [show min (min a b) c = a by omega, show max (max a b) c = b by omega, show a + b + c - a - b = c by omega]
        rw [E]
        clear E
        have iba : ¬ (b : Int) < (a : Int) := by omega
        have nba : ¬ b < a := by omega
        have iab : (a : Int) < (b : Int) := by omega
        have nab : a < b := by omega
        have ica : ¬ (c : Int) < (a : Int) := by omega
        have nca : ¬ c < a := by omega
        have iac : (a : Int) < (c : Int) := by omega
        have nac : a < c := by omega
        have icb : (c : Int) < (b : Int) := by omega
        have ncb : c < b := by omega
        have ibc : ¬ (b : Int) < (c : Int) := by omega
        have nbc : ¬ b < c := by omega
        have u3 : IntKind.i64.wrap ((a : Int) + b + c - a) = (a : Int) + b + c - a := IntWalk.i64_in _ (by omega)
        have u4 : IntKind.i64.wrap ((a : Int) + b + c - a - b) = (c : Int) := by rw [IntWalk.i64_in _ (by omega)]; omega
        clear h1 h2 h3 d1 d2 d3
        go_enter Tryz.func57, Tryz.ntmps57
        go_wp2_with fail
        refine bodyPost_ret (v := .agg #[.int .i64 (a : Int), .int .i64 (c : Int), .int .i64 (b : Int)]) (by simp [results, Tryz.results57, go_sem]; try (have hq1 : (a : Int) + b - a = b := by omega); try rw [hq1]; try exact IntWalk.i64_in _ (by omega)) rfl ⟨rfl, ?_⟩
        exact below1 _ _
  · by_cases h2 : a < c
    · have h3 := h1
      have E : triS a b c = ((b : Int), (a : Int), (c : Int)) := by
        unfold triS
        rw [show min (min a b) c = b by omega, show max (max a b) c = c by omega, show a + b + c - b - c = a by omega]
      rw [E]
      clear E
      have iba : (b : Int) < (a : Int) := by omega
      have nba : b < a := by omega
      have iab : ¬ (a : Int) < (b : Int) := by omega
      have nab : ¬ a < b := by omega
      have ica : ¬ (c : Int) < (a : Int) := by omega
      have nca : ¬ c < a := by omega
      have iac : (a : Int) < (c : Int) := by omega
      have nac : a < c := by omega
      have icb : ¬ (c : Int) < (b : Int) := by omega
      have ncb : ¬ c < b := by omega
      have ibc : (b : Int) < (c : Int) := by omega
      have nbc : b < c := by omega
      have u3 : IntKind.i64.wrap ((a : Int) + b + c - b) = (a : Int) + b + c - b := IntWalk.i64_in _ (by omega)
      have u4 : IntKind.i64.wrap ((a : Int) + b + c - b - c) = (a : Int) := by rw [IntWalk.i64_in _ (by omega)]; omega
      clear h1 h2 h3 d1 d2 d3
      go_enter Tryz.func57, Tryz.ntmps57
      go_wp2_with fail
      refine bodyPost_ret (v := .agg #[.int .i64 (b : Int), .int .i64 (a : Int), .int .i64 (c : Int)]) (by simp [results, Tryz.results57, go_sem]; try (have hq1 : (a : Int) + b - a = b := by omega); try rw [hq1]; try exact IntWalk.i64_in _ (by omega)) rfl ⟨rfl, ?_⟩
      exact below1 _ _
    · by_cases h3 : c < b
      · skip
        have E : triS a b c = ((c : Int), (b : Int), (a : Int)) := by
          unfold triS
          rw [show min (min a b) c = c by omega, show max (max a b) c = a by omega, show a + b + c - c - a = b by omega]
        rw [E]
        clear E
        have iba : (b : Int) < (a : Int) := by omega
        have nba : b < a := by omega
        have iab : ¬ (a : Int) < (b : Int) := by omega
        have nab : ¬ a < b := by omega
        have ica : (c : Int) < (a : Int) := by omega
        have nca : c < a := by omega
        have iac : ¬ (a : Int) < (c : Int) := by omega
        have nac : ¬ a < c := by omega
        have icb : (c : Int) < (b : Int) := by omega
        have ncb : c < b := by omega
        have ibc : ¬ (b : Int) < (c : Int) := by omega
        have nbc : ¬ b < c := by omega
        have u3 : IntKind.i64.wrap ((a : Int) + b + c - c) = (a : Int) + b + c - c := IntWalk.i64_in _ (by omega)
        have u4 : IntKind.i64.wrap ((a : Int) + b + c - c - a) = (b : Int) := by rw [IntWalk.i64_in _ (by omega)]; omega
        clear h1 h2 h3 d1 d2 d3
        go_enter Tryz.func57, Tryz.ntmps57
        go_wp2_with fail
        refine bodyPost_ret (v := .agg #[.int .i64 (c : Int), .int .i64 (b : Int), .int .i64 (a : Int)]) (by simp [results, Tryz.results57, go_sem]; try (have hq1 : (a : Int) + b - a = b := by omega); try rw [hq1]; try exact IntWalk.i64_in _ (by omega)) rfl ⟨rfl, ?_⟩
        exact below1 _ _
      · skip
        have E : triS a b c = ((b : Int), (c : Int), (a : Int)) := by
          unfold triS
          rw [show min (min a b) c = b by omega, show max (max a b) c = a by omega, show a + b + c - b - a = c by omega]
        rw [E]
        clear E
        have iba : (b : Int) < (a : Int) := by omega
        have nba : b < a := by omega
        have iab : ¬ (a : Int) < (b : Int) := by omega
        have nab : ¬ a < b := by omega
        have ica : (c : Int) < (a : Int) := by omega
        have nca : c < a := by omega
        have iac : ¬ (a : Int) < (c : Int) := by omega
        have nac : ¬ a < c := by omega
        have icb : ¬ (c : Int) < (b : Int) := by omega
        have ncb : ¬ c < b := by omega
        have ibc : (b : Int) < (c : Int) := by omega
        have nbc : b < c := by omega
        have u3 : IntKind.i64.wrap ((a : Int) + b + c - b) = (a : Int) + b + c - b := IntWalk.i64_in _ (by omega)
        have u4 : IntKind.i64.wrap ((a : Int) + b + c - b - a) = (c : Int) := by rw [IntWalk.i64_in _ (by omega)]; omega
        clear h1 h2 h3 d1 d2 d3
        go_enter Tryz.func57, Tryz.ntmps57
        go_wp2_with fail
        refine bodyPost_ret (v := .agg #[.int .i64 (b : Int), .int .i64 (c : Int), .int .i64 (a : Int)]) (by simp [results, Tryz.results57, go_sem]; try (have hq1 : (a : Int) + b - a = b := by omega); try rw [hq1]; try exact IntWalk.i64_in _ (by omega)) rfl ⟨rfl, ?_⟩
        exact below1 _ _

theorem tmod_nat (a m : Nat) : ((a : Nat) : Int).tmod ((m : Nat) : Int) = ((a % m : Nat) : Int) := by
  rw [Int.tmod_eq_emod_of_nonneg (by omega)]; simp

set_option maxRecDepth 100000 in
set_option maxHeartbeats 6400000 in
theorem l11Ear (A : Option Addr) (n cap : Nat) (B : Option Addr) (m cb k : Nat) (w : World) (ps : List (Int × Int)) (hl : ps.length = n) (hr : roomB ps = true) (hp : PtsAt w w.heap.size A ps)
    (l : List Nat) (hlm : l.length = m) (h3 : 3 < m) (hm : m ≤ 1048576) (ha : Asc n l) (hq : IntsAt w w.heap.size B (li l)) (hk : k < m) :
    Calls Tryz.prog 56 #[.slice A n cap, .slice B m cb, .int .i64 (k : Int)] w fun e w' => e = .returned (.bool (earM ps l k)) ∧ Below w.heap.size w w' := by
  obtain ⟨n1, n2⟩ := not_near ha (by omega) (show k < l.length by omega)
  have he : earM ps l k = (decide (0 < turnP (pt ps (pvx l k)) (pt ps (ix l k)) (pt ps (nxx l k))) && diagM ps (pvx l k) (nxx l k) && (List.range m).all (inAny ps l (pvx l k) (ix l k) (nxx l k))) := by
    unfold earM nearN; rw [hl, decide_eq_false n1, decide_eq_false n2, hlm]; rfl
  rw [he]
  obtain ⟨r, hr⟩ : ∃ r, (decide (0 < turnP (pt ps (pvx l k)) (pt ps (ix l k)) (pt ps (nxx l k))) && diagM ps (pvx l k) (nxx l k) && (List.range m).all (inAny ps l (pvx l k) (ix l k) (nxx l k))) = r := ⟨_, rfl⟩
  have HR := Lib.hid hr
  rw [hr]
  clear hr
  have hok := Lib.hid (roomB_yes hr).2.1
  have hn10 := (roomB_yes hr).1
  have hp1 : pvN m k < m := Nat.mod_lt _ (by omega)
  have hn1 : nxN m k < m := Nat.mod_lt _ (by omega)
  have xi : pvx l k < n := by unfold pvx; exact ha.2 _ (by rw [hlm]; exact hp1)
  have xj : nxx l k < n := by unfold nxx; exact ha.2 _ (by rw [hlm]; exact hn1)
  have xb : ix l k < n := ha.2 _ (by omega)
  have HA : Hid (∀ s, s < m → ix l s < n) := Lib.hid (fun s hs => ha.2 _ (by omega))
  have p0 : (li l)[pvN m k]? = some ((pvx l k : Nat) : Int) := by unfold pvx; rw [hlm]; exact li_at (by omega)
  have p1 := li_at (l := l) (k := k) (by omega)
  have p2 : (li l)[nxN m k]? = some ((nxx l k : Nat) : Int) := by unfold nxx; rw [hlm]; exact li_at (by omega)
  have t1 : ((k : Int) + (m : Int) - 1).tmod (m : Int) = ((pvN m k : Nat) : Int) := by
    rw [show (k : Int) + (m : Int) - 1 = ((k + m - 1 : Nat) : Int) by omega]; exact tmod_nat _ _
  have t2 : ((k : Int) + 1).tmod (m : Int) = ((nxN m k : Nat) : Int) := by
    rw [show (k : Int) + 1 = ((k + 1 : Nat) : Int) by omega]; exact tmod_nat _ _
  have t3 : (((pvx l k : Nat) : Int) + 1).tmod (n : Int) = (((pvx l k + 1) % n : Nat) : Int) := by
    rw [show ((pvx l k : Nat) : Int) + 1 = ((pvx l k + 1 : Nat) : Int) by omega]; exact tmod_nat _ _
  have t4 : (((nxx l k : Nat) : Int) + 1).tmod (n : Int) = (((nxx l k + 1) % n : Nat) : Int) := by
    rw [show ((nxx l k : Nat) : Int) + 1 = ((nxx l k + 1 : Nat) : Int) by omega]; exact tmod_nat _ _
  have QD : Hid (∀ W h, _) := Lib.hid fun W h => DiagSpec.diag A n cap (pvx l k) (nxx l k) W ps hl hr xi xj h
  have q0 := pt_at (ps := ps) (k := pvx l k) (by omega)
  have q1 := pt_at (ps := ps) (k := ix l k) (by omega)
  have q2 := pt_at (ps := ps) (k := nxx l k) (by omega)
  have oa := okP_sm (okAll_at hok.out (k := pvx l k) (by omega))
  have ob := okP_sm (okAll_at hok.out (k := ix l k) (by omega))
  have oc := okP_sm (okAll_at hok.out (k := nxx l k) (by omega))
  have HIN : Hid (∀ s, inAny ps l (pvx l k) (ix l k) (nxx l k) s = (decide (ix l s = pvx l k) || decide (ix l s = nxx l k) || decide (ix l s = ix l k) || !triIn (pt ps (pvx l k)) (pt ps (ix l k)) (pt ps (nxx l k)) (pt ps (ix l s)))) := Lib.hid (fun s => by
    unfold inAny
    cases decide (ix l s = pvx l k) <;> cases decide (ix l s = nxx l k) <;> cases decide (ix l s = ix l k) <;> rfl)
  obtain ⟨F, hF⟩ : ∃ F, inAny ps l (pvx l k) (ix l k) (nxx l k) = F := ⟨_, rfl⟩
  rw [hF] at HR HIN
  obtain ⟨d, hd⟩ : ∃ d, diagM ps (pvx l k) (nxx l k) = d := ⟨_, rfl⟩
  rw [hd] at HR QD
  obtain ⟨ax, ay, h0⟩ : ∃ x y, pt ps (pvx l k) = (x, y) := ⟨_, _, rfl⟩
  obtain ⟨bx, bY, h1⟩ : ∃ x y, pt ps (ix l k) = (x, y) := ⟨_, _, rfl⟩
  obtain ⟨cx, cy, h2⟩ : ∃ x y, pt ps (nxx l k) = (x, y) := ⟨_, _, rfl⟩
  rw [h0] at HR HIN q0 oa
  rw [h1] at HR HIN q1 ob
  rw [h2] at HR HIN q2 oc
  have QT : Hid (∀ w, _) := Lib.hid fun w => PointSpec.l02Turn ax ay bx bY cx cy oa ob oc w
  have QI : Hid (∀ px py (h : smP px py) w, _) := Lib.hid fun px py (h : smP px py) w => TriSpec.l11In ax ay bx bY cx cy px py oa ob oc h w
  obtain ⟨t, ht⟩ : ∃ t, turnI ax ay bx bY cx cy = t := ⟨_, rfl⟩
  have ht2 : turnP (ax, ay) (bx, bY) (cx, cy) = t := ht
  rw [ht] at QT
  rw [ht2] at HR
  generalize hgi : pvx l k = i at *
  generalize hgb : ix l k = b at *
  generalize hgj : nxx l k = j at *
  generalize pvN m k = pi at *
  generalize nxN m k = pj at *
  generalize (i + 1) % n = x1 at *
  generalize (j + 1) % n = x2 at *
  obtain ⟨ad, eA, bA, pA⟩ := hp.get q0
  obtain ⟨ad2, eA2, _, pB⟩ := hp.get q1
  rw [eA] at eA2
  injection eA2 with eA2
  subst eA2
  obtain ⟨ad2, eA2, _, pC⟩ := hp.get q2
  rw [eA] at eA2
  injection eA2 with eA2
  subst eA2
  subst eA
  obtain ⟨bd, eB, bB, vA⟩ := hq.get p0
  obtain ⟨bd2, eB2, _, vB⟩ := hq.get p1
  rw [eB] at eB2
  injection eB2 with eB2
  subst eB2
  obtain ⟨bd2, eB2, _, vC⟩ := hq.get p2
  rw [eB] at eB2
  injection eB2 with eB2
  subst eB2
  subst eB
  have i0 : (0 : Int) ≤ (pi : Int) := by omega
  have i1 : (pi : Int) < (m : Int) := by omega
  have i2 : (0 : Int) ≤ (pj : Int) := by omega
  have i3 : (pj : Int) < (m : Int) := by omega
  have k0 : (0 : Int) ≤ (k : Int) := by omega
  have k1 : (k : Int) < (m : Int) := by omega
  have j0 : (0 : Int) ≤ (i : Int) := by omega
  have j1 : (i : Int) < (n : Int) := by omega
  have j2 : (0 : Int) ≤ (j : Int) := by omega
  have j3 : (j : Int) < (n : Int) := by omega
  have j4 : (0 : Int) ≤ (b : Int) := by omega
  have j5 : (b : Int) < (n : Int) := by omega
  have z1 : ¬ (m : Int) = 0 := by omega
  have z2 : ¬ (n : Int) = 0 := by omega
  have z3 : ¬ m = 0 := by omega
  have z4 : ¬ n = 0 := by omega
  have u1 : IntKind.i64.wrap ((k : Int) + (m : Int)) = (k : Int) + (m : Int) := IntWalk.i64_in _ (by omega)
  have u2 : IntKind.i64.wrap ((k : Int) + (m : Int) - 1) = (k : Int) + (m : Int) - 1 := IntWalk.i64_in _ (by omega)
  have u3 : IntKind.i64.wrap ((k : Int) + 1) = (k : Int) + 1 := IntWalk.i64_in _ (by omega)
  have hn63 : n ≤ 1048576 := by have := (roomB_yes hr); rw [← hl]; unfold roomB at hr; simp at hr; omega
  have u4 : IntKind.i64.wrap ((i : Int) + 1) = (i : Int) + 1 := IntWalk.i64_in _ (by omega)
  have u5 : IntKind.i64.wrap ((j : Int) + 1) = (j : Int) + 1 := IntWalk.i64_in _ (by omega)
  have y1 : ((x1 : Int) != (j : Int)) = true := by rw [bne_iff_ne]; omega
  have y2 : ((x2 : Int) != (i : Int)) = true := by rw [bne_iff_ne]; omega
  have y3 : (x1 != j) = true := by rw [bne_iff_ne]; exact n1
  have y4 : (x2 != i) = true := by rw [bne_iff_ne]; exact n2
  clear p0 p1 p2 q0 q1 q2 oa ob oc h0 h1 h2 hd he ht ht2 n1 n2
  go_enter Tryz.func56, Tryz.ntmps56
  have HO : ∀ W W' : World, (PtsAt W w.heap.size (some ad) ps ∧ IntsAt W w.heap.size (some bd) (li l) ∧ PtAt W ad i ax ay ∧ PtAt W ad b bx bY ∧ PtAt W ad j cx cy ∧ IntAt W bd pi (i : Int) ∧ IntAt W bd k (b : Int) ∧ IntAt W bd pj (j : Int) ∧ Below w.heap.size w W) → Below W.heap.size W W' → (PtsAt W' w.heap.size (some ad) ps ∧ IntsAt W' w.heap.size (some bd) (li l) ∧ PtAt W' ad i ax ay ∧ PtAt W' ad b bx bY ∧ PtAt W' ad j cx cy ∧ IntAt W' bd pi (i : Int) ∧ IntAt W' bd k (b : Int) ∧ IntAt W' bd pj (j : Int) ∧ Below w.heap.size w W') := fun W W' ⟨x0, x1, x2, x3, x4, x5, x6, x7, hb⟩ h => ⟨x0.later (h.mono hb.size), x1.later (h.mono hb.size), x2.later bA (h.mono hb.size), x3.later bA (h.mono hb.size), x4.later bA (h.mono hb.size), x5.later bB (h.mono hb.size), x6.later bB (h.mono hb.size), x7.later bB (h.mono hb.size), hb.trans (h.mono hb.size)⟩
  have S0 : PtsAt w w.heap.size (some ad) ps ∧ IntsAt w w.heap.size (some bd) (li l) ∧ PtAt w ad i ax ay ∧ PtAt w ad b bx bY ∧ PtAt w ad j cx cy ∧ IntAt w bd pi (i : Int) ∧ IntAt w bd k (b : Int) ∧ IntAt w bd pj (j : Int) ∧ Below w.heap.size w w := ⟨hp, hq, pA, pB, pC, vA, vB, vC, Below.refl _ _⟩
  clear hp hq pA pB pC vA vB vC
  obtain ⟨_, _, ⟨_, _⟩, ⟨_, _⟩, ⟨_, _⟩, ⟨_, _⟩, ⟨_, _⟩, ⟨_, _⟩, _⟩ := id S0
  have S1 := HO _ _ S0 (below1 w (Obj.cells #[.int .i64 ax, .int .i64 ay] 40))
  have S2 := HO _ _ S1 (below1 (w.alloc (Obj.cells #[.int .i64 ax, .int .i64 ay] 40)) (Obj.cells #[.int .i64 bx, .int .i64 bY] 40))
  clear HO
  obtain ⟨_, _, ⟨_, _⟩, ⟨_, _⟩, ⟨_, _⟩, ⟨_, _⟩, ⟨_, _⟩, ⟨_, _⟩, _⟩ := id S1
  obtain ⟨_, _, ⟨_, _⟩, ⟨_, _⟩, ⟨_, _⟩, ⟨_, _⟩, ⟨_, _⟩, ⟨_, _⟩, _⟩ := id S2
  go_wp2_with fail
  clear S1 S2
  have X0 := ((PointOk.box1 w ax ay 40 (k := w.heap.size) (by simp)).alloc (Obj.cells #[.int .i64 bx, .int .i64 bY] 40)).alloc (Obj.cells #[.int .i64 cx, .int .i64 cy] 40)
  have X1 := (PointOk.box1 (w.alloc (Obj.cells #[.int .i64 ax, .int .i64 ay] 40)) bx bY 40 (k := w.heap.size + 1) (by simp)).alloc (Obj.cells #[.int .i64 cx, .int .i64 cy] 40)
  have X2 := PointOk.box1 ((w.alloc (Obj.cells #[.int .i64 ax, .int .i64 ay] 40)).alloc (Obj.cells #[.int .i64 bx, .int .i64 bY] 40)) cx cy 40 (k := w.heap.size + 1 + 1) (by simp)
  have b0 := PointOk.below3 w (Obj.cells #[.int .i64 ax, .int .i64 ay] 40) (Obj.cells #[.int .i64 bx, .int .i64 bY] 40) (Obj.cells #[.int .i64 cx, .int .i64 cy] 40)
  have HO : ∀ W W' : World, (PointOk.Box W (w.heap.size) ax ay ∧ PointOk.Box W (w.heap.size + 1) bx bY ∧ PointOk.Box W (w.heap.size + 1 + 1) cx cy ∧ PtsAt W w.heap.size (some ad) ps ∧ IntsAt W w.heap.size (some bd) (li l) ∧ IntAt W bd k (b : Int) ∧ Below w.heap.size w W) → Below W.heap.size W W' → (PointOk.Box W' (w.heap.size) ax ay ∧ PointOk.Box W' (w.heap.size + 1) bx bY ∧ PointOk.Box W' (w.heap.size + 1 + 1) cx cy ∧ PtsAt W' w.heap.size (some ad) ps ∧ IntsAt W' w.heap.size (some bd) (li l) ∧ IntAt W' bd k (b : Int) ∧ Below w.heap.size w W') := fun W W' ⟨h0, h1, h2, x0, x1, x2, hb⟩ h => ⟨h0.later h, h1.later h, h2.later h, x0.later (h.mono hb.size), x1.later (h.mono hb.size), x2.later bB (h.mono hb.size), hb.trans (h.mono hb.size)⟩
  have hz0_ : Hid (((((w.alloc (Obj.cells #[.int .i64 ax, .int .i64 ay] 40)).alloc (Obj.cells #[.int .i64 bx, .int .i64 bY] 40)).alloc (Obj.cells #[.int .i64 cx, .int .i64 cy] 40))).heap.size = w.heap.size + 1 + 1 + 1) := Lib.hid (by simp)
  have Y0 : PtsAt ((((w.alloc (Obj.cells #[.int .i64 ax, .int .i64 ay] 40)).alloc (Obj.cells #[.int .i64 bx, .int .i64 bY] 40)).alloc (Obj.cells #[.int .i64 cx, .int .i64 cy] 40))) w.heap.size (some ad) ps := S0.1.later b0
  have Y1 : IntsAt ((((w.alloc (Obj.cells #[.int .i64 ax, .int .i64 ay] 40)).alloc (Obj.cells #[.int .i64 bx, .int .i64 bY] 40)).alloc (Obj.cells #[.int .i64 cx, .int .i64 cy] 40))) w.heap.size (some bd) (li l) := S0.2.1.later b0
  have Y2 : IntAt ((((w.alloc (Obj.cells #[.int .i64 ax, .int .i64 ay] 40)).alloc (Obj.cells #[.int .i64 bx, .int .i64 bY] 40)).alloc (Obj.cells #[.int .i64 cx, .int .i64 cy] 40))) bd k (b : Int) := S0.2.2.2.2.2.2.1.later bB b0
  generalize (((w.alloc (Obj.cells #[.int .i64 ax, .int .i64 ay] 40)).alloc (Obj.cells #[.int .i64 bx, .int .i64 bY] 40)).alloc (Obj.cells #[.int .i64 cx, .int .i64 cy] 40)) = w0 at X0 X1 X2 Y0 Y1 Y2 b0 hz0_ ⊢
  have S0 := (⟨X0, X1, X2, Y0, Y1, Y2, b0⟩ : PointOk.Box w0 (w.heap.size) ax ay ∧ PointOk.Box w0 (w.heap.size + 1) bx bY ∧ PointOk.Box w0 (w.heap.size + 1 + 1) cx cy ∧ PtsAt w0 w.heap.size (some ad) ps ∧ IntsAt w0 w.heap.size (some bd) (li l) ∧ IntAt w0 bd k (b : Int) ∧ Below w.heap.size w w0)
  clear X0 X1 X2 Y0 Y1 Y2 b0
  obtain ⟨⟨_, _⟩, ⟨_, _⟩, ⟨_, _⟩, _, _, ⟨_, _⟩, _⟩ := id S0
  refine (QT.out _).mono ?_
  rintro e w1 ⟨rfl, hb_⟩
  replace S0 := HO _ _ S0 hb_
  clear hb_
  obtain ⟨⟨_, _⟩, ⟨_, _⟩, ⟨_, _⟩, _, _, ⟨_, _⟩, _⟩ := id S0
  by_cases c0 : 0 < t
  rotate_left
  · have E : Hid (r = false) := Lib.hid (by rw [← HR.out, decide_eq_false c0]; rfl)
    have g0 : t ≤ 0 := by omega
    clear HR HIN QD QI HA hok hl hlm hgi hgb hgj
    go_wp2_with fail
    go_ret
    exact ⟨ret_bool E.out.symm, S0.2.2.2.2.2.2⟩
  have g0 : ¬ t ≤ 0 := by omega
  go_wp2_with fail
  refine (QD.out _ (S0.2.2.2.1.wide S0.2.2.2.2.2.2.size)).mono ?_
  rintro e w2 ⟨rfl, hb_⟩
  replace S0 := HO _ _ S0 hb_
  clear hb_
  obtain ⟨⟨_, _⟩, ⟨_, _⟩, ⟨_, _⟩, _, _, ⟨_, _⟩, _⟩ := id S0
  cases d
  · have E : Hid (r = false) := Lib.hid (by rw [← HR.out, Bool.and_false]; rfl)
    clear HR HIN QI HA hok hl hlm hgi hgb hgj
    go_wp2_with fail
    go_ret
    exact ⟨ret_bool E.out.symm, S0.2.2.2.2.2.2⟩
  have HA1 : Hid ((∀ s, s < m → F s = true) → r = true) := Lib.hid (fun h => by rw [← HR.out, decide_eq_true c0, show (List.range m).all F = true from List.all_eq_true.2 (fun q hq => h q (List.mem_range.1 hq))]; rfl)
  have HA0 : Hid (∀ s, s < m → F s = false → r = false) := Lib.hid (fun s hs h => by rw [← HR.out, show (List.range m).all F = false from List.all_eq_false.2 ⟨s, List.mem_range.2 hs, by rw [h]; simp⟩, Bool.and_false])
  clear HR QD QT hgi hgb hgj
  go_wp2_with fail
  go_loopw [14] (fun q wr => ∃ s : Nat, s ≤ m ∧ q = .int .i64 s ∧ Hid (∀ j, j < s → F j = true) ∧ (PointOk.Box wr (w.heap.size) ax ay ∧ PointOk.Box wr (w.heap.size + 1) bx bY ∧ PointOk.Box wr (w.heap.size + 1 + 1) cx cy ∧ PtsAt wr w.heap.size (some ad) ps ∧ IntsAt wr w.heap.size (some bd) (li l) ∧ IntAt wr bd k (b : Int) ∧ Below w.heap.size w wr))
    (fun q _ => m - (intOf q).toNat)
  case atStart => exact ⟨0, Nat.zero_le _, rfl, Lib.hid (fun t ht => absurd ht (by omega)), S0⟩
  case round =>
    clear S0
    obtain ⟨s, hs, rfl, hin, S0⟩ := hrel
    obtain ⟨⟨_, _⟩, ⟨_, _⟩, ⟨_, _⟩, _, _, ⟨_, _⟩, _⟩ := id S0
    by_cases hst : s < m
    rotate_left
    · obtain rfl : s = m := by omega
      have E := Lib.hid (HA1.out hin.out)
      clear HA1 HA0 hin hl hlm hok HIN QI HA
      go_wp2_with fail
      go_ret
      exact ⟨ret_bool E.out.symm, S0.2.2.2.2.2.2⟩
    have q0 := li_at (l := l) (k := s) (by omega)
    have xs := HA.out s hst
    have pp := pt_at (ps := ps) (k := ix l s) (by omega)
    have op := okP_sm (okAll_at hok.out (k := ix l s) (by omega))
    have HF := Lib.hid (HIN.out s)
    have HS1 : Hid (F s = true → ∀ j, j < s + 1 → F j = true) := Lib.hid (fun h j hj => by
      rcases Nat.lt_or_ge j s with h1 | h1
      · exact hin.out j h1
      · obtain rfl : j = s := by omega
        exact h)
    replace HA0 := Lib.hid (fun h => HA0.out s hst h)
    generalize ix l s = x at *
    obtain ⟨px, py, hx⟩ : ∃ u v, pt ps x = (u, v) := ⟨_, _, rfl⟩
    rw [hx] at pp op HF
    have QL := Lib.hid (QI.out px py op)
    generalize F s = iv at *
    generalize triIn (ax, ay) (bx, bY) (cx, cy) (px, py) = tr at *
    obtain ⟨ad3, eA3, _, pX⟩ := S0.2.2.2.1.get pp
    injection eA3 with eA3
    subst eA3
    obtain ⟨bd3, eB3, _, pQ⟩ := S0.2.2.2.2.1.get q0
    injection eB3 with eB3
    subst eB3
    have hs1 : (s : Int) < (m : Int) := by omega
    have hs0 : (0 : Int) ≤ (s : Int) := by omega
    have hx1 : (x : Int) < (n : Int) := by omega
    have hx0 : (0 : Int) ≤ (x : Int) := by omega
    clear q0 pp op hx hin QI HIN HA
    have HO : ∀ W W' : World, (PointOk.Box W w.heap.size ax ay ∧ PointOk.Box W (w.heap.size + 1) bx bY ∧ PointOk.Box W (w.heap.size + 1 + 1) cx cy ∧ PtsAt W w.heap.size (some ad) ps ∧ IntsAt W w.heap.size (some bd) (li l) ∧ IntAt W bd k (b : Int) ∧ IntAt W bd s (x : Int) ∧ PtAt W ad x px py ∧ Below w.heap.size w W) → Below W.heap.size W W' → (PointOk.Box W' w.heap.size ax ay ∧ PointOk.Box W' (w.heap.size + 1) bx bY ∧ PointOk.Box W' (w.heap.size + 1 + 1) cx cy ∧ PtsAt W' w.heap.size (some ad) ps ∧ IntsAt W' w.heap.size (some bd) (li l) ∧ IntAt W' bd k (b : Int) ∧ IntAt W' bd s (x : Int) ∧ PtAt W' ad x px py ∧ Below w.heap.size w W') := fun W W' ⟨x0, x1, x2, x3, x4, x5, x6, x7, hb⟩ h => ⟨x0.later h, x1.later h, x2.later h, x3.later (h.mono hb.size), x4.later (h.mono hb.size), x5.later bB (h.mono hb.size), x6.later bB (h.mono hb.size), x7.later bA (h.mono hb.size), hb.trans (h.mono hb.size)⟩
    replace S0 : PointOk.Box wr w.heap.size ax ay ∧ PointOk.Box wr (w.heap.size + 1) bx bY ∧ PointOk.Box wr (w.heap.size + 1 + 1) cx cy ∧ PtsAt wr w.heap.size (some ad) ps ∧ IntsAt wr w.heap.size (some bd) (li l) ∧ IntAt wr bd k (b : Int) ∧ IntAt wr bd s (x : Int) ∧ PtAt wr ad x px py ∧ Below w.heap.size w wr := ⟨S0.1, S0.2.1, S0.2.2.1, S0.2.2.2.1, S0.2.2.2.2.1, S0.2.2.2.2.2.1, pQ, pX, S0.2.2.2.2.2.2⟩
    clear pQ pX
    obtain ⟨⟨_, _⟩, ⟨_, _⟩, ⟨_, _⟩, _, _, ⟨_, _⟩, ⟨_, _⟩, ⟨_, _⟩, _⟩ := id S0
    by_cases e1 : x = i
    · have hin2 := Lib.hid (HS1.out (by rw [HF.out, decide_eq_true e1]; rfl))
      have m1 : ((x : Int) != (i : Int)) = false := by rw [bne_eq_false_iff_eq]; omega
      have m1n : (x != i) = false := by rw [bne_eq_false_iff_eq]; exact e1
      clear HS1 HF HA0 HA1 hl hlm QL e1
      go_wp2_with fail
      refine Settle.region (fun W => PointOk.Box W w.heap.size ax ay ∧ PointOk.Box W (w.heap.size + 1) bx bY ∧ PointOk.Box W (w.heap.size + 1 + 1) cx cy ∧ PtsAt W w.heap.size (some ad) ps ∧ IntsAt W w.heap.size (some bd) (li l) ∧ IntAt W bd k (b : Int) ∧ IntAt W bd s (x : Int) ∧ PtAt W ad x px py ∧ Below w.heap.size w W) (by kernel_rfl) (by kernel_rfl) (by kernel_rfl) (by kernel_rfl) (HO _ _ S0 ((Below.refl _ _).drew)) ?_
      clear S0
      repeat (first
        | (refine Settle.Settles.off (by rfl) ?_; simp only [Act.put, List.setIfInBounds_toArray, List.set_cons_zero, List.set_cons_succ])
        | (refine Settle.Settles.quiet (v := ?_) (by rfl) ?_ ?_
           rotate_left
           · (intro W hS; obtain ⟨⟨_, _⟩, ⟨_, _⟩, ⟨_, _⟩, _, _, ⟨_, _⟩, ⟨_, _⟩, ⟨_, _⟩, _⟩ := hS; go_simp; with_reducible rfl)
           simp only [Act.put, List.setIfInBounds_toArray, List.set_cons_zero, List.set_cons_succ])
        | (refine Settle.Settles.call (v := ?_) (f := ?_) (args := ?_) (by rfl) ?_ ?_ ?_
           rotate_left 3
           · (intro W; go_simp; refine ⟨?_, ?_⟩ <;> with_reducible rfl)
           · (intro W hS; fail)
           simp only [Act.put, List.setIfInBounds_toArray, List.set_cons_zero, List.set_cons_succ]))
      refine Settle.Settles.nil ?_
      intro wr S0
      obtain ⟨⟨_, _⟩, ⟨_, _⟩, ⟨_, _⟩, _, _, ⟨_, _⟩, ⟨_, _⟩, ⟨_, _⟩, _⟩ := id S0
      go_wp2_with fail
      first
        | exact ⟨⟨s + 1, by omega, by go_num, hin2, S0.1, S0.2.1, S0.2.2.1, S0.2.2.2.1, S0.2.2.2.2.1, S0.2.2.2.2.2.1, S0.2.2.2.2.2.2.2.2⟩, by simp [intOf]; omega⟩
        | (go_roundw <;> first | exact ⟨s + 1, by omega, by go_num, hin2, S0.1, S0.2.1, S0.2.2.1, S0.2.2.2.1, S0.2.2.2.2.1, S0.2.2.2.2.2.1, S0.2.2.2.2.2.2.2.2⟩ | (simp [intOf]; omega))
    have m1 : ((x : Int) != (i : Int)) = true := by rw [bne_iff_ne]; omega
    have m1n : (x != i) = true := by rw [bne_iff_ne]; exact e1
    by_cases e2 : x = j
    · have hin2 := Lib.hid (HS1.out (by rw [HF.out, decide_eq_true e2]; simp))
      have m2 : ((x : Int) != (j : Int)) = false := by rw [bne_eq_false_iff_eq]; omega
      have m2n : (x != j) = false := by rw [bne_eq_false_iff_eq]; exact e2
      clear HS1 HF HA0 HA1 hl hlm QL e1 e2
      go_wp2_with fail
      refine Settle.region (fun W => PointOk.Box W w.heap.size ax ay ∧ PointOk.Box W (w.heap.size + 1) bx bY ∧ PointOk.Box W (w.heap.size + 1 + 1) cx cy ∧ PtsAt W w.heap.size (some ad) ps ∧ IntsAt W w.heap.size (some bd) (li l) ∧ IntAt W bd k (b : Int) ∧ IntAt W bd s (x : Int) ∧ PtAt W ad x px py ∧ Below w.heap.size w W) (by kernel_rfl) (by kernel_rfl) (by kernel_rfl) (by kernel_rfl) (HO _ _ S0 ((Below.refl _ _).drew)) ?_
      clear S0
      repeat (first
        | (refine Settle.Settles.off (by rfl) ?_; simp only [Act.put, List.setIfInBounds_toArray, List.set_cons_zero, List.set_cons_succ])
        | (refine Settle.Settles.quiet (v := ?_) (by rfl) ?_ ?_
           rotate_left
           · (intro W hS; obtain ⟨⟨_, _⟩, ⟨_, _⟩, ⟨_, _⟩, _, _, ⟨_, _⟩, ⟨_, _⟩, ⟨_, _⟩, _⟩ := hS; go_simp; with_reducible rfl)
           simp only [Act.put, List.setIfInBounds_toArray, List.set_cons_zero, List.set_cons_succ])
        | (refine Settle.Settles.call (v := ?_) (f := ?_) (args := ?_) (by rfl) ?_ ?_ ?_
           rotate_left 3
           · (intro W; go_simp; refine ⟨?_, ?_⟩ <;> with_reducible rfl)
           · (intro W hS; fail)
           simp only [Act.put, List.setIfInBounds_toArray, List.set_cons_zero, List.set_cons_succ]))
      refine Settle.Settles.nil ?_
      intro wr S0
      obtain ⟨⟨_, _⟩, ⟨_, _⟩, ⟨_, _⟩, _, _, ⟨_, _⟩, ⟨_, _⟩, ⟨_, _⟩, _⟩ := id S0
      go_wp2_with fail
      first
        | exact ⟨⟨s + 1, by omega, by go_num, hin2, S0.1, S0.2.1, S0.2.2.1, S0.2.2.2.1, S0.2.2.2.2.1, S0.2.2.2.2.2.1, S0.2.2.2.2.2.2.2.2⟩, by simp [intOf]; omega⟩
        | (go_roundw <;> first | exact ⟨s + 1, by omega, by go_num, hin2, S0.1, S0.2.1, S0.2.2.1, S0.2.2.2.1, S0.2.2.2.2.1, S0.2.2.2.2.2.1, S0.2.2.2.2.2.2.2.2⟩ | (simp [intOf]; omega))
    have m2 : ((x : Int) != (j : Int)) = true := by rw [bne_iff_ne]; omega
    have m2n : (x != j) = true := by rw [bne_iff_ne]; exact e2
    by_cases e3 : x = b
    · have hin2 := Lib.hid (HS1.out (by rw [HF.out, decide_eq_true e3]; simp))
      have m3 : ((x : Int) != (b : Int)) = false := by rw [bne_eq_false_iff_eq]; omega
      have m3n : (x != b) = false := by rw [bne_eq_false_iff_eq]; exact e3
      clear HS1 HF HA0 HA1 hl hlm QL e1 e2 e3
      go_wp2_with fail
      refine Settle.region (fun W => PointOk.Box W w.heap.size ax ay ∧ PointOk.Box W (w.heap.size + 1) bx bY ∧ PointOk.Box W (w.heap.size + 1 + 1) cx cy ∧ PtsAt W w.heap.size (some ad) ps ∧ IntsAt W w.heap.size (some bd) (li l) ∧ IntAt W bd k (b : Int) ∧ IntAt W bd s (x : Int) ∧ PtAt W ad x px py ∧ Below w.heap.size w W) (by kernel_rfl) (by kernel_rfl) (by kernel_rfl) (by kernel_rfl) (HO _ _ S0 ((Below.refl _ _).drew)) ?_
      clear S0
      repeat (first
        | (refine Settle.Settles.off (by rfl) ?_; simp only [Act.put, List.setIfInBounds_toArray, List.set_cons_zero, List.set_cons_succ])
        | (refine Settle.Settles.quiet (v := ?_) (by rfl) ?_ ?_
           rotate_left
           · (intro W hS; obtain ⟨⟨_, _⟩, ⟨_, _⟩, ⟨_, _⟩, _, _, ⟨_, _⟩, ⟨_, _⟩, ⟨_, _⟩, _⟩ := hS; go_simp; with_reducible rfl)
           simp only [Act.put, List.setIfInBounds_toArray, List.set_cons_zero, List.set_cons_succ])
        | (refine Settle.Settles.call (v := ?_) (f := ?_) (args := ?_) (by rfl) ?_ ?_ ?_
           rotate_left 3
           · (intro W; go_simp; refine ⟨?_, ?_⟩ <;> with_reducible rfl)
           · (intro W hS; fail)
           simp only [Act.put, List.setIfInBounds_toArray, List.set_cons_zero, List.set_cons_succ]))
      refine Settle.Settles.nil ?_
      intro wr S0
      obtain ⟨⟨_, _⟩, ⟨_, _⟩, ⟨_, _⟩, _, _, ⟨_, _⟩, ⟨_, _⟩, ⟨_, _⟩, _⟩ := id S0
      go_wp2_with fail
      first
        | exact ⟨⟨s + 1, by omega, by go_num, hin2, S0.1, S0.2.1, S0.2.2.1, S0.2.2.2.1, S0.2.2.2.2.1, S0.2.2.2.2.2.1, S0.2.2.2.2.2.2.2.2⟩, by simp [intOf]; omega⟩
        | (go_roundw <;> first | exact ⟨s + 1, by omega, by go_num, hin2, S0.1, S0.2.1, S0.2.2.1, S0.2.2.2.1, S0.2.2.2.2.1, S0.2.2.2.2.2.1, S0.2.2.2.2.2.2.2.2⟩ | (simp [intOf]; omega))
    have m3 : ((x : Int) != (b : Int)) = true := by rw [bne_iff_ne]; omega
    have m3n : (x != b) = true := by rw [bne_iff_ne]; exact e3
    cases tr
    · have hin2 := Lib.hid (HS1.out (by rw [HF.out]; simp))
      clear HS1 HF HA0 HA1 hl hlm e1 e2 e3
      go_wp2_with fail
      refine Settle.region (fun W => PointOk.Box W w.heap.size ax ay ∧ PointOk.Box W (w.heap.size + 1) bx bY ∧ PointOk.Box W (w.heap.size + 1 + 1) cx cy ∧ PtsAt W w.heap.size (some ad) ps ∧ IntsAt W w.heap.size (some bd) (li l) ∧ IntAt W bd k (b : Int) ∧ IntAt W bd s (x : Int) ∧ PtAt W ad x px py ∧ Below w.heap.size w W) (by kernel_rfl) (by kernel_rfl) (by kernel_rfl) (by kernel_rfl) (HO _ _ S0 ((Below.refl _ _).drew)) ?_
      clear S0
      repeat (first
        | (refine Settle.Settles.off (by rfl) ?_; simp only [Act.put, List.setIfInBounds_toArray, List.set_cons_zero, List.set_cons_succ])
        | (refine Settle.Settles.quiet (v := ?_) (by rfl) ?_ ?_
           rotate_left
           · (intro W hS; obtain ⟨⟨_, _⟩, ⟨_, _⟩, ⟨_, _⟩, _, _, ⟨_, _⟩, ⟨_, _⟩, ⟨_, _⟩, _⟩ := hS; go_simp; with_reducible rfl)
           simp only [Act.put, List.setIfInBounds_toArray, List.set_cons_zero, List.set_cons_succ])
        | (refine Settle.Settles.call (v := ?_) (f := ?_) (args := ?_) (by rfl) ?_ ?_ ?_
           rotate_left 3
           · (intro W; go_simp; refine ⟨?_, ?_⟩ <;> with_reducible rfl)
           · (intro W hS; first | (go_at_call 90; (with_reducible refine (QL.out _).mono ?_); rintro e W1 ⟨rfl, hb⟩; refine ⟨?_, HO _ _ hS hb⟩; with_reducible rfl))
           simp only [Act.put, List.setIfInBounds_toArray, List.set_cons_zero, List.set_cons_succ]))
      refine Settle.Settles.nil ?_
      intro wr S0
      obtain ⟨⟨_, _⟩, ⟨_, _⟩, ⟨_, _⟩, _, _, ⟨_, _⟩, ⟨_, _⟩, ⟨_, _⟩, _⟩ := id S0
      go_wp2_with fail
      first
        | exact ⟨⟨s + 1, by omega, by go_num, hin2, S0.1, S0.2.1, S0.2.2.1, S0.2.2.2.1, S0.2.2.2.2.1, S0.2.2.2.2.2.1, S0.2.2.2.2.2.2.2.2⟩, by simp [intOf]; omega⟩
        | (go_roundw <;> first | exact ⟨s + 1, by omega, by go_num, hin2, S0.1, S0.2.1, S0.2.2.1, S0.2.2.2.1, S0.2.2.2.2.1, S0.2.2.2.2.2.1, S0.2.2.2.2.2.2.2.2⟩ | (simp [intOf]; omega))
    · have E : Hid (r = false) := Lib.hid (HA0.out (by rw [HF.out, decide_eq_false e1, decide_eq_false e2, decide_eq_false e3]; rfl))
      clear HS1 HF HA0 HA1 hl hlm e1 e2 e3
      go_wp2_with fail
      refine Settle.region (fun W => PointOk.Box W w.heap.size ax ay ∧ PointOk.Box W (w.heap.size + 1) bx bY ∧ PointOk.Box W (w.heap.size + 1 + 1) cx cy ∧ PtsAt W w.heap.size (some ad) ps ∧ IntsAt W w.heap.size (some bd) (li l) ∧ IntAt W bd k (b : Int) ∧ IntAt W bd s (x : Int) ∧ PtAt W ad x px py ∧ Below w.heap.size w W) (by kernel_rfl) (by kernel_rfl) (by kernel_rfl) (by kernel_rfl) (HO _ _ S0 ((Below.refl _ _).drew)) ?_
      clear S0
      repeat (first
        | (refine Settle.Settles.off (by rfl) ?_; simp only [Act.put, List.setIfInBounds_toArray, List.set_cons_zero, List.set_cons_succ])
        | (refine Settle.Settles.quiet (v := ?_) (by rfl) ?_ ?_
           rotate_left
           · (intro W hS; obtain ⟨⟨_, _⟩, ⟨_, _⟩, ⟨_, _⟩, _, _, ⟨_, _⟩, ⟨_, _⟩, ⟨_, _⟩, _⟩ := hS; go_simp; with_reducible rfl)
           simp only [Act.put, List.setIfInBounds_toArray, List.set_cons_zero, List.set_cons_succ])
        | (refine Settle.Settles.call (v := ?_) (f := ?_) (args := ?_) (by rfl) ?_ ?_ ?_
           rotate_left 3
           · (intro W; go_simp; refine ⟨?_, ?_⟩ <;> with_reducible rfl)
           · (intro W hS; first | (go_at_call 90; (with_reducible refine (QL.out _).mono ?_); rintro e W1 ⟨rfl, hb⟩; refine ⟨?_, HO _ _ hS hb⟩; with_reducible rfl))
           simp only [Act.put, List.setIfInBounds_toArray, List.set_cons_zero, List.set_cons_succ]))
      refine Settle.Settles.nil ?_
      intro wr S0
      obtain ⟨⟨_, _⟩, ⟨_, _⟩, ⟨_, _⟩, _, _, ⟨_, _⟩, ⟨_, _⟩, ⟨_, _⟩, _⟩ := id S0
      go_wp2_with fail
      go_ret
      exact ⟨ret_bool E.out.symm, S0.2.2.2.2.2.2.2.2⟩
end Go.Proofs.YtkcodmafakjkfaaGreat.TrisSpec


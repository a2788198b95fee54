/-
  What the model's LongestCalm does, as a contract: what it answers; new memory alone is written.
-/
import Derived.Test.YtmcjnldkhnebcaaCalmMath
import Derived.Test.YtmcjnldkhnebcaaAlarmSpec
import Derived.Lib.MinMax
import Derived.OwnWalk
namespace Go.Proofs.Ytmcjnldkhnebcaa.CalmSpec
open Go.RowKit Own PointMath DiagMath DutyMath AlarmMath SuspMath CalmMath Tup3 Blk
open PointOk (ret_bool ret_i64 below1 below2 below3)

theorem row_cell {W : World} {b e g n c j : Nat} {L : List Int} {x : Int} (h : W.ownsRow b e 1 (.slice (some ⟨g, 0, none⟩) n c) n (icells L)) (hj : j < n) (hx : L[j]? = some x) :
    W.cell? ⟨g, j, none⟩ = some (.int .i64 x) ∧ W.frozen? ⟨g, j, none⟩ = false := by
  obtain ⟨g', hA, _, _, h1, h2⟩ := own_cell h hj (x := .int .i64 x) (by unfold icells; rw [List.getElem?_map, hx]; rfl)
  injection hA with hA
  injection hA with hA
  subst hA
  exact ⟨h1, h2⟩
theorem row_at {W : World} {b e n c : Nat} {A : Option Addr} {L : List Int} (h : W.ownsRow b e 1 (.slice A n c) n (icells L)) (hn : 0 < n) : ∃ g, A = some ⟨g, 0, none⟩ := by
  obtain ⟨g, _, hv, _⟩ := h.form hn
  injection hv with h1 _ _
  exact ⟨g, h1⟩

set_option maxRecDepth 100000 in
set_option maxHeartbeats 6400000 in
theorem longestCalm (A : Option Addr) (n cap : Nat) (B : Option Addr) (m cb : Nat) (w : World) (ps : List Tu) (hl0 : ps.length = n) (hn : n ≤ 1048576) (hp : TsAt w w.heap.size A ps) (qs : List Tu) (hl : qs.length = m) (hn2 : m ≤ 1048576) (hq : TsAt w w.heap.size B qs) :
    Calls Try.prog 6 #[.slice A n cap, .slice B m cb] w fun e w' => e = .returned (.int .i64 (calmI ps qs)) ∧ Below w.heap.size w w' := by
  have QA := Lib.hid (AlarmSpec.alarmsOf A n cap B m cb w ps hl0 hn hp qs hl hn2 hq)
  unfold GivesI at QA
  have HAt : Hid (∀ k, k < (alarmsL ps qs).length → ∃ j : Nat, (alarmsL ps qs)[k]? = some (j : Int) ∧ j < m ∧ (momsL ps qs).getD k 0 = (tt qs j).2.2) := Lib.hid (fun k hk => by rw [← hl]; exact alarm_at hk)
  have HML : Hid ((momsL ps qs).length = (alarmsL ps qs).length) := Lib.hid (moms_length ps qs)
  have HMI : Hid (∀ x ∈ momsL ps qs, 0 ≤ x ∧ x ≤ 10000) := Lib.hid (moms_in ps qs)
  have hql : (alarmsL ps qs).length ≤ 1048576 := alarmsL_le ps qs (by omega)
  have HR : Hid (calmI ps qs = if m ≤ 40 then bestTo (momsL ps qs) (momsL ps qs).length else 0) := Lib.hid (by unfold calmI; rw [hl])
  generalize momsL ps qs = M at *
  generalize calmI ps qs = r at *
  generalize alarmsL ps qs = I at *
  obtain ⟨q, hIq⟩ : ∃ q, I.length = q := ⟨_, rfl⟩
  rw [hIq] at QA HAt HML hql
  go_enter Try.func6, Try.ntmps6
  go_wp2_with fail
  refine QA.out.mono ?_
  rintro e w1 ⟨A1, c1, rfl, hown, hb_⟩
  have hq1 := hq.later hb_
  clear QA hp hq
  by_cases hm40 : m ≤ 40
  rotate_left
  · have E : Hid (r = 0) := Lib.hid (by rw [HR.out, if_neg hm40])
    have hx : ¬ ((m : Int) ≤ 40) := by omega
    clear HR HAt HML HMI
    by_cases hq0 : q = 0
    · subst hq0
      go_wp2_with fail
      refine wp_loop_rounds 1 ?_
      rw [rounds_succ]
      go_wp2_with fail
      go_ret
      exact ⟨ret_i64 E.out.symm, hb_⟩
    · have hx0 : 0 < (q : Int) := by omega
      go_wp2_with fail
      refine wp_loop_rounds 1 ?_
      rw [rounds_succ]
      go_wp2_with fail
      go_ret
      exact ⟨ret_i64 E.out.symm, hb_⟩
  have hx : (m : Int) ≤ 40 := by omega
  have HE : Hid (bestTo M q = r) := Lib.hid (by rw [HR.out, if_pos hm40, HML.out])
  clear HR hm40
  go_wp2_with fail
  go_loopw [6, 7] (fun b i wr => ∃ k : Nat, k ≤ q ∧ i = .int .i64 k ∧ b = .int .i64 (bestTo M k) ∧ wr = w1)
    (fun _ i _ => q - (intOf i).toNat)
  case atStart => exact ⟨0, Nat.zero_le _, rfl, rfl, rfl⟩
  case round =>
    obtain ⟨k, hkn, rfl, rfl, rfl⟩ := hrel
    by_cases hlt : k < q
    rotate_left
    · obtain rfl : q = k := by omega
      rw [HE.out]
      clear HE HAt HML HMI hown hq1 hIq hl
      go_wp2_with fail
      go_ret
      exact ⟨rfl, hb_⟩
    have hk1 : (k : Int) < (q : Int) := by omega
    have hk0 : (0 : Int) ≤ (k : Int) := by omega
    obtain ⟨g, rfl⟩ := row_at hown (by omega)
    obtain ⟨j, e1, hj, e2⟩ := HAt.out k hlt
    have hcI := row_cell hown hlt e1
    have p0 := tt_at (ps := qs) (k := j) (by omega)
    obtain ⟨z, kd, a, hx3⟩ : ∃ z kd a, tt qs j = (z, kd, a) := ⟨_, _, _, rfl⟩
    rw [hx3] at p0 e2
    dsimp only at e2
    have ha : 0 ≤ a ∧ a ≤ 10000 := by rw [← e2]; exact HMI.out _ (mem_getD.2 ⟨k, by rw [HML.out]; exact hlt, rfl⟩)
    have HB : Hid (bestTo M (k + 1) = if 0 ≤ nextTo M a q then max (bestTo M k) (nextTo M a q - a) else bestTo M k) := Lib.hid (by show (if 0 ≤ nextTo M (M.getD k 0) M.length then _ else _) = _; rw [e2, HML.out])
    have HNI := Lib.hid (next_in M a HMI.out ha.1)
    rw [HML.out] at HNI
    obtain ⟨bd, eB, bB, pB⟩ := hq1.get p0
    subst eB
    have hjm : (j : Int) < (m : Int) := by omega
    have hj0 : (0 : Int) ≤ (j : Int) := by omega
    obtain ⟨hcI1, _⟩ := hcI
    obtain ⟨_, _, _⟩ := id pB
    generalize bestTo M k = v at *
    clear p0 hx3 e1 e2 pB HE
    go_wp2_with fail
    go_loopw [9, 10] (fun nx i wr2 => ∃ u : Nat, u ≤ q ∧ i = .int .i64 u ∧ nx = .int .i64 (nextTo M a u) ∧ wr2 = wr)
      (fun _ i _ => q - (intOf i).toNat)
    case atStart => exact ⟨0, Nat.zero_le _, rfl, rfl, rfl⟩
    case round =>
      obtain ⟨u, hun, rfl, rfl, rfl⟩ := hrel
      by_cases hu : u < q
      rotate_left
      · obtain rfl : q = u := by omega
        have hni := HNI.out
        have uw : IntKind.i64.wrap (nextTo M a q - a) = nextTo M a q - a := IntWalk.i64_in _ (by omega)
        generalize nextTo M a q = x at *
        clear HAt HML HMI hown hq1 hIq hl HNI
        by_cases hx0 : 0 ≤ x
        · have HB2 : Hid (bestTo M (k + 1) = max v (x - a)) := Lib.hid (by rw [HB.out, if_pos hx0])
          clear HB
          go_wp2_with fail
          first
            | exact ⟨⟨k + 1, by omega, by go_num, by rw [HB2.out], by first | trivial | rfl⟩, by simp [intOf]; omega⟩
            | (go_roundw <;> first | exact ⟨k + 1, by omega, by go_num, by rw [HB2.out], by first | trivial | rfl⟩ | (simp [intOf]; omega))
        · have HB2 : Hid (bestTo M (k + 1) = v) := Lib.hid (by rw [HB.out, if_neg hx0])
          clear HB
          go_wp2_with fail
          first
            | exact ⟨⟨k + 1, by omega, by go_num, by rw [HB2.out], by first | trivial | rfl⟩, by simp [intOf]; omega⟩
            | (go_roundw <;> first | exact ⟨k + 1, by omega, by go_num, by rw [HB2.out], by first | trivial | rfl⟩ | (simp [intOf]; omega))
      have hu1 : (u : Int) < (q : Int) := by omega
      have hu0 : (0 : Int) ≤ (u : Int) := by omega
      obtain ⟨j2, e1, hj2, e2⟩ := HAt.out u hu
      have hcJ := row_cell hown hu e1
      have p0 := tt_at (ps := qs) (k := j2) (by omega)
      obtain ⟨z2, kd2, b, hx3⟩ : ∃ z kd a, tt qs j2 = (z, kd, a) := ⟨_, _, _, rfl⟩
      rw [hx3] at p0 e2
      dsimp only at e2
      have HN : Hid (nextTo M a (u + 1) = if b > a ∧ (nextTo M a u < 0 ∨ b < nextTo M a u) then b else nextTo M a u) := Lib.hid (by show (if M.getD u 0 > a ∧ (nextTo M a u < 0 ∨ M.getD u 0 < nextTo M a u) then M.getD u 0 else nextTo M a u) = _; rw [e2])
      obtain ⟨bd2, eB2, bB2, pB2⟩ := hq1.get p0
      injection eB2 with eB2
      subst eB2
      have hjm2 : (j2 : Int) < (m : Int) := by omega
      have hj20 : (0 : Int) ≤ (j2 : Int) := by omega
      obtain ⟨hcJ1, _⟩ := hcJ
      obtain ⟨_, _, _⟩ := id pB2
      generalize nextTo M a u = x at *
      clear p0 hx3 e1 e2 pB2 HAt HML HMI hown hq1 HB HNI hIq hl
      by_cases h1 : b > a
      rotate_left
      · have HN2 : Hid (nextTo M a (u + 1) = x) := Lib.hid (by rw [HN.out]; exact if_neg (fun h => h1 h.1))
        clear HN
        go_wp2_with fail
        first
          | exact ⟨⟨u + 1, by omega, by go_num, by rw [HN2.out], by first | trivial | rfl⟩, by simp [intOf]; omega⟩
          | (go_roundw <;> first | exact ⟨u + 1, by omega, by go_num, by rw [HN2.out], by first | trivial | rfl⟩ | (simp [intOf]; omega))
      have h1b : a < b := h1
      by_cases h2 : x < 0
      · have HN2 : Hid (nextTo M a (u + 1) = b) := Lib.hid (by rw [HN.out]; exact if_pos ⟨h1, .inl h2⟩)
        clear HN
        go_wp2_with fail
        first
          | exact ⟨⟨u + 1, by omega, by go_num, by rw [HN2.out], by first | trivial | rfl⟩, by simp [intOf]; omega⟩
          | (go_roundw <;> first | exact ⟨u + 1, by omega, by go_num, by rw [HN2.out], by first | trivial | rfl⟩ | (simp [intOf]; omega))
      by_cases h3 : b < x
      · have HN2 : Hid (nextTo M a (u + 1) = b) := Lib.hid (by rw [HN.out]; exact if_pos ⟨h1, .inr h3⟩)
        clear HN
        go_wp2_with fail
        first
          | exact ⟨⟨u + 1, by omega, by go_num, by rw [HN2.out], by first | trivial | rfl⟩, by simp [intOf]; omega⟩
          | (go_roundw <;> first | exact ⟨u + 1, by omega, by go_num, by rw [HN2.out], by first | trivial | rfl⟩ | (simp [intOf]; omega))
      · have HN2 : Hid (nextTo M a (u + 1) = x) := Lib.hid (by rw [HN.out]; exact if_neg (fun h => h.2.elim h2 h3))
        clear HN
        go_wp2_with fail
        first
          | exact ⟨⟨u + 1, by omega, by go_num, by rw [HN2.out], by first | trivial | rfl⟩, by simp [intOf]; omega⟩
          | (go_roundw <;> first | exact ⟨u + 1, by omega, by go_num, by rw [HN2.out], by first | trivial | rfl⟩ | (simp [intOf]; omega))
end Go.Proofs.Ytmcjnldkhnebcaa.CalmSpec

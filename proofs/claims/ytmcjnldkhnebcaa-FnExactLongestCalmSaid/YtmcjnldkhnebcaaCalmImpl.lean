/-
  What LongestCalm does as it landed, as a contract: what it answers; new memory alone is written.
-/
import Derived.Test.YtmcjnldkhnebcaaCalmMath
import Derived.Test.YtmcjnldkhnebcaaAlarmImpl
import Derived.Test.YtmcjnldkhnebcaaSuspSort
import Derived.Test.YtmcjnldkhnebcaaAppOne
import Derived.Lib.MinMax
import Derived.BigRegion
import Derived.OwnWalk
namespace Go.Proofs.Ytmcjnldkhnebcaa.CalmImpl
open Go.RowKit Own PointMath DiagMath DutyMath AlarmMath SuspMath SuspSort CalmMath Tup3 Blk
open PointOk (ret_bool ret_i64 below1 below2 below3)

theorem infoI : (Try.prog.info? 3).map (fun i => (i.zero, i.size, i.bytes)) = some (some (.int .i64 0), 1, 8) := by kernel_rfl
theorem row_cell {W : World} {b e g n c j : Nat} {L : List Int} {x : Int} (h : W.ownsRow b e 1 (.slice (some ⟨g, 0, none⟩) n c) n (icells L)) (hj : j < n) (hx : L[j]? = some x) :
    W.cell? ⟨g, j, none⟩ = some (.int .i64 x) ∧ W.frozen? ⟨g, j, none⟩ = false := by
  obtain ⟨g', hA, _, _, h1, h2⟩ := own_cell h hj (x := .int .i64 x) (by unfold icells; rw [List.getElem?_map, hx]; rfl)
  injection hA with hA
  injection hA with hA
  subst hA
  exact ⟨h1, h2⟩
theorem row_at {W : World} {b e n c : Nat} {A : Option Addr} {L : List Int} (h : W.ownsRow b e 1 (.slice A n c) n (icells L)) (hn : 0 < n) : ∃ g, A = some ⟨g, 0, none⟩ := by
  obtain ⟨g, _, hv, _⟩ := h.form hn
  injection hv with h1 _ _
  exact ⟨g, h1⟩

theorem take_more (M : List Int) (k : Nat) (h : k < M.length) : M.take (k + 1) = M.take k ++ [M.getD k 0] := by
  rw [List.take_add_one, List.getD_eq_getElem?_getD, List.getElem?_eq_getElem h]
  rfl

set_option maxRecDepth 100000 in
set_option maxHeartbeats 6400000 in
theorem longestCalm (A : Option Addr) (n cap : Nat) (B : Option Addr) (m cb : Nat) (w : World) (ps : List Tu) (hl0 : ps.length = n) (hn : n ≤ 1048576) (hp : TsAt w w.heap.size A ps) (qs : List Tu) (hl : qs.length = m) (hn2 : m ≤ 1048576) (hq : TsAt w w.heap.size B qs) :
    Calls Try.prog 9 #[.slice A n cap, .slice B m cb] w fun e w' => e = .returned (.int .i64 (calmI ps qs)) ∧ Below w.heap.size w w' := by
  have QA := Lib.hid (AlarmImpl.alarmsOf A n cap B m cb w ps hl0 hn hp qs hl hn2 hq)
  unfold GivesI at QA
  have HAt : Hid (∀ k, k < (alarmsL ps qs).length → ∃ j : Nat, (alarmsL ps qs)[k]? = some (j : Int) ∧ j < m ∧ (momsL ps qs).getD k 0 = (tt qs j).2.2) := Lib.hid (fun k hk => by rw [← hl]; exact alarm_at hk)
  have HML : Hid ((momsL ps qs).length = (alarmsL ps qs).length) := Lib.hid (moms_length ps qs)
  have HMI : Hid (∀ x ∈ momsL ps qs, 0 ≤ x ∧ x ≤ 10000) := Lib.hid (moms_in ps qs)
  have hql : (alarmsL ps qs).length ≤ 1048576 := alarmsL_le ps qs (by omega)
  have HR : Hid (calmI ps qs = if m ≤ 40 then bestTo (momsL ps qs) (momsL ps qs).length else 0) := Lib.hid (by unfold calmI; rw [hl])
  generalize momsL ps qs = M at *
  generalize calmI ps qs = r at *
  generalize alarmsL ps qs = I at *
  obtain ⟨q, hIq⟩ : ∃ q, I.length = q := ⟨_, rfl⟩
  rw [hIq] at QA HAt HML hql
  obtain ⟨i0, hi, hz0, hz1, hz2⟩ := info_parts infoI
  by_cases hm40 : m ≤ 40
  rotate_left
  · have E : Hid (r = 0) := Lib.hid (by rw [HR.out, if_neg hm40])
    have hx : (40 : Int) < (m : Int) := by omega
    clear HR HAt HML HMI QA
    go_enter Try.func9, Try.ntmps9
    go_wp2_with fail
    go_ret
    exact ⟨ret_i64 E.out.symm, Below.refl _ _⟩
  have hx : ¬ ((40 : Int) < (m : Int)) := by omega
  have HE : Hid (longTo (sorted M) (q - 1) = r) := Lib.hid (by rw [HR.out, if_pos hm40, calm_eq M (fun x hx => (HMI.out x hx).1), HML.out])
  clear HR
  go_enter Try.func9, Try.ntmps9
  go_wp2_with fail
  refine QA.out.mono ?_
  rintro e w1 ⟨A1, c1, rfl, hownA, hb_⟩
  have hq1 := hq.later hb_
  replace hq1 := hq1.wide hb_.size
  clear QA hp hq
  go_wp2_with fail
  go_loopw [5, 17] (fun v i wr => ∃ k : Nat, k ≤ q ∧ i = .int .i64 k ∧ wr.ownsRow (w1.heap.size) 3 1 v k (icells (M.take k)) ∧ Below w1.heap.size w1 wr)
    (fun _ i _ => q - (intOf i).toNat)
  case atStart => exact ⟨0, Nat.zero_le _, rfl, World.ownsRow_nil _ _ _ _, Below.refl _ _⟩
  case round =>
    obtain ⟨k, hkn, rfl, hown, hb1⟩ := hrel
    obtain ⟨Ao, co, rfl⟩ := own_shape hown
    by_cases hlt : k < q
    rotate_left
    · obtain rfl : q = k := by omega
      have hown2 : Hid (wr.ownsRow (w1.heap.size) 3 1 (.slice Ao q co) q (icells M)) := Lib.hid (by have h := hown; rw [← HML.out, List.take_length, HML.out] at h; exact h)
      clear hown HAt hownA hq1
      go_wp2_with fail
      refine (sort_own hown2.out (by omega)).mono ?_
      rintro e w3 ⟨rfl, ho3, hg3⟩
      have hb3 : Below w1.heap.size wr w3 := (Below.refl _ _).grown hg3 hb1.size (fun k hk => (hown2.out.lt k hk).1)
      have hbw : Below w.heap.size w w3 := hb_.trans ((hb1.trans hb3).mono hb_.size)
      have hsi : Hid (∀ k, k < q → 0 ≤ (sorted M).getD k 0 ∧ (sorted M).getD k 0 ≤ 10000) := Lib.hid (fun k hk => HMI.out _ ((sorted_mem M _).1 (mem_getD.2 ⟨k, by rw [sorted_length, HML.out]; exact hk, rfl⟩)))
      have hsl : Hid ((sorted M).length = q) := Lib.hid (by rw [sorted_length, HML.out])
      clear hown2 hg3 hb3 hb1 hb_ HMI HML
      generalize sorted M = s at *
      go_wp2_with fail
      go_loopw [8, 9] (fun v i wr => ∃ k : Nat, (k + 1 ≤ q ∨ k = 0) ∧ i = .int .i64 ((k + 1 : Nat) : Int) ∧ v = .int .i64 (longTo s k) ∧ wr.ownsRow (w1.heap.size) 3 1 (.slice Ao q co) q (icells s) ∧ Below w.heap.size w wr)
        (fun _ i _ => q - (intOf i).toNat)
      case atStart => exact ⟨0, .inr rfl, rfl, rfl, ho3, hbw⟩
      case round =>
        clear ho3 hbw
        obtain ⟨k, hkn, rfl, rfl, ho3, hbw⟩ := hrel
        by_cases hlt : k + 1 < q
        rotate_left
        · have hkq : q - 1 = k := by omega
          rw [hkq] at HE
          rw [HE.out]
          have hx1 : ¬ (((k + 1 : Nat) : Int) < (q : Int)) := by omega
          have hx2 : ¬ ((k : Int) + 1 < (q : Int)) := by omega
          clear HE hsi hsl ho3
          go_wp2_with fail
          go_ret
          exact ⟨rfl, hbw⟩
        have hk1 : ((k + 1 : Nat) : Int) < (q : Int) := by omega
        have hk0 : (0 : Int) ≤ ((k + 1 : Nat) : Int) := by omega
        have hk2 : (k : Int) + 1 < (q : Int) := by omega
        have hk3 : (0 : Int) ≤ (k : Int) := by omega
        have hk4 : (k : Int) < (q : Int) := by omega
        obtain ⟨g, rfl⟩ := row_at ho3 (by omega)
        have hat : ∀ j, j < q → s[j]? = some (s.getD j 0) := fun j hj => by
          have hj2 : j < s.length := by rw [hsl.out]; exact hj
          rw [List.getD_eq_getElem?_getD, List.getElem?_eq_getElem hj2]; rfl
        obtain ⟨hc1, _⟩ := row_cell ho3 (j := k + 1) hlt (hat _ hlt)
        obtain ⟨hc0, _⟩ := row_cell ho3 (j := k) (by omega) (hat _ (by omega))
        have i1 := hsi.out (k + 1) hlt
        have i0_ := hsi.out k (by omega)
        have HL : Hid (longTo s (k + 1) = max (longTo s k) (s.getD (k + 1) 0 - s.getD k 0)) := Lib.hid rfl
        generalize longTo s k = v at *
        generalize s.getD (k + 1) 0 = y at *
        generalize s.getD k 0 = x at *
        have uw : IntKind.i64.wrap (y - x) = y - x := IntWalk.i64_in _ (by omega)
        have hdr : Below wr.heap.size wr wr.drew := (Below.refl _ _).drew
        have ho4 := Lib.hid (own_below ho3 hdr)
        have hbw4 := Lib.hid (hbw.drew)
        clear hat hsi hsl HE ho3 hbw hdr
        go_wp2_with fail
        go_region
        go_wp2_with fail
        first
          | exact ⟨⟨k + 1, .inl (by omega), by go_num, by rw [HL.out], ho4.out, hbw4.out⟩, by simp [intOf]; omega⟩
          | (go_roundw <;> first | exact ⟨k + 1, .inl (by omega), by go_num, by rw [HL.out], ho4.out, hbw4.out⟩ | (simp [intOf]; omega))
    have hk1 : (k : Int) < (q : Int) := by omega
    have hk0 : (0 : Int) ≤ (k : Int) := by omega
    obtain ⟨g, rfl⟩ := row_at hownA (by omega)
    obtain ⟨j, e1, hj, e2⟩ := HAt.out k hlt
    obtain ⟨hcI, _⟩ := row_cell (own_below hownA hb1) hlt e1
    have p0 := tt_at (ps := qs) (k := j) (by omega)
    obtain ⟨z, kd, a, hx3⟩ : ∃ z kd a, tt qs j = (z, kd, a) := ⟨_, _, _, rfl⟩
    rw [hx3] at p0 e2
    dsimp only at e2
    have HT : Hid (M.take (k + 1) = M.take k ++ [a]) := Lib.hid (by rw [take_more M k (by rw [HML.out]; exact hlt), e2])
    obtain ⟨bd, eB, bB, pB⟩ := hq1.get p0
    subst eB
    obtain ⟨_, _, _⟩ := pB.later bB hb1
    have hjm : (j : Int) < (m : Int) := by omega
    have hj0 : (0 : Int) ≤ (j : Int) := by omega
    have hszr := hb1.size
    clear p0 hx3 e1 e2 pB HE HAt HML HMI hownA hq1
    generalize M.take k = l at *
    go_wp2_with (at_builtin; refine AppOne.append_one wr (by rfl) _ _ rfl (w1.heap.size) (.slice Ao k co) k (icells l) (by rfl) hown a (by rfl) (by omega) (by omega) ?_)
    intro v1_ wa_ ho_ hg_
    have HN : Hid (wa_.ownsRow (w1.heap.size) 3 1 v1_ (k + 1) (icells (M.take (k + 1))) ∧ Below w1.heap.size w1 wa_) := Lib.hid (by
      rw [HT.out, icells_snoc]
      exact ⟨ho_, hb1.trans hg_⟩)
    clear ho_ hg_ hown HT
    go_wp2_with fail
    first
      | exact ⟨⟨k + 1, by omega, by go_num, HN.out.1, HN.out.2⟩, by simp [intOf]; omega⟩
      | (go_roundw <;> first | exact ⟨k + 1, by omega, by go_num, HN.out.1, HN.out.2⟩ | (simp [intOf]; omega))
end Go.Proofs.Ytmcjnldkhnebcaa.CalmImpl

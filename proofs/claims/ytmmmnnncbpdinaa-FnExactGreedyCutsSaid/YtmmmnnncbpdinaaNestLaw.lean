/-
  The law's own helpers on rows of slices of two numbers: they compare, they mark, they look whether the marks are held: as contracts over rows that the call itself made.
-/
import Derived.Test.YtmmmnnncbpdinaaNest
import Derived.Test.YtmmmnnncbpdinaaGround
namespace Go.Proofs.Ytmmmnnncbpdinaa.NestLaw
open Go.RowKit PointOk Blk Go.Lib Own LawInt Nest

set_option maxRecDepth 100000 in
set_option maxHeartbeats 1600000 in
theorem eqSS (w : World) (l1 h1 l2 h2 n : Nat) (_hn : n ≤ 1048576) (v1 v2 : Value) (L : List (Int × Int)) (hl : L.length = n) (H1 : Nest w l1 h1 v1 L) (H2 : Nest w l2 h2 v2 L) (hh1 : h1 ≤ w.heap.size) (hh2 : h2 ≤ w.heap.size) :
    Calls Try.prog 18 #[v1, v2] w fun e w' => e = .returned (.bool true) ∧ Below w.heap.size w w' := by
  obtain ⟨A1, c1, rfl⟩ := H1.shape
  obtain ⟨A2, c2, rfl⟩ := H2.shape
  rw [hl] at H1 H2 ⊢
  have H1 := Lib.hid H1
  have H2 := Lib.hid H2
  go_enter Try.func18, Try.ntmps18
  go_wp2_with fail
  go_loopw [5] (fun i wr => ∃ k : Nat, k ≤ n ∧ i = .int .i64 k ∧ Hid (Nest wr l1 h1 (.slice A1 n c1) L) ∧ Hid (Nest wr l2 h2 (.slice A2 n c2) L) ∧ Below w.heap.size w wr) (fun i _ => n - (intOf i).toNat)
  case atStart => exact ⟨0, Nat.zero_le _, rfl, H1, H2, Below.refl _ _⟩
  case round =>
    clear H1 H2
    obtain ⟨k, hk, rfl, H1, H2, hb⟩ := hrel
    by_cases hlt : k < n
    · obtain ⟨g1, i1, rfl, hc1, _, _, r1⟩ := H1.out.get hl (j := k) (by omega)
      obtain ⟨g2, i2, rfl, hc2, _, _, r2⟩ := H2.out.get hl (j := k) (by omega)
      have k0 : (0 : Int) ≤ (k : Int) := by omega
      have k1 : (k : Int) < (n : Int) := by omega
      have QE : Hid (∀ (x : World) (hx : Below wr.heap.size wr x), _) := Lib.hid fun (x : World) (hx : Below wr.heap.size wr x) => eqIB x _ _ 2 (by omega) _ _ _ (own_below r1 hx) (own_below r2 hx)
      have HX : Hid (∀ x, Below wr.heap.size wr x → Hid (Nest x l1 h1 (.slice (some ⟨g1, 0, none⟩) n c1) L) ∧ Hid (Nest x l2 h2 (.slice (some ⟨g2, 0, none⟩) n c2) L) ∧ Below w.heap.size w x) := Lib.hid (fun x hx => ⟨Lib.hid (H1.out.below (Nat.le_trans hh1 hb.size) hx), Lib.hid (H2.out.below (Nat.le_trans hh2 hb.size) hx), hb.trans (hx.mono hb.size)⟩)
      clear r1 r2 H1 H2 hl
      unfold sv at hc1 hc2 QE
      have HO : ∀ W W' : World, (W.cell? ⟨g1, k, none⟩ = some (.slice (some ⟨i1, 0, none⟩) 2 2) ∧ W.cell? ⟨g2, k, none⟩ = some (.slice (some ⟨i2, 0, none⟩) 2 2) ∧ Below wr.heap.size wr W) → Below W.heap.size W W' → (W'.cell? ⟨g1, k, none⟩ = some (.slice (some ⟨i1, 0, none⟩) 2 2) ∧ W'.cell? ⟨g2, k, none⟩ = some (.slice (some ⟨i2, 0, none⟩) 2 2) ∧ Below wr.heap.size wr W') := fun W W' ⟨x0, x1, hb⟩ h => ⟨cell_later h x0, cell_later h x1, hb.trans (h.mono hb.size)⟩
      have S0 : wr.cell? ⟨g1, k, none⟩ = some (.slice (some ⟨i1, 0, none⟩) 2 2) ∧ wr.cell? ⟨g2, k, none⟩ = some (.slice (some ⟨i2, 0, none⟩) 2 2) ∧ Below wr.heap.size wr wr := ⟨hc1, hc2, Below.refl _ _⟩
      go_wp2_with fail
      refine Settle.region (fun W => W.cell? ⟨g1, k, none⟩ = some (.slice (some ⟨i1, 0, none⟩) 2 2) ∧ W.cell? ⟨g2, k, none⟩ = some (.slice (some ⟨i2, 0, none⟩) 2 2) ∧ Below wr.heap.size wr W) (by kernel_rfl) (by kernel_rfl) (by kernel_rfl) (by kernel_rfl) (HO _ _ S0 ((Below.refl _ _).drew)) ?_
      clear S0
      repeat (first
        | (refine Settle.Settles.off (by rfl) ?_; simp only [Act.put, List.setIfInBounds_toArray, List.set_cons_zero, List.set_cons_succ])
        | (refine Settle.Settles.quiet (v := ?_) (by rfl) ?_ ?_
           rotate_left
           · (intro W hS; obtain ⟨_, _, _⟩ := hS; go_simp; with_reducible rfl)
           simp only [Act.put, List.setIfInBounds_toArray, List.set_cons_zero, List.set_cons_succ])
        | (refine Settle.Settles.call (v := ?_) (f := ?_) (args := ?_) (by rfl) ?_ ?_ ?_
           rotate_left 3
           · (intro W; go_simp; refine ⟨?_, ?_⟩ <;> with_reducible rfl)
           · (intro W hS; first | (go_at_call 46; (with_reducible refine (QE.out _ hS.2.2).mono ?_); rintro e W1 ⟨rfl, hb⟩; refine ⟨?_, HO _ _ hS hb⟩; with_reducible rfl))
           simp only [Act.put, List.setIfInBounds_toArray, List.set_cons_zero, List.set_cons_succ]))
      refine Settle.Settles.nil ?_
      intro wr S0
      obtain ⟨_, _, _⟩ := id S0
      go_wp2_with fail
      have hx := HX.out _ S0.2.2
      clear HX
      first
        | exact ⟨⟨k + 1, by omega, by go_num, hx.1, hx.2.1, hx.2.2⟩, by simp [intOf]; omega⟩
        | (go_roundw <;> first | exact ⟨k + 1, by omega, by go_num, hx.1, hx.2.1, hx.2.2⟩ | (simp [intOf]; omega))
    · go_wp2_with fail
      go_ret
      exact ⟨rfl, hb⟩

/-- The marks. -/
def mk (k : Nat) (L : List (Int × Int)) : Nat → List (Int × Int)
  | 0 => L
  | i + 1 => (mk k L i).set i (((k + 2 * i : Nat) : Int), ((k + 2 * i + 1 : Nat) : Int))
theorem mk_len (k : Nat) (L : List (Int × Int)) : ∀ i, (mk k L i).length = L.length
  | 0 => rfl
  | i + 1 => by unfold mk; rw [List.length_set, mk_len k L i]
theorem mk_at (k : Nat) (L : List (Int × Int)) : ∀ (i j : Nat), j < i → i ≤ L.length → (mk k L i)[j]? = some (((k + 2 * j : Nat) : Int), ((k + 2 * j + 1 : Nat) : Int))
  | 0, j, h, _ => by omega
  | i + 1, j, h, h2 => by
    unfold mk
    by_cases e : j = i
    · subst e
      rw [List.getElem?_set_self (by rw [mk_len]; omega)]
    · rw [List.getElem?_set_ne (fun x => e x.symm)]
      exact mk_at k L i j (by omega) (by omega)
theorem marks_two (k : Nat) : marks k (2 * 1) = icells [((k : Nat) : Int), ((k + 1 : Nat) : Int)] := by
  simp [marks, icells, List.range_succ]

set_option maxRecDepth 100000 in
set_option maxHeartbeats 1600000 in
theorem markSS (w : World) (lo hi n k : Nat) (hn : n ≤ 20000) (hk : 0 < k) (hk2 : k ≤ 1000) (v : Value) (L : List (Int × Int)) (hl : L.length = n) (H : Nest w lo hi v L) (hh : hi ≤ w.heap.size) (hlo : lo ≤ w.heap.size) :
    Calls Try.prog 19 #[v, .int .i64 (k : Int)] w fun e w' => e = .returned (.int .i64 ((k + 2 * n : Nat) : Int)) ∧ Nest w' lo hi v (mk k L n) ∧ Below lo w w' := by
  obtain ⟨A1, c1, rfl⟩ := H.shape
  rw [hl] at H ⊢
  have H := Lib.hid H
  go_enter Try.func19, Try.ntmps19
  go_wp2_with fail
  go_loopw [1, 5] (fun kk i wr => ∃ j m : Nat, j ≤ n ∧ i = .int .i64 j ∧ kk = .int .i64 (m : Int) ∧ Hid (m = k + 2 * j) ∧ Hid (Nest wr lo hi (.slice A1 n c1) (mk k L j)) ∧ hi ≤ wr.heap.size ∧ Below lo w wr) (fun _ i _ => n - (intOf i).toNat)
  case atStart => exact ⟨0, k, Nat.zero_le _, rfl, rfl, Lib.hid (by omega), H, hh, Below.refl _ _⟩
  case round =>
    clear H
    obtain ⟨j, m, hj, rfl, rfl, hm, H, hz, hb⟩ := hrel
    have hml := mk_len k L j
    by_cases hlt : j < n
    · obtain ⟨g1, i1, rfl, hc1, hlo1, hhi1, r1, hgs⟩ := H.out.get' (by rw [hml]; exact hl) (j := j) (by rw [hml]; omega)
      have j0 : (0 : Int) ≤ (j : Int) := by omega
      have j1 : (j : Int) < (n : Int) := by omega
      have hm1 : 0 < m := by have := hm.out; omega
      have hm2 : m ≤ 100000 := by have := hm.out; omega
      have QM := Lib.hid (markI wr lo 2 m (by omega) hm1 hm2 _ _ r1)
      unfold sv at hc1 QM
      have HP := Lib.hid fun (x : World) hg hH => H.out.put (W' := x) (g := i1) (j := j) (by rw [hml]; omega) hgs hg ((m : Nat) : Int) ((m + 1 : Nat) : Int) hH
      clear r1 hgs
      go_wp2_with fail
      refine QM.out.mono ?_
      rintro e w2 ⟨rfl, ho, hg⟩
      rw [marks_two] at ho
      have hH : Holds w2 i1 #[.int .i64 ((m : Nat) : Int), .int .i64 ((m + 1 : Nat) : Int)] 3 := by
        rcases ho.2 with ⟨h', _⟩ | ⟨g', cap', cu, h', _, hgb, _, _, hs, ht⟩
        · cases h'
        · injection h' with h1 h2 h3
          injection h1 with h1
          injection h1 with h1
          subst h1; subst h3
          unfold Holds
          rw [hgb]
          have e2 : cu.toList = icells [((m : Nat) : Int), ((m + 1 : Nat) : Int)] := by rw [← ht, List.take_of_length_le (by simp [hs])]
          have e3 : cu = #[.int .i64 ((m : Nat) : Int), .int .i64 ((m + 1 : Nat) : Int)] := by
            apply Array.toList_inj.1
            rw [e2]; rfl
          rw [e3]
      have HN2 : Hid (Nest w2 lo hi (.slice (some ⟨g1, 0, none⟩) n c1) (mk k L (j + 1))) := Lib.hid (by
        have := HP.out w2 hg hH
        unfold mk
        rw [show k + 2 * j = m from hm.out.symm]
        exact this)
      have hb2 : Below lo wr w2 := (Below.refl _ _).grown hg (Nat.le_trans hlo hb.size) (fun g e => by
        have e4 : i1 = g := by simpa [Value.ownBlock] using e
        omega)
      have hb3 := hb.trans hb2
      have hz2 := Nat.le_trans hz hb2.size
      have hm3 : Hid (m + 2 = k + 2 * (j + 1)) := Lib.hid (by have := hm.out; omega)
      clear hb2 HP QM H hg ho hH hb hm hml
      go_wp2_with fail
      first
        | exact ⟨⟨j + 1, m + 2, by omega, by go_num, by go_num, hm3, HN2, hz2, hb3⟩, by simp [intOf]; omega⟩
        | (go_roundw <;> first | exact ⟨j + 1, m + 2, by omega, by go_num, by go_num, hm3, HN2, hz2, hb3⟩ | (simp [intOf]; omega))
    · obtain rfl : j = n := by omega
      have HM : Hid ((k + 2 * j : Nat) = m) := Lib.hid hm.out.symm
      clear hm hml
      go_wp2_with fail
      go_ret
      exact ⟨ret_i64 (by rw [HM.out]), H.out, hb⟩

set_option maxRecDepth 100000 in
set_option maxHeartbeats 1600000 in
theorem heldSS (w : World) (lo hi n k : Nat) (hn : n ≤ 20000) (hk : 0 < k) (hk2 : k ≤ 1000) (v : Value) (L : List (Int × Int)) (hl : L.length = n) (H : Nest w lo hi v (mk k L n)) (hh : hi ≤ w.heap.size) :
    Calls Try.prog 20 #[v, .int .i64 (k : Int)] w fun e w' => e = .returned (.int .i64 ((k + 2 * n : Nat) : Int)) ∧ Below w.heap.size w w' := by
  have hml := mk_len k L n
  obtain ⟨A1, c1, rfl⟩ := H.shape
  rw [hml, hl] at H ⊢
  have H := Lib.hid H
  go_enter Try.func20, Try.ntmps20
  go_wp2_with fail
  go_loopw [1, 5] (fun kk i wr => ∃ j m : Nat, j ≤ n ∧ i = .int .i64 j ∧ kk = .int .i64 (m : Int) ∧ Hid (m = k + 2 * j) ∧ Hid (Nest wr lo hi (.slice A1 n c1) (mk k L n)) ∧ Below w.heap.size w wr) (fun _ i _ => n - (intOf i).toNat)
  case atStart => exact ⟨0, k, Nat.zero_le _, rfl, rfl, Lib.hid (by omega), H, Below.refl _ _⟩
  case round =>
    clear H
    obtain ⟨j, m, hj, rfl, rfl, hm, H, hb⟩ := hrel
    by_cases hlt : j < n
    · obtain ⟨g1, i1, rfl, hc1, hlo1, hhi1, r1⟩ := H.out.get (by rw [hml]; exact hl) (j := j) (by rw [hml]; omega)
      have ea := mk_at k L n j hlt (by omega)
      rw [List.getElem?_eq_getElem (by rw [hml]; omega)] at ea
      injection ea with ea
      rw [ea, ← hm.out] at r1
      have j0 : (0 : Int) ≤ (j : Int) := by omega
      have j1 : (j : Int) < (n : Int) := by omega
      have hm1 : 0 < m := by have := hm.out; omega
      have hm2 : m ≤ 100000 := by have := hm.out; omega
      have QM := Lib.hid (heldI wr lo 2 m (by omega) hm1 hm2 _ (by rw [marks_two]; exact r1))
      unfold sv at hc1 QM
      clear r1 ea
      go_wp2_with fail
      refine QM.out.mono ?_
      rintro e w2 ⟨rfl, hb2⟩
      have HN2 := Lib.hid (H.out.below (Nat.le_trans hh hb.size) hb2)
      have hb3 := hb.trans (hb2.mono hb.size)
      have hm3 : Hid (m + 2 = k + 2 * (j + 1)) := Lib.hid (by have := hm.out; omega)
      have g0 : ¬ ((m + 2 * 1 : Nat) : Int) < 0 := by omega
      have g1_ : ¬ ((m : Int) + 2 < 0) := by omega
      clear hb2 QM H hb hm
      go_wp2_with fail
      first
        | exact ⟨⟨j + 1, m + 2, by omega, by go_num, by go_num, hm3, HN2, hb3⟩, by simp [intOf]; omega⟩
        | (go_roundw <;> first | exact ⟨j + 1, m + 2, by omega, by go_num, by go_num, hm3, HN2, hb3⟩ | (simp [intOf]; omega))
    · obtain rfl : j = n := by omega
      have HM : Hid ((k + 2 * j : Nat) = m) := Lib.hid hm.out.symm
      clear hm
      go_wp2_with fail
      go_ret
      exact ⟨ret_i64 (by rw [HM.out]), hb⟩

/-- Such a row, whole in the world. -/
def NestIn (W : World) (lo hi : Nat) (v : Value) (L : List (Int × Int)) : Prop := Nest W lo hi v L ∧ hi ≤ W.heap.size
theorem NestIn.later {W W' : World} {lo hi : Nat} {v : Value} {L : List (Int × Int)} (h : NestIn W lo hi v L) (hb : Below W.heap.size W W') : NestIn W' lo hi v L := ⟨h.1.below h.2 hb, Nat.le_trans h.2 hb.size⟩
theorem NestIn.keptLow {W W' : World} {lo hi g : Nat} {v : Value} {L : List (Int × Int)} (h : NestIn W lo hi v L) (hg : W.grownBy W' (some g)) (hl : hi ≤ g) : NestIn W' lo hi v L :=
  ⟨h.1.keep (Nat.le_refl _) (fun k hk => hg.block k (Nat.lt_of_lt_of_le hk h.2) (fun e => by injection e with e; omega)), Nat.le_trans h.2 hg.size⟩
theorem NestIn.keptHigh {W W' : World} {lo hi g : Nat} {v : Value} {L : List (Int × Int)} (h : NestIn W lo hi v L) (hg : W.grownBy W' (some g)) (hl : g < lo) : NestIn W' lo hi v L := by
  obtain ⟨⟨gs, ⟨h1, h2, h3⟩, h4, h5⟩, h6⟩ := h
  refine ⟨⟨gs, ⟨h1, h2, fun j ha hb => ?_⟩, ?_, h5⟩, Nat.le_trans h6 hg.size⟩
  · obtain ⟨x, y, z⟩ := h3 j ha hb
    exact ⟨x, y, (hg.block _ z.lt (fun e => by injection e with e; omega)).trans z⟩
  · exact kept_ne h4 hg (fun k hk => by have := (h4.lt k hk).1; omega)
end Go.Proofs.Ytmmmnnncbpdinaa.NestLaw


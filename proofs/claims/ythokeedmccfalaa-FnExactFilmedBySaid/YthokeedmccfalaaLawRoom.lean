/-
  The law's own copies of points: slices and rooms, as contracts.
-/
import Derived.Test.YthokeedmccfalaaGround
import Derived.OwnWalk
namespace Go.Proofs.Ythokeedmccfalaa.LawRoom
open Go.RowKit PointOk Blk Pts

theorem infoP : (Try.prog.info? 49).map (fun i => (i.zero, i.size, i.bytes)) = some (some (.agg #[.int .i64 0, .int .i64 0]), 2, 16) := by kernel_rfl

theorem zeros (n : Nat) : (madeCells #[.int .i64 0, .int .i64 0] (n * 2)).toList = cellsP (List.replicate n (0, 0)) := by
  apply List.ext_getElem
  · simp [madeCells, cellsP_zeros]
  · intro i h1 h2
    have e : i % 2 = 0 ∨ i % 2 = 1 := by omega
    simp only [cellsP_zeros]
    rcases e with e | e <;> simp [madeCells, e]

set_option maxHeartbeats 800000 in
theorem toPointS (A : Option Addr) (ps : List (Int × Int)) (n cap : Nat) (w : World) (hl : ps.length = n) (hn : n ≤ 1048576) (hp : PtsAt w w.heap.size A ps) :
    Calls Try.prog 70 #[.slice A n cap] w fun e w' => ∃ g, e = .returned (.slice (some ⟨g, 0, none⟩) n n) ∧ Row w' g 49 ps ∧ w.heap.size ≤ g ∧ g < w'.heap.size ∧ Below w.heap.size w w' := by
  obtain ⟨i0, hi, hz0, hz1, hz2⟩ := info_parts infoP
  go_enter Try.func70, Try.ntmps70
  go_wp2_with (at_make; go_must (refine wpList_make_full _ rfl _ _ 35 rfl w.heap.size 49 i0 (.agg #[.int .i64 0, .int .i64 0]) 2 Try.underlying35 hi hz0 hz1 _ _ _ _ n rfl rfl (by omega) (by omega) ?b2 ?b3 (Nat.le_refl _) ?_))
  case b2 => rw [hz2]; omega
  case b3 => unfold maxLen; omega
  intro w0 hown0 hgr0
  have hb0 : Below w.heap.size w w0 := Below.grown (Below.refl _ _) hgr0 (Nat.le_refl _) (fun g' hg' => by cases hg')
  rw [zeros n] at hown0
  obtain ⟨R0, _, hlt0⟩ := Row.of_owns hown0
  replace hp := hp.later hb0
  clear hown0 hgr0
  go_wp2_with fail
  obtain ⟨g, hg⟩ : ∃ g, w.heap.size = g := ⟨_, rfl⟩
  rw [hg] at hp hb0 R0 hlt0 ⊢
  go_loopw [4] (fun i wr => ∃ (k : Nat) (qs : List (Int × Int)), k ≤ n ∧ i = .int .i64 k ∧ qs.length = n ∧ Hid (∀ j, j < k → qs[j]? = ps[j]?) ∧ Row wr g 49 qs ∧ PtsAt wr g A ps ∧ g < wr.heap.size ∧ Below g w wr)
    (fun i _ => n - (intOf i).toNat)
  case atStart => exact ⟨0, List.replicate n (0, 0), Nat.zero_le _, rfl, by simp, Lib.hid (fun j hj => absurd hj (by omega)), R0, hp, hlt0, hb0⟩
  case round =>
    clear R0 hp hb0 hlt0
    obtain ⟨k, qs, hk, rfl, hq, hsame, R, hp, hlt, hb⟩ := hrel
    by_cases hkn : k < n
    · obtain ⟨ad, rfl, hbl, c0, c1⟩ := hp k (by omega)
      have hk1 : (k : Int) < (n : Int) := by omega
      obtain ⟨p, hpk⟩ : ∃ p, ps[k]'(by omega) = p := ⟨_, rfl⟩
      have HP : Hid (ps[k]? = some p) := Lib.hid (by rw [List.getElem?_eq_getElem (by omega), hpk])
      rw [hpk] at c0 c1
      have HQ := Lib.hid hq
      have HL := Lib.hid hl
      clear hq hl hpk
      go_wp2_with fail
      refine (LawPoint.toPoint p.1 p.2 _).mono ?_
      rintro e w1 ⟨rfl, hb1⟩
      replace R := R.below hb1 hlt
      replace hp := hp.later (hb1.mono (Nat.le_of_lt hlt))
      replace hb := hb.trans (hb1.mono (Nat.le_of_lt hlt))
      replace hlt := Nat.lt_of_lt_of_le hlt hb1.size
      clear hb1
      obtain ⟨⟨d0, d1⟩, f0, f1⟩ := R.facts k (by rw [HQ.out]; exact hkn)
      have R2 := Lib.hid (R.set k p.1 p.2)
      have hb2 := Lib.hid ((hb.setCell (p := ⟨g, k * 2, none⟩) (Nat.le_refl _) (.int .i64 p.1)).setCell (p := ⟨g, k * 2 + 1, none⟩) (Nat.le_refl _) (.int .i64 p.2))
      clear R hb
      go_wp2_with fail
      refine ⟨⟨k + 1, qs.set k p, by omega, by go_num, by rw [List.length_set]; exact HQ.out, Lib.hid ?_, R2.out, hp.later (((Below.refl g w1).setCell (p := ⟨g, k * 2, none⟩) (Nat.le_refl _) (.int .i64 p.1)).setCell (p := ⟨g, k * 2 + 1, none⟩) (Nat.le_refl _) (.int .i64 p.2)), by simpa [World.setCell] using hlt, hb2.out⟩, by simp [intOf]; omega⟩
      intro j hj
      rcases Nat.lt_or_ge j k with h | h
      · rw [List.getElem?_set_ne (by omega)]; exact hsame.out j h
      · obtain rfl : j = k := by omega
        rw [HP.out, List.getElem?_set_self (by rw [HQ.out]; exact hkn)]
    · obtain rfl : k = n := by omega
      obtain rfl : qs = ps := by
        apply List.ext_getElem?
        intro j
        rcases Nat.lt_or_ge j k with h | h
        · exact hsame.out j h
        · rw [List.getElem?_eq_none (by omega), List.getElem?_eq_none (by omega)]
      have HL := Lib.hid hl
      clear hl hq hp
      go_wp2_with fail
      go_ret
      exact ⟨g, rfl, R, Nat.le_refl _, hlt, hb⟩

set_option maxHeartbeats 400000 in
theorem toRoom (A : Option Addr) (ps : List (Int × Int)) (n cap : Nat) (w : World) (hl : ps.length = n) (hn : n ≤ 1048576) (hp : PtsAt w w.heap.size A ps) :
    Calls Try.prog 19 #[.agg #[.slice A n cap]] w fun e w' => ∃ g, e = .returned (.agg #[.slice (some ⟨g, 0, none⟩) n n]) ∧ Row w' g 49 ps ∧ w.heap.size ≤ g ∧ g < w'.heap.size ∧ Below w.heap.size w w' := by
  have hb := below3 w (Obj.cells #[.slice A n cap] 33) (Obj.cells #[.slice none 0 0] 37) (Obj.cells #[.slice none 0 0] 37)
  have B0 : Holds (((w.alloc (Obj.cells #[.slice A n cap] 33)).alloc (Obj.cells #[.slice none 0 0] 37)).alloc (Obj.cells #[.slice none 0 0] 37)) w.heap.size #[.slice A n cap] 33 := ((Holds.new w _ _).below (below1 _ _) (by simp)).below (below1 _ _) (by simp; omega)
  have B1 : Holds (((w.alloc (Obj.cells #[.slice A n cap] 33)).alloc (Obj.cells #[.slice none 0 0] 37)).alloc (Obj.cells #[.slice none 0 0] 37)) (w.heap.size + 1) #[.slice none 0 0] 37 := by
    have := (Holds.new (w.alloc (Obj.cells #[.slice A n cap] 33)) #[.slice none 0 0] 37).below (below1 _ (Obj.cells #[.slice none 0 0] 37)) (by simp)
    simpa using this
  have B2 : Holds (((w.alloc (Obj.cells #[.slice A n cap] 33)).alloc (Obj.cells #[.slice none 0 0] 37)).alloc (Obj.cells #[.slice none 0 0] 37)) (w.heap.size + 1 + 1) #[.slice none 0 0] 37 := by
    have := Holds.new ((w.alloc (Obj.cells #[.slice A n cap] 33)).alloc (Obj.cells #[.slice none 0 0] 37)) #[.slice none 0 0] 37
    simpa using this
  have hz : (((w.alloc (Obj.cells #[.slice A n cap] 33)).alloc (Obj.cells #[.slice none 0 0] 37)).alloc (Obj.cells #[.slice none 0 0] 37)).heap.size = w.heap.size + 3 := by simp
  have HP := Lib.hid ((hp.later hb).wide (show w.heap.size ≤ (((w.alloc (Obj.cells #[.slice A n cap] 33)).alloc (Obj.cells #[.slice none 0 0] 37)).alloc (Obj.cells #[.slice none 0 0] 37)).heap.size by omega))
  clear hp
  obtain ⟨a0, _⟩ := B0.one
  go_enter Try.func19, Try.ntmps19
  go_wp2_with fail
  generalize (((w.alloc (Obj.cells #[.slice A n cap] 33)).alloc (Obj.cells #[.slice none 0 0] 37)).alloc (Obj.cells #[.slice none 0 0] 37)) = W0 at *
  refine (toPointS A ps n cap _ hl hn HP.out).mono ?_
  rintro e w1 ⟨g, rfl, R, hg1, hg2, h1⟩
  replace B1 := B1.below h1 (by omega)
  replace B2 := B2.below h1 (by omega)
  replace hb := hb.trans (h1.mono hb.size)
  clear h1 HP a0
  obtain ⟨c0, f0⟩ := B2.one
  have C2 : Holds (w1.setCell ⟨w.heap.size + 1 + 1, 0, none⟩ (.slice (some ⟨g, 0, none⟩) n n)) (w.heap.size + 1 + 1) #[.slice (some ⟨g, 0, none⟩) n n] 37 := set_own B2 0 _
  have C1 := B1.far ⟨w.heap.size + 1 + 1, 0, none⟩ (.slice (some ⟨g, 0, none⟩) n n) (show ¬ w.heap.size + 1 = w.heap.size + 1 + 1 by omega)
  have RR := R.far ⟨w.heap.size + 1 + 1, 0, none⟩ (.slice (some ⟨g, 0, none⟩) n n) (show ¬ g = w.heap.size + 1 + 1 by omega)
  obtain ⟨d0, _⟩ := C2.one
  obtain ⟨d1, f1⟩ := C1.one
  replace hb := hb.setCell (p := ⟨w.heap.size + 1 + 1, 0, none⟩) (show w.heap.size ≤ w.heap.size + 1 + 1 by omega) (.slice (some ⟨g, 0, none⟩) n n)
  go_wp2_with fail
  have E1 : Holds _ (w.heap.size + 1) #[.slice (some ⟨g, 0, none⟩) n n] 37 := set_own C1 0 (.slice (some ⟨g, 0, none⟩) n n)
  obtain ⟨r0, _⟩ := E1.one
  refine bodyPost_ret (v := .agg #[.slice (some ⟨g, 0, none⟩) n n]) (by simp [results, Try.results19, go_sem, r0]) rfl ⟨g, rfl, RR.far ⟨w.heap.size + 1, 0, none⟩ _ (show ¬ g = w.heap.size + 1 by omega), by omega, by simpa [World.setCell] using hg2, ?_⟩
  exact hb.setCell (p := ⟨w.heap.size + 1, 0, none⟩) (show w.heap.size ≤ w.heap.size + 1 by omega) (.slice (some ⟨g, 0, none⟩) n n)

theorem szPointSL (A : Option Addr) (n cap : Nat) (L : Int) (hn : n ≤ 9223372036854775807) (hL : 0 ≤ L ∧ L ≤ 1048576) (w : World) :
    Calls Try.prog 66 #[.slice A n cap, .int .i64 L] w fun e w' => e = .returned (.int .i64 (if (n : Int) ≤ L then L - (n : Int) else -1)) ∧ w = w' := by
  have u1 : IntKind.i64.wrap (L - (n : Int)) = L - (n : Int) := IntWalk.i64_in _ (by omega)
  by_cases h : (n : Int) ≤ L
  · simp only [h, if_true]
    have h2 : ¬ (L - (n : Int) < 0) := by omega
    go_enter Try.func66, Try.ntmps66
    go_wp2_with fail
    go_ret
    exact ⟨rfl, rfl⟩
  · simp only [h, if_false]
    have h2 : (L - (n : Int) < 0) := by omega
    go_enter Try.func66, Try.ntmps66
    go_wp2_with fail
    go_ret
    exact ⟨rfl, rfl⟩
theorem szPointS (A : Option Addr) (n cap : Nat) (hn : n ≤ 9223372036854775807) (w : World) :
    Calls Try.prog 66 #[.slice A n cap, .int .i64 1048576] w fun e w' => e = .returned (.int .i64 (if (n : Int) ≤ 1048576 then 1048576 - (n : Int) else -1)) ∧ w = w' := szPointSL A n cap 1048576 hn (by omega) w

theorem szRoomL (A : Option Addr) (n cap : Nat) (L : Int) (hn : n ≤ 9223372036854775807) (hL : 0 ≤ L ∧ L ≤ 1048576) (w : World) :
    Calls Try.prog 17 #[.agg #[.slice A n cap], .int .i64 L] w fun e w' => e = .returned (.int .i64 (if (n : Int) ≤ L then L - (n : Int) else -1)) ∧ Below w.heap.size w w' := by
  have HS := Lib.hid fun w => szPointSL A n cap L hn hL w
  clear hn
  by_cases h : (n : Int) ≤ L
  · simp only [h, if_true] at HS ⊢
    have h2 : ¬ (L - (n : Int) < 0) := by omega
    go_enter Try.func17, Try.ntmps17
    go_wp2_with fail
    refine (HS.out _).mono ?_
    rintro e w' ⟨rfl, rfl⟩
    go_wp2_with fail
    go_ret
    exact ⟨rfl, below1 _ _⟩
  · simp only [h, if_false] at HS ⊢
    go_enter Try.func17, Try.ntmps17
    go_wp2_with fail
    refine (HS.out _).mono ?_
    rintro e w' ⟨rfl, rfl⟩
    go_wp2_with fail
    go_ret
    exact ⟨rfl, below1 _ _⟩
theorem szRoom (A : Option Addr) (n cap : Nat) (hn : n ≤ 9223372036854775807) (w : World) :
    Calls Try.prog 17 #[.agg #[.slice A n cap], .int .i64 1048576] w fun e w' => e = .returned (.int .i64 (if (n : Int) ≤ 1048576 then 1048576 - (n : Int) else -1)) ∧ Below w.heap.size w w' := szRoomL A n cap 1048576 hn (by omega) w

theorem eqPoint_same (x y : Int) (w : World) :
    Calls Try.prog 85 #[.agg #[.int .i64 x, .int .i64 y], .agg #[.int .i64 x, .int .i64 y]] w fun e w' => e = .returned (.bool true) ∧ Below w.heap.size w w' := by
  go_enter Try.func85, Try.ntmps85
  go_wp2_with fail
  go_ret
  exact ⟨rfl, below2 _ _ _⟩

theorem eqPointS_same (A B : Option Addr) (ps : List (Int × Int)) (n ca cb : Nat) (w : World) (hl : ps.length = n) (hn : n ≤ 1048576) (hA : PtsAt w w.heap.size A ps) (hB : PtsAt w w.heap.size B ps) :
    Calls Try.prog 27 #[.slice A n ca, .slice B n cb] w fun e w' => e = .returned (.bool true) ∧ Below w.heap.size w w' := by
  go_enter Try.func27, Try.ntmps27
  go_wp2_with fail
  go_loopw [5] (fun i wr => ∃ k : Nat, k ≤ n ∧ i = .int .i64 k ∧ PtsAt wr w.heap.size A ps ∧ PtsAt wr w.heap.size B ps ∧ Below w.heap.size w wr)
    (fun i _ => n - (intOf i).toNat)
  case atStart => exact ⟨0, Nat.zero_le _, rfl, hA, hB, Below.refl _ _⟩
  case round =>
    clear hA hB
    obtain ⟨k, hk, rfl, hA, hB, hb⟩ := hrel
    by_cases hkn : k < n
    · obtain ⟨p, hpk⟩ : ∃ p, ps[k]'(by omega) = p := ⟨_, rfl⟩
      obtain ⟨ad, eA, bA, pA⟩ := hA.at_ k (by omega)
      obtain ⟨ae, eB, bB, pB⟩ := hB.at_ k (by omega)
      rw [hpk] at pA pB
      subst eA eB
      have hk1 : (k : Int) < (n : Int) := by omega
      have HL := Lib.hid hl
      clear hl hpk
      have HO : ∀ W W' : World, (PtsAt W w.heap.size (some ad) ps ∧ PtsAt W w.heap.size (some ae) ps ∧ PtAt W ad k p.1 p.2 ∧ PtAt W ae k p.1 p.2 ∧ Below w.heap.size w W) → Below W.heap.size W W' → (PtsAt W' w.heap.size (some ad) ps ∧ PtsAt W' w.heap.size (some ae) ps ∧ PtAt W' ad k p.1 p.2 ∧ PtAt W' ae k p.1 p.2 ∧ Below w.heap.size w W') := fun W W' ⟨x0, x1, x2, x3, hb⟩ h => ⟨x0.later (h.mono hb.size), x1.later (h.mono hb.size), x2.later bA (h.mono hb.size), x3.later bB (h.mono hb.size), hb.trans (h.mono hb.size)⟩
      have S0 := And.intro hA (And.intro hB (And.intro pA (And.intro pB hb)))
      clear hA hB pA pB hb
      go_wp2_with fail
      refine Settle.region (fun W => PtsAt W w.heap.size (some ad) ps ∧ PtsAt W w.heap.size (some ae) ps ∧ PtAt W ad k p.1 p.2 ∧ PtAt W ae k p.1 p.2 ∧ Below w.heap.size w W) (by kernel_rfl) (by kernel_rfl) (by kernel_rfl) (by kernel_rfl) (HO _ _ S0 ((Below.refl _ _).drew)) ?_
      clear S0
      repeat (first
        | (refine Settle.Settles.off (by rfl) ?_; simp only [Act.put, List.setIfInBounds_toArray, List.set_cons_zero, List.set_cons_succ])
        | (refine Settle.Settles.quiet (v := ?_) (by rfl) ?_ ?_
           rotate_left
           · (intro W hS; obtain ⟨_, _, ⟨_, _⟩, ⟨_, _⟩, _⟩ := hS; go_simp; with_reducible rfl)
           simp only [Act.put, List.setIfInBounds_toArray, List.set_cons_zero, List.set_cons_succ])
        | (refine Settle.Settles.call (v := ?_) (f := ?_) (args := ?_) (by rfl) ?_ ?_ ?_
           rotate_left 3
           · (intro W; go_simp; refine ⟨?_, ?_⟩ <;> with_reducible rfl)
           · (intro W hS; first | (go_at_call 85; (with_reducible refine (eqPoint_same _ _ _).mono ?_); rintro e W1 ⟨rfl, hb⟩; refine ⟨?_, HO _ _ hS hb⟩; with_reducible rfl))
           simp only [Act.put, List.setIfInBounds_toArray, List.set_cons_zero, List.set_cons_succ]))
      refine Settle.Settles.nil ?_
      intro wr S0
      obtain ⟨_, _, ⟨_, _⟩, ⟨_, _⟩, _⟩ := id S0
      go_wp2_with fail
      exact ⟨⟨k + 1, by omega, by go_num, S0.1, S0.2.1, S0.2.2.2.2⟩, by simp [intOf]; omega⟩
    · obtain rfl : k = n := by omega
      clear hA hB
      go_wp2_with fail
      go_ret
      exact ⟨rfl, hb⟩

theorem eqRoom_same (A B : Option Addr) (ps : List (Int × Int)) (n ca cb : Nat) (w : World) (hl : ps.length = n) (hn : n ≤ 1048576) (hA : PtsAt w w.heap.size A ps) (hB : PtsAt w w.heap.size B ps) :
    Calls Try.prog 21 #[.agg #[.slice A n ca], .agg #[.slice B n cb]] w fun e w' => e = .returned (.bool true) ∧ Below w.heap.size w w' := by
  go_enter Try.func21, Try.ntmps21
  go_wp2_with fail
  have X0 := (Pts.boxR w (.slice A n ca) 37 (k := w.heap.size) (by simp)).alloc (Obj.cells #[.slice B n cb] 37)
  have X1 := Pts.boxR (w.alloc (Obj.cells #[.slice A n ca] 37)) (.slice B n cb) 37 (k := w.heap.size + 1) (by simp)
  have b0 := PointOk.below2 w (Obj.cells #[.slice A n ca] 37) (Obj.cells #[.slice B n cb] 37)
  have HO : ∀ W W' : World, (Pts.BoxR W (w.heap.size) (.slice A n ca) ∧ Pts.BoxR W (w.heap.size + 1) (.slice B n cb) ∧ PtsAt W w.heap.size A ps ∧ PtsAt W w.heap.size B ps ∧ Below w.heap.size w W) → Below W.heap.size W W' → (Pts.BoxR W' (w.heap.size) (.slice A n ca) ∧ Pts.BoxR W' (w.heap.size + 1) (.slice B n cb) ∧ PtsAt W' w.heap.size A ps ∧ PtsAt W' w.heap.size B ps ∧ Below w.heap.size w W') := fun W W' ⟨h0, h1, x0, x1, hb⟩ h => ⟨h0.later h, h1.later h, x0.later (h.mono hb.size), x1.later (h.mono hb.size), hb.trans (h.mono hb.size)⟩
  have hz0_ : Hid ((((w.alloc (Obj.cells #[.slice A n ca] 37)).alloc (Obj.cells #[.slice B n cb] 37))).heap.size = w.heap.size + 1 + 1) := Lib.hid (by simp)
  have Y0 : PtsAt (((w.alloc (Obj.cells #[.slice A n ca] 37)).alloc (Obj.cells #[.slice B n cb] 37))) w.heap.size A ps := hA.later b0
  have Y1 : PtsAt (((w.alloc (Obj.cells #[.slice A n ca] 37)).alloc (Obj.cells #[.slice B n cb] 37))) w.heap.size B ps := hB.later b0
  generalize ((w.alloc (Obj.cells #[.slice A n ca] 37)).alloc (Obj.cells #[.slice B n cb] 37)) = w0 at X0 X1 Y0 Y1 b0 hz0_ ⊢
  have S0 := (⟨X0, X1, Y0, Y1, b0⟩ : Pts.BoxR w0 (w.heap.size) (.slice A n ca) ∧ Pts.BoxR w0 (w.heap.size + 1) (.slice B n cb) ∧ PtsAt w0 w.heap.size A ps ∧ PtsAt w0 w.heap.size B ps ∧ Below w.heap.size w w0)
  clear X0 X1 Y0 Y1 b0
  obtain ⟨⟨_, _⟩, ⟨_, _⟩, _, _, _⟩ := id S0
  refine (eqPointS_same A B ps n ca cb _ hl hn (S0.2.2.1.wide S0.2.2.2.2.size) (S0.2.2.2.1.wide S0.2.2.2.2.size)).mono ?_
  rintro e w1 ⟨rfl, hb_⟩
  replace S0 := HO _ _ S0 hb_
  clear hb_
  obtain ⟨⟨_, _⟩, ⟨_, _⟩, _, _, _⟩ := id S0
  go_wp2_with fail
  go_ret
  exact ⟨rfl, S0.2.2.2.2⟩


end Go.Proofs.Ythokeedmccfalaa.LawRoom


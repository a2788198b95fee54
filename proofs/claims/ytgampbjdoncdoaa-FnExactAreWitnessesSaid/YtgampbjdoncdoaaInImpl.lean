/-
  What the landed code asks of lists of points in a room, as contracts: what each answers; no old cell is written.
-/
import Derived.Test.YtgampbjdoncdoaaFromImpl
import Derived.Test.YtgampbjdoncdoaaFiltImpl
import Derived.Test.YtgampbjdoncdoaaFacts
namespace Go.Proofs.Ytgampbjdoncdoaa.InImpl
open Go.RowKit Own PointMath WallMath RoomMath Pts Blk AreaMath PlaceMath FloorMath LineMath CutsMath SightMath KernMath FromImpl
open PointOk (ret_bool ret_i64 below1 below2 below3)

theorem first_any (n : Nat) (f : Nat → Bool) : decide (0 ≤ firstI n f) = (List.range n).any f := by
  cases h : (List.range n).any f
  · rw [firstI_none (fun k hk => by
      have := List.any_eq_false.1 h k (List.mem_range.2 hk)
      simpa using this)]
    rfl
  · obtain ⟨k, hk, hf⟩ := List.any_eq_true.1 h
    unfold firstI
    cases hf2 : (List.range n).find? f with
    | some j => simp
    | none =>
      have := List.find?_eq_none.1 hf2 k hk
      rw [hf] at this
      exact absurd rfl this
theorem pt_pre {qs : List (Int × Int)} {k j : Nat} (h : j < k) : pt (qs.take k) j = pt qs j := by
  unfold pt
  rw [List.getD_eq_getElem?_getD, List.getD_eq_getElem?_getD, List.getElem?_take, if_pos h]

/-- The first points of a slice. -/
theorem pts_take {w : World} {b k : Nat} {A : Option Addr} {qs : List (Int × Int)} (h : PtsAt w b A qs) : PtsAt w b A (qs.take k) := by
  intro j hj
  have h1 : j < k ∧ j < qs.length := by rw [List.length_take] at hj; omega
  have h2 := h j h1.2
  have e : (qs.take k)[j]'hj = qs[j]'h1.2 := List.getElem_take
  rw [e]
  exact h2

set_option maxRecDepth 100000 in
set_option maxHeartbeats 1600000 in
theorem indexFunc (F : FuncId) (cs : Array Value) (f : Nat → Bool) (B : Option Addr) (m cb : Nat) (w : World) (qs : List (Int × Int)) (hl2 : qs.length = m) (hn2 : m ≤ 1048576) (hq : PtsAt w w.heap.size B qs) (eF : ∀ (args : Array Value) (w : World), (callFunc F args).run Try.prog w = .ok (.enter F args) w)
    (Q : ∀ (W : World) (k : Nat), k < m → Below w.heap.size w W → Calls Try.prog F (#[.agg #[.int .i64 (pt qs k).1, .int .i64 (pt qs k).2]] ++ cs) W fun e w' => e = .returned (.bool (f k)) ∧ Below W.heap.size W w') :
    Calls Try.prog 167 #[.slice B m cb, .func (.func F) #[] cs] w fun e w' => e = .returned (.int .i64 (firstI m f)) ∧ Below w.heap.size w w' := by
  obtain ⟨r, hr⟩ : ∃ r, firstI m f = r := ⟨_, rfl⟩
  have HR := Lib.hid hr
  rw [hr]
  clear hr
  have Q := Lib.hid Q
  go_enter Try.func167, Try.ntmps167
  go_wp2_with fail
  have HO : ∀ W W' : World, (PtsAt W w.heap.size B qs ∧ Below w.heap.size w W) → Below W.heap.size W W' → (PtsAt W' w.heap.size B qs ∧ Below w.heap.size w W') := fun W W' ⟨x0, hb⟩ h => ⟨x0.later (h.mono hb.size), hb.trans (h.mono hb.size)⟩
  have S0 : PtsAt w w.heap.size B qs ∧ Below w.heap.size w w := ⟨hq, Below.refl _ _⟩
  clear hq
  go_loopw [8] (fun q wr => ∃ k : Nat, k ≤ m ∧ q = .int .i64 k ∧ Hid (∀ j, j < k → f j = false) ∧ (PtsAt wr w.heap.size B qs ∧ Below w.heap.size w wr))
    (fun q _ => m - (intOf q).toNat)
  case atStart => exact ⟨0, Nat.zero_le _, rfl, Lib.hid (fun t ht => absurd ht (by omega)), S0⟩
  case round =>
    clear S0
    obtain ⟨k, hk, rfl, hno, S0⟩ := hrel
    obtain ⟨_, _⟩ := id S0
    by_cases hkm : k < m
    · have hk1 : (k : Int) < (m : Int) := by omega
      have hk0 : (0 : Int) ≤ (k : Int) := by omega
      have QK : Hid (∀ W hb, _) := Lib.hid fun W hb => Q.out W k hkm hb
      have p0 := pt_at (ps := qs) (k := k) (by omega)
      obtain ⟨x, y, hx⟩ : ∃ x y, pt qs k = (x, y) := ⟨_, _, rfl⟩
      rw [hx] at p0 QK
      obtain ⟨ad, eA, bA, pA⟩ := S0.1.get p0
      subst eA
      obtain ⟨_, _⟩ := id pA
      obtain ⟨o, ho⟩ : ∃ o, f k = o := ⟨_, rfl⟩
      rw [ho] at QK
      clear p0 hx pA Q
      go_wp2_with fail
      refine (QK.out _ S0.2).mono ?_
      rintro e w4 ⟨rfl, hb_⟩
      replace S0 := HO _ _ S0 hb_
      clear hb_ QK
      obtain ⟨_, _⟩ := id S0
      cases o
      · have hno2 : Hid (∀ j, j < k + 1 → f j = false) := Lib.hid (by
          intro j hj
          rcases Nat.lt_or_ge j k with h | h
          · exact hno.out j h
          · obtain rfl : j = k := by omega
            exact ho)
        clear hno ho HR
        go_wp2_with fail
        first
          | exact ⟨⟨k + 1, by omega, by go_num, hno2, S0⟩, by simp [intOf]; omega⟩
          | (go_roundw <;> first | exact ⟨k + 1, by omega, by go_num, hno2, S0⟩ | (simp [intOf]; omega))
      · have E : Hid (r = (k : Int)) := Lib.hid (by rw [← HR.out]; exact firstI_at hkm ho hno.out)
        clear hno ho HR
        go_wp2_with fail
        go_ret
        exact ⟨ret_i64 E.out.symm, S0.2⟩
    · obtain rfl : m = k := by omega
      have E : Hid (r = -1) := Lib.hid (by rw [← HR.out]; exact firstI_none hno.out)
      clear hno HR hl2
      go_wp2_with fail
      go_ret
      exact ⟨ret_i64 E.out.symm, S0.2⟩

set_option maxRecDepth 100000 in
theorem containsFunc (F : FuncId) (cs : Array Value) (f : Nat → Bool) (B : Option Addr) (m cb : Nat) (w : World) (qs : List (Int × Int)) (hl2 : qs.length = m) (hn2 : m ≤ 1048576) (hq : PtsAt w w.heap.size B qs) (eF : ∀ (args : Array Value) (w : World), (callFunc F args).run Try.prog w = .ok (.enter F args) w)
    (Q : ∀ (W : World) (k : Nat), k < m → Below w.heap.size w W → Calls Try.prog F (#[.agg #[.int .i64 (pt qs k).1, .int .i64 (pt qs k).2]] ++ cs) W fun e w' => e = .returned (.bool (f k)) ∧ Below W.heap.size W w') :
    Calls Try.prog 136 #[.slice B m cb, .func (.func F) #[] cs] w fun e w' => e = .returned (.bool ((List.range m).any f)) ∧ Below w.heap.size w w' := by
  have QI := Lib.hid (indexFunc F cs f B m cb w qs hl2 hn2 hq eF Q)
  rw [← first_any]
  generalize firstI m f = q at *
  clear Q eF hq hl2 hn2
  go_enter Try.func136, Try.ntmps136
  go_wp2_with fail
  refine QI.out.mono ?_
  rintro e w1 ⟨rfl, hb_⟩
  go_wp2_with fail
  go_ret
  exact ⟨ret_bool (by first | rfl | (rw [Bool.eq_iff_iff]; simp)), hb_⟩

set_option maxRecDepth 100000 in
set_option maxHeartbeats 1600000 in
theorem areIn (A : Option Addr) (n cap : Nat) (B : Option Addr) (m cb : Nat) (w : World) (ps : List (Int × Int)) (hl : ps.length = n) (hn : n ≤ 1048576) (hp : PtsAt w w.heap.size A ps) (qs : List (Int × Int)) (hl2 : qs.length = m) (hn2 : m ≤ 1048576) (hq : PtsAt w w.heap.size B qs) :
    Calls Try.prog 103 #[.agg #[.slice A n cap], .slice B m cb] w fun e w' => e = .returned (.bool (allIn ps qs)) ∧ Below w.heap.size w w' := by
  obtain ⟨r, hr⟩ : ∃ r, allIn ps qs = r := ⟨_, rfl⟩
  have HR := Lib.hid hr
  rw [hr]
  clear hr
  have HE : Hid (r = (roomB ps && decide (countTo ps qs m = (m : Int)))) := Lib.hid (by rw [← HR.out]; exact allIn_count hl2)
  have QC : Hid (∀ w hp hq, _) := Lib.hid fun w hp hq => PlaceImpl.countIn A n cap B m cb w ps hl hn hp qs hl2 hn2 hq
  rw [hl2] at QC
  clear HR
  go_enter Try.func103, Try.ntmps103
  go_wp2_with fail
  have X0 := Pts.boxR w (.slice A n cap) 63 (k := w.heap.size) (by simp)
  have b0 := PointOk.below1 w (Obj.cells #[.slice A n cap] 63)
  have HO : ∀ W W' : World, (Pts.BoxR W (w.heap.size) (.slice A n cap) ∧ PtsAt W w.heap.size A ps ∧ PtsAt W w.heap.size B qs ∧ Below w.heap.size w W) → Below W.heap.size W W' → (Pts.BoxR W' (w.heap.size) (.slice A n cap) ∧ PtsAt W' w.heap.size A ps ∧ PtsAt W' w.heap.size B qs ∧ Below w.heap.size w W') := fun W W' ⟨h0, x0, x1, hb⟩ h => ⟨h0.later h, x0.later (h.mono hb.size), x1.later (h.mono hb.size), hb.trans (h.mono hb.size)⟩
  have hz0_ : Hid (((w.alloc (Obj.cells #[.slice A n cap] 63))).heap.size = w.heap.size + 1) := Lib.hid (by simp)
  have Y0 : PtsAt ((w.alloc (Obj.cells #[.slice A n cap] 63))) w.heap.size A ps := hp.later b0
  have Y1 : PtsAt ((w.alloc (Obj.cells #[.slice A n cap] 63))) w.heap.size B qs := hq.later b0
  generalize (w.alloc (Obj.cells #[.slice A n cap] 63)) = w0 at X0 Y0 Y1 b0 hz0_ ⊢
  have S0 := (⟨X0, Y0, Y1, b0⟩ : Pts.BoxR w0 (w.heap.size) (.slice A n cap) ∧ PtsAt w0 w.heap.size A ps ∧ PtsAt w0 w.heap.size B qs ∧ Below w.heap.size w w0)
  clear X0 Y0 Y1 b0
  obtain ⟨⟨_, _⟩, _, _, _⟩ := id S0
  refine (RoomOkImpl.roomOk A n cap _ ps hl hn (S0.2.1.wide S0.2.2.2.size)).mono ?_
  rintro e w1 ⟨rfl, hb_⟩
  replace S0 := HO _ _ S0 hb_
  clear hb_
  obtain ⟨⟨_, _⟩, _, _, _⟩ := id S0
  cases hr : roomB ps
  · have E : Hid (r = false) := Lib.hid (by rw [HE.out, hr]; rfl)
    clear hl hl2 HE
    go_wp2_with fail
    go_ret
    exact ⟨ret_bool E.out.symm, S0.2.2.2⟩
  rw [hr] at HE
  generalize countTo ps qs m = c at *
  clear hl hl2 hr
  go_wp2_with fail
  refine (QC.out _ (S0.2.1.wide S0.2.2.2.size) (S0.2.2.1.wide S0.2.2.2.size)).mono ?_
  rintro e w2 ⟨rfl, hb_⟩
  replace S0 := HO _ _ S0 hb_
  clear hb_
  obtain ⟨⟨_, _⟩, _, _, _⟩ := id S0
  go_wp2_with fail
  go_ret
  exact ⟨ret_bool (by rw [HE.out, Bool.eq_iff_iff]; simp), S0.2.2.2⟩

set_option maxRecDepth 100000 in
set_option maxHeartbeats 4000000 in
theorem areHidden (A : Option Addr) (n cap : Nat) (B : Option Addr) (m cb : Nat) (w : World) (ps : List (Int × Int)) (hl : ps.length = n) (hn : n ≤ 1048576) (hp : PtsAt w w.heap.size A ps) (qs : List (Int × Int)) (hl2 : qs.length = m) (hn2 : m ≤ 1048576) (hq : PtsAt w w.heap.size B qs) (hc : m ≤ cb) :
    Calls Try.prog 98 #[.agg #[.slice A n cap], .slice B m cb] w fun e w' => e = .returned (.bool (hiddenB ps qs)) ∧ Below w.heap.size w w' := by
  obtain ⟨r, hr⟩ : ∃ r, hiddenB ps qs = r := ⟨_, rfl⟩
  have HR := Lib.hid hr
  rw [hr]
  clear hr
  have HE : Hid (r = (decide (m ≤ 10) && allIn ps qs && hidM ps qs)) := Lib.hid (by rw [← HR.out, ← hl2]; unfold hiddenB; cases allIn ps qs <;> simp)
  have QA : Hid (∀ w hp hq, _) := Lib.hid fun w hp hq => areIn A n cap B m cb w ps hl hn hp qs hl2 hn2 hq
  clear HR
  by_cases h10 : m ≤ 10
  rotate_left
  · have E : Hid (r = false) := Lib.hid (by rw [HE.out, decide_eq_false h10]; rfl)
    have g10 : (10 : Int) < (m : Int) := by omega
    clear hl hl2 HE
    go_enter Try.func98, Try.ntmps98
    go_wp2_with fail
    have X0 := Pts.boxR w (.slice A n cap) 63 (k := w.heap.size) (by simp)
    have b0 := PointOk.below1 w (Obj.cells #[.slice A n cap] 63)
    have HO : ∀ W W' : World, (Pts.BoxR W (w.heap.size) (.slice A n cap) ∧ PtsAt W w.heap.size A ps ∧ PtsAt W w.heap.size B qs ∧ Below w.heap.size w W) → Below W.heap.size W W' → (Pts.BoxR W' (w.heap.size) (.slice A n cap) ∧ PtsAt W' w.heap.size A ps ∧ PtsAt W' w.heap.size B qs ∧ Below w.heap.size w W') := fun W W' ⟨h0, x0, x1, hb⟩ h => ⟨h0.later h, x0.later (h.mono hb.size), x1.later (h.mono hb.size), hb.trans (h.mono hb.size)⟩
    have hz0_ : Hid (((w.alloc (Obj.cells #[.slice A n cap] 63))).heap.size = w.heap.size + 1) := Lib.hid (by simp)
    have Y0 : PtsAt ((w.alloc (Obj.cells #[.slice A n cap] 63))) w.heap.size A ps := hp.later b0
    have Y1 : PtsAt ((w.alloc (Obj.cells #[.slice A n cap] 63))) w.heap.size B qs := hq.later b0
    generalize (w.alloc (Obj.cells #[.slice A n cap] 63)) = w0 at X0 Y0 Y1 b0 hz0_ ⊢
    have S0 := (⟨X0, Y0, Y1, b0⟩ : Pts.BoxR w0 (w.heap.size) (.slice A n cap) ∧ PtsAt w0 w.heap.size A ps ∧ PtsAt w0 w.heap.size B qs ∧ Below w.heap.size w w0)
    clear X0 Y0 Y1 b0
    obtain ⟨⟨_, _⟩, _, _, _⟩ := id S0
    go_ret
    exact ⟨ret_bool E.out.symm, S0.2.2.2⟩
  have g10 : ¬ (10 : Int) < (m : Int) := by omega
  go_enter Try.func98, Try.ntmps98
  go_wp2_with fail
  have X0 := Pts.boxR w (.slice A n cap) 63 (k := w.heap.size) (by simp)
  have b0 := PointOk.below1 w (Obj.cells #[.slice A n cap] 63)
  have HO : ∀ W W' : World, (Pts.BoxR W (w.heap.size) (.slice A n cap) ∧ PtsAt W w.heap.size A ps ∧ PtsAt W w.heap.size B qs ∧ Below w.heap.size w W) → Below W.heap.size W W' → (Pts.BoxR W' (w.heap.size) (.slice A n cap) ∧ PtsAt W' w.heap.size A ps ∧ PtsAt W' w.heap.size B qs ∧ Below w.heap.size w W') := fun W W' ⟨h0, x0, x1, hb⟩ h => ⟨h0.later h, x0.later (h.mono hb.size), x1.later (h.mono hb.size), hb.trans (h.mono hb.size)⟩
  have hz0_ : Hid (((w.alloc (Obj.cells #[.slice A n cap] 63))).heap.size = w.heap.size + 1) := Lib.hid (by simp)
  have Y0 : PtsAt ((w.alloc (Obj.cells #[.slice A n cap] 63))) w.heap.size A ps := hp.later b0
  have Y1 : PtsAt ((w.alloc (Obj.cells #[.slice A n cap] 63))) w.heap.size B qs := hq.later b0
  generalize (w.alloc (Obj.cells #[.slice A n cap] 63)) = w0 at X0 Y0 Y1 b0 hz0_ ⊢
  have S0 := (⟨X0, Y0, Y1, b0⟩ : Pts.BoxR w0 (w.heap.size) (.slice A n cap) ∧ PtsAt w0 w.heap.size A ps ∧ PtsAt w0 w.heap.size B qs ∧ Below w.heap.size w w0)
  clear X0 Y0 Y1 b0
  obtain ⟨⟨_, _⟩, _, _, _⟩ := id S0
  refine (QA.out _ (S0.2.1.wide S0.2.2.2.size) (S0.2.2.1.wide S0.2.2.2.size)).mono ?_
  rintro e w1 ⟨rfl, hb_⟩
  replace S0 := HO _ _ S0 hb_
  clear hb_
  obtain ⟨⟨_, _⟩, _, _, _⟩ := id S0
  cases hi : allIn ps qs
  · have E : Hid (r = false) := Lib.hid (by rw [HE.out, hi]; simp)
    clear hl hl2 HE
    go_wp2_with fail
    go_ret
    exact ⟨ret_bool E.out.symm, S0.2.2.2⟩
  have hall := Lib.hid (allIn_at hi)
  replace HE : Hid (hidM ps qs = r) := Lib.hid (by rw [HE.out, hi, decide_eq_true h10]; rfl)
  have hy := roomB_yes hall.out.1
  have hok := Lib.hid hy.2.1
  have n10 : n ≤ 10 := by omega
  clear hi QA hy
  go_wp2_with fail
  go_loopw [18] (fun q wr => ∃ k : Nat, k ≤ m ∧ q = .int .i64 k ∧ Hid (∀ j, j < k → hidAt ps qs j = true) ∧ (Pts.BoxR wr (w.heap.size) (.slice A n cap) ∧ PtsAt wr w.heap.size A ps ∧ PtsAt wr w.heap.size B qs ∧ Below w.heap.size w wr))
    (fun q _ => m - (intOf q).toNat)
  case atStart => exact ⟨0, Nat.zero_le _, rfl, Lib.hid (fun t ht => absurd ht (by omega)), S0⟩
  case round =>
    clear S0
    obtain ⟨i, him, rfl, hno, S0⟩ := hrel
    obtain ⟨⟨_, _⟩, _, _, _⟩ := id S0
    by_cases hlt : i < m
    rotate_left
    · obtain rfl : m = i := by omega
      have E : Hid (r = true) := Lib.hid (by rw [← HE.out]; exact hidM_of (by rw [hl2]; exact hno.out))
      clear hl hl2 HE hno hall
      go_wp2_with fail
      go_ret
      exact ⟨ret_bool E.out.symm, S0.2.2.2⟩
    have hi1 : (i : Int) < (m : Int) := by omega
    have hi0 : (0 : Int) ≤ (i : Int) := by omega
    have hic : (i : Int) ≤ (cb : Int) := by omega
    have p0 := pt_at (ps := qs) (k := i) (by omega)
    have in0 := hall.out.2 i (by omega)
    have hany : Hid (hidAt ps qs i = !(List.range i).any fun k => seesM ps (pt qs i) (pt (qs.take i) k)) := Lib.hid (by
      unfold hidAt
      rw [Bool.eq_iff_iff]
      simp only [List.all_eq_true, List.mem_range, Bool.not_eq_true', List.any_eq_false, Bool.not_eq_true]
      constructor
      · intro h k hk; rw [pt_pre hk]; exact h k hk
      · intro h k hk; have := h k hk; rw [pt_pre hk] at this; exact this)
    have HX : Hid (hidAt ps qs i = false → r = false) := Lib.hid (fun h => by rw [← HE.out]; exact hidM_not (i := i) (by omega) h)
    have HY : Hid (hidAt ps qs i = true → ∀ j, j < i + 1 → hidAt ps qs j = true) := Lib.hid (by
      intro h j hj
      rcases Nat.lt_or_ge j i with h1 | h1
      · exact hno.out j h1
      · obtain rfl : j = i := by omega
        exact h)
    have hin : Hid (∀ k, k < i → inB ps (pt (qs.take i) k).1 (pt (qs.take i) k).2 = true) := Lib.hid (fun k hk => by rw [pt_pre hk]; exact hall.out.2 k (by omega))
    have hq_ := S0.2.2.1
    obtain ⟨ax, ay, ha⟩ : ∃ x y, pt qs i = (x, y) := ⟨_, _, rfl⟩
    rw [ha] at p0 in0 hany
    have QF : Hid (∀ w hp, _) := Lib.hid fun w hp => sightFrom A n cap ax ay w ps hl n10 hok.out hp
    have QC : Hid (∀ k (hk : k < i) C1 C2 Ad cd w h1 h2 hq, _) := Lib.hid fun k hk C1 C2 Ad cd w h1 h2 hq => asks ax ay (pt (qs.take i) k).1 (pt (qs.take i) k).2 C1 C2 Ad n cd w ps hl in0 (hin.out k hk) h1 h2 hq
    unfold Asks at QF
    obtain ⟨ad, eA, bA, pA⟩ := hq_.get p0
    subst eA
    obtain ⟨_, _⟩ := id pA
    have HQ : Hid (∀ (W : World), PtsAt W w.heap.size (some ad) qs → PtsAt W w.heap.size (some ad) (qs.take i)) := Lib.hid (fun W h => pts_take h)
    have hlen : (qs.take i).length = i := by rw [List.length_take]; omega
    generalize hidAt ps qs i = hat at *
    generalize qs.take i = q2 at *
    have X3 := PointOk.box1 wr ax ay 65 (k := wr.heap.size) rfl
    have b1_ := below1 wr (Obj.cells #[.int .i64 ax, .int .i64 ay] 65)
    replace S0 := HO _ _ S0 b1_
    obtain ⟨_, _⟩ := id X3
    obtain ⟨kb, hkb⟩ : ∃ K, wr.heap.size = K := ⟨_, rfl⟩
    rw [hkb] at X3
    clear b1_ p0 hno HE pA ha hin hq_
    go_wp2_with fail
    generalize wr.alloc (Obj.cells #[.int .i64 ax, .int .i64 ay] 65) = v1 at *
    try rw [hkb]
    clear hkb
    have HO : ∀ W W' : World, (BoxR W w.heap.size (.slice A n cap) ∧ PtsAt W w.heap.size A ps ∧ PtsAt W w.heap.size (some ad) qs ∧ PointOk.Box W kb ax ay ∧ Below w.heap.size w W) → Below W.heap.size W W' → (BoxR W' w.heap.size (.slice A n cap) ∧ PtsAt W' w.heap.size A ps ∧ PtsAt W' w.heap.size (some ad) qs ∧ PointOk.Box W' kb ax ay ∧ Below w.heap.size w W') := fun W W' ⟨x0, x1, x2, x3, hb⟩ h => ⟨x0.later h, x1.later (h.mono hb.size), x2.later (h.mono hb.size), x3.later h, hb.trans (h.mono hb.size)⟩
    replace S0 : BoxR v1 w.heap.size (.slice A n cap) ∧ PtsAt v1 w.heap.size A ps ∧ PtsAt v1 w.heap.size (some ad) qs ∧ PointOk.Box v1 kb ax ay ∧ Below w.heap.size w v1 := ⟨S0.1, S0.2.1, S0.2.2.1, X3, S0.2.2.2⟩
    clear X3
    have S0_ := HO _ _ S0 ((Below.refl _ _).drew)
    have HS0_ : v1.drew.cell? ⟨w.heap.size, 0, none⟩ = some (.slice A n cap) ∧ v1.drew.cell? ⟨kb, 0, none⟩ = some (.int .i64 ax) ∧ v1.drew.cell? ⟨kb, 1, none⟩ = some (.int .i64 ay) := ⟨S0_.1.1, S0_.2.2.2.1.1, S0_.2.2.2.1.2⟩
    refine wp_region_held_drew (S := fun W => W.cell? ⟨w.heap.size, 0, none⟩ = some (.slice A n cap) ∧ W.cell? ⟨kb, 0, none⟩ = some (.int .i64 ax) ∧ W.cell? ⟨kb, 1, none⟩ = some (.int .i64 ay)) (by kernel_rfl) HS0_ (fun hHeld => ?_)
    refine wpAnyH_take (i := 0) (oi := ⟨some 23, _, _, _, _, _⟩) (v := ?_) rfl (by kernel_rfl) (by kernel_rfl) (by kernel_rfl) (fun _ _ _ h => h) (Or.inl ⟨by rfl, ?_⟩) (by assumption) ?_
    rotate_left 1
    · (intro w hSw; (try dsimp only at hSw); go_simp; try with_reducible rfl)
    try simp only [Act.put, List.setIfInBounds_toArray, List.set_cons_zero, List.set_cons_succ]
    refine wpAnyH_take (i := 1) (oi := ⟨some 24, _, _, _, _, _⟩) (v := ?_) rfl (by kernel_rfl) (by kernel_rfl) (by kernel_rfl) (fun _ _ _ h => h) (Or.inl ⟨by rfl, ?_⟩) (by assumption) ?_
    rotate_left 1
    · (intro w hSw; (try dsimp only at hSw); go_simp; try with_reducible rfl)
    try simp only [Act.put, List.setIfInBounds_toArray, List.set_cons_zero, List.set_cons_succ]
    refine wpAnyH_take (i := 2) (oi := ⟨some 25, _, _, _, _, _⟩) (v := ?_) rfl (by kernel_rfl) (by kernel_rfl) (by kernel_rfl) (fun _ _ _ h => h) (Or.inl ⟨by rfl, ?_⟩) (by assumption) ?_
    rotate_left 1
    · (intro w hSw; (try dsimp only at hSw); go_simp; try with_reducible rfl)
    try simp only [Act.put, List.setIfInBounds_toArray, List.set_cons_zero, List.set_cons_succ]
    refine wpAnyH_take (i := 3) (oi := ⟨some 26, _, _, _, _, _⟩) (v := ?_) rfl (by kernel_rfl) (by kernel_rfl) (by kernel_rfl) (fun _ _ _ h => h) (Or.inl ⟨by rfl, ?_⟩) (by assumption) ?_
    rotate_left 1
    · (intro w hSw; (try dsimp only at hSw); go_simp; try with_reducible rfl)
    try simp only [Act.put, List.setIfInBounds_toArray, List.set_cons_zero, List.set_cons_succ]
    refine wpAnyH_take (i := 4) (oi := ⟨some 27, _, _, _, _, _⟩) (v := ?_) rfl (by kernel_rfl) (by kernel_rfl) (by kernel_rfl) (fun _ _ _ h => h) (Or.inl ⟨by rfl, ?_⟩) (by assumption) ?_
    rotate_left 1
    · (intro w hSw; (try dsimp only at hSw); go_simp; try with_reducible rfl)
    try simp only [Act.put, List.setIfInBounds_toArray, List.set_cons_zero, List.set_cons_succ]
    refine wpAnyH_ready (rs := [5]) (by kernel_rfl) (by simp) ?_
    refine AllReadyH.cons (o := ⟨some 28, _, _, _, _, _⟩) rfl (fun K hK => ?_) ?_
    rotate_left 1
    · exact AllReadyH.nil
    go_simp
    go_at_call 132; refine (QF.out _ (S0_.2.1.wide S0_.2.2.2.2.size)).mono ?_; rintro e w5 ⟨C1, C2, Ad, cd, rfl, h1_, h2_, hq_, hb2_⟩
    have S2_ := HO _ _ S0_ hb2_
    go_wp2_with fail
    refine hK.out _ _ ⟨S2_.1.1, S2_.2.2.2.1.1, S2_.2.2.2.1.2⟩ (fun hHeld => ?_)
    clear hK K
    refine wpAnyH_ready (rs := [6]) (by kernel_rfl) (by simp) ?_
    refine AllReadyH.cons (o := ⟨some 29, _, _, _, _, _⟩) rfl (fun K hK => ?_) ?_
    rotate_left 1
    · exact AllReadyH.nil
    go_simp
    go_at_call 136; refine (containsFunc 162 #[.pointer (some ⟨C1, 0, none⟩), .pointer (some ⟨C2, 0, none⟩)] (fun k => seesM ps (ax, ay) (pt q2 k)) (some ad) i cb _ q2 hlen (by omega) ((HQ.out _ S2_.2.2.1).wide S2_.2.2.2.2.size) Try.call162 (fun W k hk hb => QC.out k hk C1 C2 Ad cd W (h1_.later hb) (h2_.later hb) ((hq_.later hb).wide hb.size))).mono ?_; rintro e w6 ⟨rfl, hb3_⟩
    have S3_ := HO _ _ S2_ hb3_
    go_wp2_with fail
    refine hK.out _ _ ⟨S3_.1.1, S3_.2.2.2.1.1, S3_.2.2.2.1.2⟩ (fun hHeld => ?_)
    clear hK K
    refine wpAnyH_done (by kernel_rfl) ?_ _
    rw [show ((List.range i).any fun k => seesM ps (ax, ay) (pt q2 k)) = !hat by rw [hany.out]; simp]
    cases hat
    · have E := Lib.hid (HX.out rfl)
      clear HX HY hany hl hl2 hall HQ hlen QC QF
      go_wp2_with fail
      go_ret
      exact ⟨ret_bool E.out.symm, S3_.2.2.2.2⟩
    · have hno2 := Lib.hid (HY.out rfl)
      clear HX HY hany hl hl2 hall HQ hlen QC QF
      go_wp2_with fail
      first
        | exact ⟨⟨i + 1, by omega, by go_num, hno2, S3_.1, S3_.2.1, S3_.2.2.1, S3_.2.2.2.2⟩, by simp [intOf]; omega⟩
        | (go_roundw <;> first | exact ⟨i + 1, by omega, by go_num, hno2, S3_.1, S3_.2.1, S3_.2.2.1, S3_.2.2.2.2⟩ | (simp [intOf]; omega))

end Go.Proofs.Ytgampbjdoncdoaa.InImpl


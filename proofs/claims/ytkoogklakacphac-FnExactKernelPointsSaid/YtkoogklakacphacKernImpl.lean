/-
  What the landed regions and the functions on kernels do, as contracts: what each answers; new memory alone is written.
-/
import Derived.Test.YtkoogklakacphacSeeImpl
namespace Go.Proofs.Ytkoogklakacphac.KernImpl
open Go.RowKit Own PointMath WallMath RoomMath Pts Blk AreaMath PlaceMath FloorMath LineMath CutsMath SightMath DiagMath FiltMath KernMath
open PointOk (ret_bool ret_i64 below1 below2 below3)

theorem infoR : (Try.prog.info? 75).map (fun i => (i.zero, i.size, i.bytes)) = some (some .nilIface, 1, 16) := by kernel_rfl
/-- A wall's left side, as a value of the interface. -/
def sideV (a b : Int × Int) : Value := .iface 104 (.agg #[.int .i64 a.1, .int .i64 a.2, .int .i64 b.1, .int .i64 b.2])
/-- The left sides of the first k walls. -/
def sideTo (ps : List (Int × Int)) : Nat → List Value
  | 0 => []
  | k + 1 => sideTo ps k ++ [sideV (pt ps k) (pt ps ((k + 1) % ps.length))]
theorem sideTo_len (ps : List (Int × Int)) : ∀ k, (sideTo ps k).length = k
  | 0 => rfl
  | k + 1 => by unfold sideTo; rw [List.length_append, sideTo_len ps k]; rfl
theorem sideTo_at (ps : List (Int × Int)) : ∀ (k j : Nat), j < k → (sideTo ps k)[j]? = some (sideV (pt ps j) (pt ps ((j + 1) % ps.length)))
  | 0, j, h => absurd h (by omega)
  | k + 1, j, h => by
    unfold sideTo
    rcases Nat.lt_or_ge j k with h1 | h1
    · rw [List.getElem?_append_left (by rw [sideTo_len]; exact h1)]; exact sideTo_at ps k j h1
    · obtain rfl : j = k := by omega
      rw [List.getElem?_append_right (by rw [sideTo_len]; omega), sideTo_len, Nat.sub_self]; rfl
theorem kern_first {ps : List (Int × Int)} {p : Int × Int} {n : Nat} (hl : ps.length = n) : decide (0 ≤ firstI n (fun k => !leftK ps p k)) = !kernM ps p := by
  by_cases h : ∃ k, k < n ∧ leftK ps p k = false
  · obtain ⟨k, hk, h1⟩ := h
    rw [kernM_not (by omega) h1]
    have : ∃ k : Nat, firstI n (fun k => !leftK ps p k) = (k : Int) := by
      unfold firstI
      cases hf : (List.range n).find? (fun k => !leftK ps p k) with
      | some j => exact ⟨j, rfl⟩
      | none =>
        have := List.find?_eq_none.1 hf k (List.mem_range.2 hk)
        rw [h1] at this
        exact absurd rfl this
    obtain ⟨j, hj⟩ := this
    rw [hj]
    simp
  · have h2 : ∀ k, k < n → leftK ps p k = true := fun k hk => by
      cases e : leftK ps p k
      · exact absurd ⟨k, hk, e⟩ h
      · rfl
    rw [kernM_of (by rw [hl]; exact h2), firstI_none (fun k hk => by simp [h2 k hk])]
    rfl

set_option maxRecDepth 100000 in
set_option maxHeartbeats 1600000 in
theorem left (ax ay bx bY px py : Int) (ha : smP ax ay) (hb : smP bx bY) (hp : smP px py) (w : World) :
    Calls Try.prog 159 #[.agg #[.int .i64 ax, .int .i64 ay, .int .i64 bx, .int .i64 bY], .agg #[.int .i64 px, .int .i64 py]] w fun e w' => e = .returned (.bool (decide (0 ≤ turnI ax ay bx bY px py))) ∧ Below w.heap.size w w' := by
  have QT : Hid (∀ w, _) := Lib.hid fun w => PointImpl.turn ax ay bx bY px py ha hb hp w
  generalize turnI ax ay bx bY px py = t at *
  clear ha hb hp
  go_enter Try.func159, Try.ntmps159
  go_wp2_with fail
  have X0 := (PointOk.box4 w ax ay bx bY 104 (k := w.heap.size) (by simp)).alloc (Obj.cells #[.int .i64 px, .int .i64 py] 51)
  have X1 := PointOk.box1 (w.alloc (Obj.cells #[.int .i64 ax, .int .i64 ay, .int .i64 bx, .int .i64 bY] 104)) px py 51 (k := w.heap.size + 1) (by simp)
  have b0 := PointOk.below2 w (Obj.cells #[.int .i64 ax, .int .i64 ay, .int .i64 bx, .int .i64 bY] 104) (Obj.cells #[.int .i64 px, .int .i64 py] 51)
  have HO : ∀ W W' : World, (PointOk.Box4 W (w.heap.size) ax ay bx bY ∧ PointOk.Box W (w.heap.size + 1) px py ∧ Below w.heap.size w W) → Below W.heap.size W W' → (PointOk.Box4 W' (w.heap.size) ax ay bx bY ∧ PointOk.Box W' (w.heap.size + 1) px py ∧ Below w.heap.size w W') := fun W W' ⟨h0, h1, hb⟩ h => ⟨h0.later h, h1.later h, hb.trans (h.mono hb.size)⟩
  have hz0_ : Hid ((((w.alloc (Obj.cells #[.int .i64 ax, .int .i64 ay, .int .i64 bx, .int .i64 bY] 104)).alloc (Obj.cells #[.int .i64 px, .int .i64 py] 51))).heap.size = w.heap.size + 1 + 1) := Lib.hid (by simp)
  generalize ((w.alloc (Obj.cells #[.int .i64 ax, .int .i64 ay, .int .i64 bx, .int .i64 bY] 104)).alloc (Obj.cells #[.int .i64 px, .int .i64 py] 51)) = w0 at X0 X1 b0 hz0_ ⊢
  have S0 := (⟨X0, X1, b0⟩ : PointOk.Box4 w0 (w.heap.size) ax ay bx bY ∧ PointOk.Box w0 (w.heap.size + 1) px py ∧ Below w.heap.size w w0)
  clear X0 X1 b0
  obtain ⟨⟨_, _, _, _⟩, ⟨_, _⟩, _⟩ := id S0
  refine (QT.out _).mono ?_
  rintro e w1 ⟨rfl, hb_⟩
  replace S0 := HO _ _ S0 hb_
  clear hb_ QT
  go_wp2_with fail
  go_ret
  exact ⟨ret_bool (by first | rfl | (rw [Bool.eq_iff_iff]; simp)), S0.2.2⟩

set_option maxRecDepth 100000 in
set_option maxHeartbeats 1600000 in
/-- The closure that asks whether a side lacks the point. -/
theorem lacks (a b : Int × Int) (px py : Int) (C : Nat) (w : World) (ha : smP a.1 a.2) (hb : smP b.1 b.2) (hp : smP px py) (h1 : PointOk.Box w C px py) :
    Calls Try.prog 157 #[sideV a b, .pointer (some ⟨C, 0, none⟩)] w fun e w' => e = .returned (.bool (!decide (0 ≤ turnP a b (px, py)))) ∧ Below w.heap.size w w' := by
  have QL : Hid (∀ w, _) := Lib.hid fun w => left a.1 a.2 b.1 b.2 px py ha hb hp w
  have e : turnI a.1 a.2 b.1 b.2 px py = turnP a b (px, py) := rfl
  rw [e] at QL
  clear e
  have hm : ∀ w : World, (method 240 104 (.agg #[.int .i64 a.1, .int .i64 a.2, .int .i64 b.1, .int .i64 b.2]) "loop.example/g00991/impl.has").run Try.prog w = .ok (159, .agg #[.int .i64 a.1, .int .i64 a.2, .int .i64 b.1, .int .i64 b.2]) w := fun _ => by kernel_rfl
  unfold sideV
  obtain ⟨x0, x1⟩ := h1
  generalize decide (0 ≤ turnP a b (px, py)) = r at *
  clear ha hb hp
  go_enter Try.func157, Try.ntmps157
  go_wp2_with fail
  refine (QL.out _).mono ?_
  rintro e w1 ⟨rfl, hb_⟩
  go_wp2_with fail
  go_ret
  exact ⟨rfl, hb_⟩

set_option maxRecDepth 100000 in
set_option maxHeartbeats 1600000 in
theorem indexOf (A : Option Addr) (n c b C : Nat) (px py : Int) (w : World) (ps : List (Int × Int)) (hl : ps.length = n) (hn : n ≤ 1048576) (hs : smAll ps) (hq : smP px py)
    (hR : w.ownsRow b 75 1 (.slice A n c) n (sideTo ps n)) (h1 : PointOk.Box w C px py) :
    Calls Try.prog 158 #[.slice A n c, .func (.func 157) #[] #[.pointer (some ⟨C, 0, none⟩)]] w fun e w' => e = .returned (.int .i64 (firstI n (fun k => !leftK ps (px, py) k))) ∧ Below w.heap.size w w' := by
  obtain ⟨r, hr⟩ : ∃ r, firstI n (fun k => !leftK ps (px, py) k) = r := ⟨_, rfl⟩
  have HR := Lib.hid hr
  rw [hr]
  clear hr
  go_enter Try.func158, Try.ntmps158
  go_wp2_with fail
  have HO : ∀ W W' : World, (PointOk.Box W C px py ∧ W.ownsRow b 75 1 (.slice A n c) n (sideTo ps n) ∧ Below w.heap.size w W) → Below W.heap.size W W' → (PointOk.Box W' C px py ∧ W'.ownsRow b 75 1 (.slice A n c) n (sideTo ps n) ∧ Below w.heap.size w W') := fun W W' ⟨x0, x1, hb⟩ h => ⟨x0.later h, own_below x1 h, hb.trans (h.mono hb.size)⟩
  have S0 : PointOk.Box w C px py ∧ w.ownsRow b 75 1 (.slice A n c) n (sideTo ps n) ∧ Below w.heap.size w w := ⟨h1, hR, Below.refl _ _⟩
  clear h1 hR
  go_loopw [8] (fun q wr => ∃ k : Nat, k ≤ n ∧ q = .int .i64 k ∧ Hid (∀ j, j < k → (!leftK ps (px, py) j) = false) ∧ (PointOk.Box wr C px py ∧ wr.ownsRow b 75 1 (.slice A n c) n (sideTo ps n) ∧ Below w.heap.size w wr))
    (fun q _ => n - (intOf q).toNat)
  case atStart => exact ⟨0, Nat.zero_le _, rfl, Lib.hid (fun t ht => absurd ht (by omega)), S0⟩
  case round =>
    clear S0
    obtain ⟨k, hk, rfl, hno, S0⟩ := hrel
    obtain ⟨⟨_, _⟩, _, _⟩ := id S0
    by_cases hkn : k < n
    · have hm : (k + 1) % n < n := Nat.mod_lt _ (by omega)
      have s0 := hs k (by omega)
      have s1 := hs ((k + 1) % n) (by omega)
      have HK : Hid (leftK ps (px, py) k = decide (0 ≤ turnP (pt ps k) (pt ps ((k + 1) % n)) (px, py))) := Lib.hid (by unfold leftK; rw [hl])
      obtain ⟨g, eA, _, _, hcell, _⟩ := own_cell S0.2.1 hkn (sideTo_at ps n k hkn)
      rw [hl] at hcell
      generalize pt ps k = pa at *
      generalize pt ps ((k + 1) % n) = pb at *
      subst eA
      have hk1 : (k : Int) < (n : Int) := by omega
      have hk0 : (0 : Int) ≤ (k : Int) := by omega
      have QL : Hid (∀ w h1, _) := Lib.hid fun w h1 => lacks pa pb px py C w s0 s1 hq h1
      have had := add_head g k
      obtain ⟨t, ht⟩ : ∃ t, decide (0 ≤ turnP pa pb (px, py)) = t := ⟨_, rfl⟩
      rw [ht] at QL HK
      generalize sideV pa pb = sv at *
      replace hR := Lib.hid S0.2.1
      clear hl s0 s1 ht hm hs hq
      go_wp2_with fail
      refine (QL.out _ S0.1).mono ?_
      rintro e w1 ⟨rfl, hb_⟩
      have S1 := HO _ _ S0 hb_
      clear hb_ QL S0 hcell
      cases t
      · have E : Hid (r = (k : Int)) := Lib.hid (by rw [← HR.out]; exact firstI_at hkn (by rw [HK.out]; rfl) hno.out)
        clear HR HK hno
        go_wp2_with fail
        go_ret
        exact ⟨ret_i64 E.out.symm, S1.2.2⟩
      · have hno2 : Hid (∀ j, j < k + 1 → (!leftK ps (px, py) j) = false) := Lib.hid (by
          intro j hj
          rcases Nat.lt_or_ge j k with h | h
          · exact hno.out j h
          · obtain rfl : j = k := by omega
            rw [HK.out]; rfl)
        clear HR HK hno
        go_wp2_with fail
        first
          | exact ⟨⟨k + 1, by omega, by go_num, hno2, S1⟩, by simp [intOf]; omega⟩
          | (go_roundw <;> first | exact ⟨k + 1, by omega, by go_num, hno2, S1⟩ | (simp [intOf]; omega))
    · obtain rfl : n = k := by omega
      have E : Hid (r = -1) := Lib.hid (by rw [← HR.out]; exact firstI_none hno.out)
      clear HR hno hl hs
      go_wp2_with fail
      go_ret
      exact ⟨ret_i64 E.out.symm, S0.2.2⟩

set_option maxRecDepth 100000 in
set_option maxHeartbeats 1600000 in
/-- Does the common region have the point? -/
theorem commonHas (A : Option Addr) (n c b : Nat) (px py : Int) (w : World) (ps : List (Int × Int)) (hl : ps.length = n) (hn : n ≤ 1048576) (hs : smAll ps) (hq : smP px py)
    (hR : w.ownsRow b 75 1 (.slice A n c) n (sideTo ps n)) :
    Calls Try.prog 155 #[.slice A n c, .agg #[.int .i64 px, .int .i64 py]] w fun e w' => e = .returned (.bool (kernM ps (px, py))) ∧ Below w.heap.size w w' := by
  have hmf : ∀ (fn : Fn) (first cap : Array Value) (w : World), (Instr.makeFunc fn first cap).run Try.prog w = .ok (.func fn first cap) w := fun _ _ _ _ => rfl
  have QC : Hid (∀ (C : Nat) (w : World) (_ : w.ownsRow b 75 1 (.slice A n c) n (sideTo ps n)) (_ : PointOk.Box w C px py), Calls Try.prog 156 #[.slice A n c, .func (.func 157) #[] #[.pointer (some ⟨C, 0, none⟩)]] w fun e w' => e = .returned (.bool (!kernM ps (px, py))) ∧ Below w.heap.size w w') := Lib.hid (by
    intro C w hR h1
    have QI : Hid (∀ w hR h1, _) := Lib.hid fun w hR h1 => indexOf A n c b C px py w ps hl hn hs hq hR h1
    have E := kern_first (p := (px, py)) hl
    generalize firstI n (fun k => !leftK ps (px, py) k) = q at *
    generalize kernM ps (px, py) = r at *
    have E := Lib.hid E
    clear hl hs hq
    go_enter Try.func156, Try.ntmps156
    go_wp2_with fail
    refine (QI.out _ hR h1).mono ?_
    rintro e w1 ⟨rfl, hb_⟩
    go_wp2_with fail
    go_ret
    exact ⟨ret_bool (by rw [← E.out]), hb_⟩)
  generalize kernM ps (px, py) = r at *
  clear hl hs hq
  go_enter Try.func155, Try.ntmps155
  go_wp2_with fail
  have X0 := PointOk.box1 w px py 51 (k := w.heap.size) (by simp)
  have b0 := PointOk.below1 w (Obj.cells #[.int .i64 px, .int .i64 py] 51)
  have HO : ∀ W W' : World, (PointOk.Box W (w.heap.size) px py ∧ W.ownsRow b 75 1 (.slice A n c) n (sideTo ps n) ∧ Below w.heap.size w W) → Below W.heap.size W W' → (PointOk.Box W' (w.heap.size) px py ∧ W'.ownsRow b 75 1 (.slice A n c) n (sideTo ps n) ∧ Below w.heap.size w W') := fun W W' ⟨h0, x0, hb⟩ h => ⟨h0.later h, own_below x0 h, hb.trans (h.mono hb.size)⟩
  have hz0_ : Hid (((w.alloc (Obj.cells #[.int .i64 px, .int .i64 py] 51))).heap.size = w.heap.size + 1) := Lib.hid (by simp)
  have Y0 : ((w.alloc (Obj.cells #[.int .i64 px, .int .i64 py] 51))).ownsRow b 75 1 (.slice A n c) n (sideTo ps n) := own_below hR b0
  generalize (w.alloc (Obj.cells #[.int .i64 px, .int .i64 py] 51)) = w0 at X0 Y0 b0 hz0_ ⊢
  have S0 := (⟨X0, Y0, b0⟩ : PointOk.Box w0 (w.heap.size) px py ∧ w0.ownsRow b 75 1 (.slice A n c) n (sideTo ps n) ∧ Below w.heap.size w w0)
  clear X0 Y0 b0
  obtain ⟨⟨_, _⟩, _, _⟩ := id S0
  refine (QC.out w.heap.size _ S0.2.1 S0.1).mono ?_
  rintro e w1 ⟨rfl, hb_⟩
  replace S0 := HO _ _ S0 hb_
  clear hb_ QC
  go_wp2_with fail
  go_ret
  exact ⟨ret_bool (by simp), S0.2.2⟩

set_option maxRecDepth 100000 in
set_option maxHeartbeats 1600000 in
theorem kernelOf (A : Option Addr) (n cap : Nat) (w : World) (ps : List (Int × Int)) (hl : ps.length = n) (hn : n ≤ 1048576) (hp : PtsAt w w.heap.size A ps) :
    Calls Try.prog 76 #[.agg #[.slice A n cap]] w fun e w' => ∃ Ak ck, e = .returned (.iface 101 (.slice Ak n ck)) ∧ w'.ownsRow w.heap.size 75 1 (.slice Ak n ck) n (sideTo ps n) ∧ Below w.heap.size w w' := by
  obtain ⟨i0, hi, hz0, hz1, hz2⟩ := info_parts infoR
  go_enter Try.func76, Try.ntmps76
  go_wp2_with fail
  have X0 := Pts.boxR w (.slice A n cap) 29 (k := w.heap.size) (by simp)
  have b0 := PointOk.below1 w (Obj.cells #[.slice A n cap] 29)
  have HO : ∀ W W' : World, (Pts.BoxR W (w.heap.size) (.slice A n cap) ∧ PtsAt W w.heap.size A ps ∧ Below w.heap.size w W) → Below W.heap.size W W' → (Pts.BoxR W' (w.heap.size) (.slice A n cap) ∧ PtsAt W' w.heap.size A ps ∧ Below w.heap.size w W') := fun W W' ⟨h0, x0, hb⟩ h => ⟨h0.later h, x0.later (h.mono hb.size), hb.trans (h.mono hb.size)⟩
  have hz0_ : Hid (((w.alloc (Obj.cells #[.slice A n cap] 29))).heap.size = w.heap.size + 1) := Lib.hid (by simp)
  have Y0 : PtsAt ((w.alloc (Obj.cells #[.slice A n cap] 29))) w.heap.size A ps := hp.later b0
  generalize (w.alloc (Obj.cells #[.slice A n cap] 29)) = w0 at X0 Y0 b0 hz0_ ⊢
  have S0 := (⟨X0, Y0, b0⟩ : Pts.BoxR w0 (w.heap.size) (.slice A n cap) ∧ PtsAt w0 w.heap.size A ps ∧ Below w.heap.size w w0)
  clear X0 Y0 b0
  obtain ⟨⟨_, _⟩, _, _⟩ := id S0
  have HO2 : ∀ W W' : World, (Pts.BoxR W (w.heap.size) (.slice A n cap) ∧ PtsAt W w.heap.size A ps ∧ Below w.heap.size w W) → Below (w.heap.size + 1) W W' → (Pts.BoxR W' (w.heap.size) (.slice A n cap) ∧ PtsAt W' w.heap.size A ps ∧ Below w.heap.size w W') := fun W W' ⟨h0, h1, hb⟩ h => ⟨⟨(h.cell (by simp)).trans h0.1, trivial⟩, h1.later (h.mono (by omega)), hb.trans (h.mono (by omega))⟩
  go_loopw [3, 8] (fun v q wr => ∃ k : Nat, k ≤ n ∧ q = .int .i64 k ∧ wr.ownsRow (w.heap.size + 1) 75 1 v k (sideTo ps k) ∧ w.heap.size + 1 ≤ wr.heap.size ∧ (Pts.BoxR wr (w.heap.size) (.slice A n cap) ∧ PtsAt wr w.heap.size A ps ∧ Below w.heap.size w wr))
    (fun _ q _ => n - (intOf q).toNat)
  case atStart => exact ⟨0, Nat.zero_le _, rfl, World.ownsRow_nil _ _ _ _, World.block_lt_of_cell? _ _ S0.1.1, S0⟩
  case round =>
    clear S0
    obtain ⟨k, hkn, rfl, hown, hsz, S0⟩ := hrel
    obtain ⟨⟨_, _⟩, _, _⟩ := id S0
    by_cases hlt : k < n
    · have hk1 : (k : Int) < (n : Int) := by omega
      have QW : Hid (∀ w hp, _) := Lib.hid fun w hp => RoomOkImpl.wallBehind A n cap k w ps hl hn hlt hp
      have HS : Hid (sideTo ps (k + 1) = sideTo ps k ++ [sideV (pt ps k) (pt ps ((k + 1) % n))]) := Lib.hid (by rw [← hl]; rfl)
      generalize pt ps k = pa at *
      generalize pt ps ((k + 1) % n) = pb at *
      have hlen := sideTo_len ps k
      generalize sideTo ps k = l at *
      have hown := Lib.hid hown
      clear hl
      go_wp2_with fail
      refine (QW.out _ (S0.2.1.wide S0.2.2.size)).mono ?_
      rintro e w2 ⟨rfl, hb_⟩
      replace S0 := HO _ _ S0 hb_
      have hown2 := own_below hown.out hb_
      replace hsz := Nat.le_trans hsz hb_.size
      clear hb_ QW hown
      obtain ⟨⟨_, _⟩, _, _⟩ := id S0
      go_wp2_with (at_builtin; refine wpList_append_own _ rfl _ _ 101 rfl (w.heap.size + 1) 75 i0 .nilIface 1 16 Try.underlying101 hi hz0 hz1 hz2 rfl (by decide) _ _ _ rfl (hown2.alloc _) ⟨w2.heap.size, 0, none⟩ 1 1 [sideV pa pb] rfl rfl ?c1 ?c2 ?c3 ?c4 ?c5 ?_)
      case c1 => (intro a u ha; match a, ha with | 0, ha => (simp at ha; subst ha; simp [Addr.add, sideV]))
      case c2 => (intro u hu; simp at hu; subst hu; rfl)
      case c3 => (unfold maxLen; omega)
      case c4 => omega
      case c5 => (simp; omega)
      intro v1_ wa_ ho_ hg_ _
      have HN : Hid (wa_.ownsRow (w.heap.size + 1) 75 1 v1_ (k + 1) (sideTo ps (k + 1)) ∧ w.heap.size + 1 ≤ wa_.heap.size ∧ (Pts.BoxR wa_ (w.heap.size) (.slice A n cap) ∧ PtsAt wa_ w.heap.size A ps ∧ Below w.heap.size w wa_)) := Lib.hid (by
        have hb0 : Below (w.heap.size + 1) w2 (w2.alloc (Obj.cells #[sideV pa pb] 75)) := (below1 _ _).mono hsz
        have hb1 := hb0.grown hg_ (by simp; omega) (fun g hg => (hown2.lt g hg).1)
        rw [HS.out]
        exact ⟨ho_, Nat.le_trans hsz hb1.size, HO2 _ _ S0 hb1⟩)
      clear ho_ hg_ hown2 HS S0
      go_wp2_with fail
      first
        | exact ⟨⟨k + 1, by omega, by go_num, HN.out.1, HN.out.2.1, HN.out.2.2⟩, by simp [intOf]; omega⟩
        | (go_roundw <;> first | exact ⟨k + 1, by omega, by go_num, HN.out.1, HN.out.2.1, HN.out.2.2⟩ | (simp [intOf]; omega))
    · obtain rfl : k = n := by omega
      have hown2 := Lib.hid hown
      obtain ⟨A1, c1, rfl⟩ := own_shape hown
      clear hl hown
      go_wp2_with fail
      go_ret
      exact ⟨A1, c1, rfl, own_base hown2.out (by omega), S0.2.2⟩

open FiltImpl (infoP cellsP_app pts_own)

set_option maxRecDepth 100000 in
set_option maxHeartbeats 1600000 in
theorem filteredM (F T : Nat) (v : Value) (f : Nat → Bool) (Al : Option Addr) (m cl : Nat) (w : World) (l : List (Int × Int)) (hm : l.length = m) (hle : m ≤ 1048576) (hp : PtsAt w w.heap.size Al l) (eF : ∀ (args : Array Value) (w : World), (callFunc F args).run Try.prog w = .ok (.enter F args) w) (hm_ : ∀ w : World, (method 240 T v "loop.example/g00991/impl.has").run Try.prog w = .ok (F, v) w)
    (Q : ∀ (W : World) (k : Nat), k < m → Below w.heap.size w W → Calls Try.prog F #[v, .agg #[.int .i64 (pt l k).1, .int .i64 (pt l k).2]] W fun e w' => e = .returned (.bool (f k)) ∧ Below W.heap.size W w') :
    Calls Try.prog 65 #[.slice Al m cl, .func (.method "loop.example/g00991/impl.has") #[.iface T v] #[]] w (GivesC 51 2 w (filtTo f l m).length (cellsP (filtTo f l m))) := by
  obtain ⟨r, hr⟩ : ∃ r, filtTo f l m = r := ⟨_, rfl⟩
  have HR := Lib.hid hr
  rw [hr]
  clear hr
  obtain ⟨i0, hi, hz0, hz1, hz2⟩ := info_parts infoP
  have Q := Lib.hid Q
  go_enter Try.func65, Try.ntmps65
  go_wp2_with fail
  have HO : ∀ W W' : World, (PtsAt W w.heap.size Al l ∧ Below w.heap.size w W) → Below W.heap.size W W' → (PtsAt W' w.heap.size Al l ∧ Below w.heap.size w W') := fun W W' ⟨x0, hb⟩ h => ⟨x0.later (h.mono hb.size), hb.trans (h.mono hb.size)⟩
  have S0 : PtsAt w w.heap.size Al l ∧ Below w.heap.size w w := ⟨hp, Below.refl _ _⟩
  clear hp
  have HO2 : ∀ W W' : World, (PtsAt W w.heap.size Al l ∧ Below w.heap.size w W) → Below w.heap.size W W' → (PtsAt W' w.heap.size Al l ∧ Below w.heap.size w W') := fun W W' ⟨h0, hb⟩ h => ⟨h0.later h, hb.trans h⟩
  go_loopw [5, 10] (fun v q wr => ∃ k : Nat, k ≤ m ∧ q = .int .i64 k ∧ wr.ownsRow w.heap.size 51 2 v (filtTo f l k).length (cellsP (filtTo f l k)) ∧ (PtsAt wr w.heap.size Al l ∧ Below w.heap.size w wr))
    (fun _ q _ => m - (intOf q).toNat)
  case atStart => exact ⟨0, Nat.zero_le _, rfl, World.ownsRow_nil _ _ _ _, S0⟩
  case round =>
    clear S0
    obtain ⟨k, hkm, rfl, hown, S0⟩ := hrel
    obtain ⟨_, _⟩ := id S0
    by_cases hlt : k < m
    · have hk1 : (k : Int) < (m : Int) := by omega
      have hk0 : (0 : Int) ≤ (k : Int) := by omega
      have hcl := filtTo_len f l k
      have HS : Hid (filtTo f l (k + 1) = if f k then filtTo f l k ++ [pt l k] else filtTo f l k) := Lib.hid rfl
      have QK : Hid (∀ W hb, _) := Lib.hid fun W hb => Q.out W k hlt hb
      generalize filtTo f l k = l0 at *
      obtain ⟨mc, hmc⟩ : ∃ x, l0.length = x := ⟨_, rfl⟩
      rw [hmc] at hown hcl
      have p0 := pt_at (ps := l) (k := k) (by omega)
      obtain ⟨x, y, hx⟩ : ∃ x y, pt l k = (x, y) := ⟨_, _, rfl⟩
      rw [hx] at p0 HS QK
      obtain ⟨ad, eA, bA, pA⟩ := S0.1.get p0
      subst eA
      obtain ⟨_, _⟩ := id pA
      obtain ⟨o, ho⟩ : ∃ o, f k = o := ⟨_, rfl⟩
      rw [ho] at QK HS
      have X3 := PointOk.box1 wr x y 51 (k := wr.heap.size) rfl
      have b1_ := below1 wr (Obj.cells #[.int .i64 x, .int .i64 y] 51)
      replace S0 := HO _ _ S0 b1_
      replace hown := own_below hown b1_
      obtain ⟨_, _⟩ := id X3
      obtain ⟨kb, hkb⟩ : ∃ K, wr.heap.size = K := ⟨_, rfl⟩
      rw [hkb] at X3
      replace hown := Lib.hid hown
      clear b1_ p0 hx ho pA Q HR
      go_wp2_with fail
      generalize wr.alloc (Obj.cells #[.int .i64 x, .int .i64 y] 51) = v1 at *
      try rw [hkb]
      clear hkb
      obtain ⟨_, _⟩ := id S0
      refine (QK.out _ S0.2).mono ?_
      rintro e w4 ⟨rfl, hb_⟩
      replace S0 := HO _ _ S0 hb_
      replace X3 := X3.later hb_
      replace hown := Lib.hid (own_below hown.out hb_)
      clear hb_ QK
      obtain ⟨_, _⟩ := id S0
      obtain ⟨_, _⟩ := X3
      cases o
      · have HS2 : Hid (filtTo f l (k + 1) = l0) := Lib.hid (by rw [HS.out]; rfl)
        clear HS
        go_wp2_with fail
        first
          | exact ⟨⟨k + 1, by omega, by go_num, by rw [HS2.out, hmc]; exact hown.out, S0⟩, by simp [intOf]; omega⟩
          | (go_roundw <;> first | exact ⟨k + 1, by omega, by go_num, by rw [HS2.out, hmc]; exact hown.out, S0⟩ | (simp [intOf]; omega))
      · have HS2 : Hid (filtTo f l (k + 1) = l0 ++ [(x, y)]) := Lib.hid (by rw [HS.out]; rfl)
        have hown2 := hown.out
        have hzB := S0.2.size
        clear HS
        go_wp2_with (at_builtin; refine wpList_append_own _ rfl _ _ 26 rfl w.heap.size 51 i0 (.agg #[.int .i64 0, .int .i64 0]) 2 16 Try.underlying26 hi hz0 hz1 hz2 rfl (by decide) _ _ _ rfl (hown2.alloc _) ⟨w4.heap.size, 0, none⟩ 1 1 [.int .i64 x, .int .i64 y] rfl rfl ?c1 ?c2 ?c3 ?c4 ?c5 ?_)
        case c1 => (intro a u ha; match a, ha with | 0, ha => (simp at ha; subst ha; simp [Addr.add]) | 1, ha => (simp at ha; subst ha; simp [Addr.add]))
        case c2 => (intro u hu; simp at hu; rcases hu with rfl | rfl <;> rfl)
        case c3 => (unfold maxLen; omega)
        case c4 => omega
        case c5 => (simp; omega)
        intro v1_ wa_ ho_ hg_ _
        have HN : Hid (wa_.ownsRow w.heap.size 51 2 v1_ (filtTo f l (k + 1)).length (cellsP (filtTo f l (k + 1))) ∧ (PtsAt wa_ w.heap.size (some ad) l ∧ Below w.heap.size w wa_)) := Lib.hid (by
          have hb0 : Below w.heap.size w4 (w4.alloc (Obj.cells #[.int .i64 x, .int .i64 y] 51)) := (below1 _ _).mono hzB
          have hb1 := hb0.grown hg_ (by simp; omega) (fun g hg => (hown2.lt g hg).1)
          rw [HS2.out, cellsP_app, List.length_append, hmc]
          exact ⟨ho_, HO2 _ _ S0 hb1⟩)
        clear ho_ hg_ hown hown2 HS2 S0
        go_wp2_with fail
        first
          | exact ⟨⟨k + 1, by omega, by go_num, HN.out.1, HN.out.2⟩, by simp [intOf]; omega⟩
          | (go_roundw <;> first | exact ⟨k + 1, by omega, by go_num, HN.out.1, HN.out.2⟩ | (simp [intOf]; omega))
    · obtain rfl : m = k := by omega
      rw [HR.out] at hown
      have hown2 := Lib.hid hown
      obtain ⟨A1, c1, rfl⟩ := own_shape hown
      clear hm hown HR
      go_wp2_with fail
      go_ret
      exact ⟨A1, c1, rfl, hown2.out, S0.2⟩

theorem hm_common (A : Option Addr) (n c : Nat) : ∀ w : World, (method 240 101 (.slice A n c) "loop.example/g00991/impl.has").run Try.prog w = .ok (155, .slice A n c) w := fun _ => by kernel_rfl

set_option maxRecDepth 100000 in
set_option maxHeartbeats 1600000 in
theorem inKernel (A : Option Addr) (n cap : Nat) (ax ay : Int) (w : World) (ps : List (Int × Int)) (hl : ps.length = n) (hn : n ≤ 1048576) (hp : PtsAt w w.heap.size A ps) :
    Calls Try.prog 43 #[.agg #[.slice A n cap], .agg #[.int .i64 ax, .int .i64 ay]] w fun e w' => e = .returned (.bool (kernB ps ax ay)) ∧ Below w.heap.size w w' := by
  obtain ⟨r, hr⟩ : ∃ r, kernB ps ax ay = r := ⟨_, rfl⟩
  have HR := Lib.hid hr
  rw [hr]
  clear hr
  go_enter Try.func43, Try.ntmps43
  go_wp2_with fail
  have X0 := (Pts.boxR w (.slice A n cap) 29 (k := w.heap.size) (by simp)).alloc (Obj.cells #[.int .i64 ax, .int .i64 ay] 51)
  have X1 := PointOk.box1 (w.alloc (Obj.cells #[.slice A n cap] 29)) ax ay 51 (k := w.heap.size + 1) (by simp)
  have b0 := PointOk.below2 w (Obj.cells #[.slice A n cap] 29) (Obj.cells #[.int .i64 ax, .int .i64 ay] 51)
  have HO : ∀ W W' : World, (Pts.BoxR W (w.heap.size) (.slice A n cap) ∧ PointOk.Box W (w.heap.size + 1) ax ay ∧ PtsAt W w.heap.size A ps ∧ Below w.heap.size w W) → Below W.heap.size W W' → (Pts.BoxR W' (w.heap.size) (.slice A n cap) ∧ PointOk.Box W' (w.heap.size + 1) ax ay ∧ PtsAt W' w.heap.size A ps ∧ Below w.heap.size w W') := fun W W' ⟨h0, h1, x0, hb⟩ h => ⟨h0.later h, h1.later h, x0.later (h.mono hb.size), hb.trans (h.mono hb.size)⟩
  have hz0_ : Hid ((((w.alloc (Obj.cells #[.slice A n cap] 29)).alloc (Obj.cells #[.int .i64 ax, .int .i64 ay] 51))).heap.size = w.heap.size + 1 + 1) := Lib.hid (by simp)
  have Y0 : PtsAt (((w.alloc (Obj.cells #[.slice A n cap] 29)).alloc (Obj.cells #[.int .i64 ax, .int .i64 ay] 51))) w.heap.size A ps := hp.later b0
  generalize ((w.alloc (Obj.cells #[.slice A n cap] 29)).alloc (Obj.cells #[.int .i64 ax, .int .i64 ay] 51)) = w0 at X0 X1 Y0 b0 hz0_ ⊢
  have S0 := (⟨X0, X1, Y0, b0⟩ : Pts.BoxR w0 (w.heap.size) (.slice A n cap) ∧ PointOk.Box w0 (w.heap.size + 1) ax ay ∧ PtsAt w0 w.heap.size A ps ∧ Below w.heap.size w w0)
  clear X0 X1 Y0 b0
  obtain ⟨⟨_, _⟩, ⟨_, _⟩, _, _⟩ := id S0
  have QI : Hid (∀ w hp, _) := Lib.hid fun w hp => PlaceImpl.isIn A n cap ax ay w ps hl hn hp
  cases ha : inB ps ax ay
  · have E : Hid (r = false) := Lib.hid (by rw [← HR.out]; unfold kernB; rw [ha]; rfl)
    rw [ha] at QI
    clear hl HR ha
    go_wp2_with fail
    refine Settle.region (fun W => Pts.BoxR W (w.heap.size) (.slice A n cap) ∧ PointOk.Box W (w.heap.size + 1) ax ay ∧ PtsAt W w.heap.size A ps ∧ Below w.heap.size w W) (by kernel_rfl) (by kernel_rfl) (by kernel_rfl) (by kernel_rfl) (HO _ _ S0 ((Below.refl _ _).drew)) ?_
    clear S0
    repeat (first
      | (refine Settle.Settles.off (by rfl) ?_; simp only [Act.put, List.setIfInBounds_toArray, List.set_cons_zero, List.set_cons_succ])
      | (refine Settle.Settles.quiet (v := ?_) (by rfl) ?_ ?_
         rotate_left
         · (intro W hS; obtain ⟨⟨_, _⟩, ⟨_, _⟩, _, _⟩ := hS; go_simp; with_reducible rfl)
         simp only [Act.put, List.setIfInBounds_toArray, List.set_cons_zero, List.set_cons_succ])
      | (refine Settle.Settles.call (v := ?_) (f := ?_) (args := ?_) (by rfl) ?_ ?_ ?_
         rotate_left 3
         · (intro W; go_simp; refine ⟨?_, ?_⟩ <;> with_reducible rfl)
         · (intro W hS; first | (go_at_call 75; (with_reducible refine (QI.out _ (hS.2.2.1.wide hS.2.2.2.size)).mono ?_); rintro e W1 ⟨rfl, hb⟩; refine ⟨?_, HO _ _ hS hb⟩; with_reducible rfl))
         simp only [Act.put, List.setIfInBounds_toArray, List.set_cons_zero, List.set_cons_succ]))
    refine Settle.Settles.nil ?_
    intro wr S0
    obtain ⟨⟨_, _⟩, ⟨_, _⟩, _, _⟩ := id S0
    go_wp2_with fail
    go_ret
    exact ⟨ret_bool E.out.symm, S0.2.2.2⟩
  have hb := inB_parts ha
  have hy := roomB_yes hb.1
  have QK : Hid (∀ w hp, _) := Lib.hid fun w hp => kernelOf A n cap w ps hl hn hp
  have E : Hid (kernM ps (ax, ay) = r) := Lib.hid (by rw [← HR.out]; unfold kernB; rw [ha]; rfl)
  have QH : Hid (∀ Ak ck w hR, _) := Lib.hid fun Ak ck w hR => commonHas Ak n ck w.heap.size ax ay w ps hl hn (smAll_of hy.2.1) (okP_sm hb.2) hR
  have QH : Hid (∀ Ak ck b w hR, _) := Lib.hid fun Ak ck b w hR => commonHas Ak n ck b ax ay w ps hl hn (smAll_of hy.2.1) (okP_sm hb.2) hR
  rw [E.out] at QH
  rw [ha] at QI
  clear hl HR ha hb hy E
  go_wp2_with fail
  have S0_ := HO _ _ S0 ((Below.refl _ _).drew)
  have HS0_ : w0.drew.cell? ⟨w.heap.size, 0, none⟩ = some (.slice A n cap) ∧ w0.drew.cell? ⟨w.heap.size + 1, 0, none⟩ = some (.int .i64 ax) ∧ w0.drew.cell? ⟨w.heap.size + 1, 1, none⟩ = some (.int .i64 ay) := ⟨S0_.1.1, S0_.2.1.1, S0_.2.1.2⟩
  refine wp_region_held_drew (S := fun W => W.cell? ⟨w.heap.size, 0, none⟩ = some (.slice A n cap) ∧ W.cell? ⟨w.heap.size + 1, 0, none⟩ = some (.int .i64 ax) ∧ W.cell? ⟨w.heap.size + 1, 1, none⟩ = some (.int .i64 ay)) (by kernel_rfl) HS0_ (fun hHeld => ?_)
  refine wpAnyH_take (i := 0) (oi := ⟨some 5, _, _, _, _, _⟩) (v := ?_) rfl (by kernel_rfl) (by kernel_rfl) (by kernel_rfl) (fun _ _ _ h => h) (Or.inl ⟨by rfl, ?_⟩) (by assumption) ?_
  rotate_left 1
  · (intro w hSw; (try dsimp only at hSw); go_simp; try with_reducible rfl)
  try simp only [Act.put, List.setIfInBounds_toArray, List.set_cons_zero, List.set_cons_succ]
  refine wpAnyH_take (i := 1) (oi := ⟨some 6, _, _, _, _, _⟩) (v := ?_) rfl (by kernel_rfl) (by kernel_rfl) (by kernel_rfl) (fun _ _ _ h => h) (Or.inl ⟨by rfl, ?_⟩) (by assumption) ?_
  rotate_left 1
  · (intro w hSw; (try dsimp only at hSw); go_simp; try with_reducible rfl)
  try simp only [Act.put, List.setIfInBounds_toArray, List.set_cons_zero, List.set_cons_succ]
  refine wpAnyH_ready (rs := [2]) (by kernel_rfl) (by simp) ?_
  refine AllReadyH.cons (o := ⟨some 7, _, _, _, _, _⟩) rfl (fun K hK => ?_) ?_
  rotate_left 1
  · exact AllReadyH.nil
  go_simp
  go_at_call 75; refine (QI.out _ (S0_.2.2.1.wide S0_.2.2.2.size)).mono ?_; rintro e w3 ⟨rfl, hb2_⟩
  have S3_ := HO _ _ S0_ hb2_
  go_wp2_with fail
  refine hK.out _ _ ⟨S3_.1.1, S3_.2.1.1, S3_.2.1.2⟩ (fun hHeld => ?_)
  clear hK K
  refine wpAnyH_take (i := 3) (oi := ⟨some 8, _, _, _, _, _⟩) (v := ?_) rfl (by kernel_rfl) (by kernel_rfl) (by kernel_rfl) (fun _ _ _ h => h) (Or.inl ⟨by rfl, ?_⟩) (by assumption) ?_
  rotate_left 1
  · (intro w hSw; (try dsimp only at hSw); go_simp; try with_reducible rfl)
  try simp only [Act.put, List.setIfInBounds_toArray, List.set_cons_zero, List.set_cons_succ]
  refine wpAnyH_take (i := 4) (oi := ⟨some 9, _, _, _, _, _⟩) (v := ?_) rfl (by kernel_rfl) (by kernel_rfl) (by kernel_rfl) (fun _ _ _ h => h) (Or.inl ⟨by rfl, ?_⟩) (by assumption) ?_
  rotate_left 1
  · (intro w hSw; (try dsimp only at hSw); go_simp; try with_reducible rfl)
  try simp only [Act.put, List.setIfInBounds_toArray, List.set_cons_zero, List.set_cons_succ]
  refine wpAnyH_take (i := 6) (oi := ⟨some 11, _, _, _, _, _⟩) (v := ?_) rfl (by kernel_rfl) (by kernel_rfl) (by kernel_rfl) (fun _ _ _ h => h) (Or.inl ⟨by rfl, ?_⟩) (by assumption) ?_
  rotate_left 1
  · (intro w hSw; (try dsimp only at hSw); go_simp; try with_reducible rfl)
  try simp only [Act.put, List.setIfInBounds_toArray, List.set_cons_zero, List.set_cons_succ]
  refine wpAnyH_ready (rs := [5]) (by kernel_rfl) (by simp) ?_
  refine AllReadyH.cons (o := ⟨some 10, _, _, _, _, _⟩) rfl (fun K hK => ?_) ?_
  rotate_left 1
  · exact AllReadyH.nil
  go_simp
  go_at_call 76; refine (QK.out _ (S3_.2.2.1.wide S3_.2.2.2.size)).mono ?_; rintro e w4 ⟨Ak, ck, rfl, hR_, hb3_⟩
  have S4_ := HO _ _ S3_ hb3_
  have hm := hm_common Ak n ck
  go_wp2_with fail
  refine hK.out _ _ ⟨S4_.1.1, S4_.2.1.1, S4_.2.1.2⟩ (fun hHeld => ?_)
  clear hK K
  refine wpAnyH_ready (rs := [7]) (by kernel_rfl) (by simp) ?_
  refine AllReadyH.cons (o := ⟨some 12, _, _, _, _, _⟩) rfl (fun K hK => ?_) ?_
  rotate_left 1
  · exact AllReadyH.nil
  go_simp
  go_at_call 155; refine (QH.out Ak ck _ _ hR_).mono ?_; rintro e w5 ⟨rfl, hb4_⟩
  have S5_ := HO _ _ S4_ hb4_
  go_wp2_with fail
  refine hK.out _ _ ⟨S5_.1.1, S5_.2.1.1, S5_.2.1.2⟩ (fun hHeld => ?_)
  clear hK K
  refine wpAnyH_take (i := 8) (oi := ⟨some 13, _, _, _, _, _⟩) (v := ?_) rfl (by kernel_rfl) (by kernel_rfl) (by kernel_rfl) (fun _ _ _ h => h) (Or.inl ⟨by rfl, ?_⟩) (by assumption) ?_
  rotate_left 1
  · (intro w hSw; (try dsimp only at hSw); go_simp; try with_reducible rfl)
  try simp only [Act.put, List.setIfInBounds_toArray, List.set_cons_zero, List.set_cons_succ]
  refine wpAnyH_take (i := 9) (oi := ⟨some 4, _, _, _, _, _⟩) (v := ?_) rfl (by kernel_rfl) (by kernel_rfl) (by kernel_rfl) (fun _ _ _ h => h) (Or.inl ⟨by rfl, ?_⟩) (by assumption) ?_
  rotate_left 1
  · (intro w hSw; (try dsimp only at hSw); go_simp; try with_reducible rfl)
  try simp only [Act.put, List.setIfInBounds_toArray, List.set_cons_zero, List.set_cons_succ]
  refine wpAnyH_done (by kernel_rfl) ?_ _
  go_wp2_with fail
  go_ret
  exact ⟨rfl, S5_.2.2.2⟩

theorem kern_filt {ps l : List (Int × Int)} : ∀ {m : Nat}, (∀ k, k < m → inB ps (pt l k).1 (pt l k).2 = true) → kernTo ps l m = filtTo (fun j => kernM ps (pt l j)) l m
  | 0, _ => rfl
  | m + 1, h => by
    unfold kernTo filtTo
    rw [kern_filt (fun k hk => h k (by omega)), kern_in (h m (by omega))]

set_option maxRecDepth 100000 in
set_option maxHeartbeats 1600000 in
theorem pointsIn (A : Option Addr) (n cap : Nat) (Ak : Option Addr) (ck b : Nat) (w : World) (ps : List (Int × Int)) (hl : ps.length = n) (hn : n ≤ 1048576) (hp : PtsAt w w.heap.size A ps)
    (hR : w.ownsRow b 75 1 (.slice Ak n ck) n (sideTo ps n)) :
    Calls Try.prog 52 #[.agg #[.slice A n cap], .iface 101 (.slice Ak n ck)] w (GivesC 51 2 w (kernL ps).length (cellsP (kernL ps))) := by
  have hmf : ∀ (fn : Fn) (first cap : Array Value) (w : World), (Instr.makeFunc fn first cap).run Try.prog w = .ok (.func fn first cap) w := fun _ _ _ _ => rfl
  have hin : ∀ k, k < (floorL ps).length → inB ps (pt (floorL ps) k).1 (pt (floorL ps) k).2 = true := fun k hk => floorL_in (pt_mem hk)
  have HF : kernL ps = filtTo (fun j => kernM ps (pt (floorL ps) j)) (floorL ps) (floorL ps).length := kern_filt hin
  rw [HF]
  have QF : Hid (∀ w hp, _) := Lib.hid fun w hp => FloorImpl.floorPoints A n cap w ps hl hn hp
  have QH : Hid (∀ k (_ : k < (floorL ps).length) (w : World) (_ : w.ownsRow b 75 1 (.slice Ak n ck) n (sideTo ps n)), _) := Lib.hid fun k hk w hR =>
    commonHas Ak n ck b (pt (floorL ps) k).1 (pt (floorL ps) k).2 w ps hl hn (smAll_of (roomB_yes (inB_parts (hin k hk)).1).2.1) (okP_sm (inB_parts (hin k hk)).2) hR
  have hle := floorL_le ps
  clear hin HF
  generalize floorL ps = l at *
  obtain ⟨m, hm⟩ : ∃ m, l.length = m := ⟨_, rfl⟩
  unfold GivesC at QF
  rw [hm] at QF hle QH ⊢
  have hmc := hm_common Ak n ck
  go_enter Try.func52, Try.ntmps52
  go_wp2_with fail
  have X0 := Pts.boxR w (.slice A n cap) 29 (k := w.heap.size) (by simp)
  have b0 := PointOk.below1 w (Obj.cells #[.slice A n cap] 29)
  have HO : ∀ W W' : World, (Pts.BoxR W (w.heap.size) (.slice A n cap) ∧ PtsAt W w.heap.size A ps ∧ W.ownsRow b 75 1 (.slice Ak n ck) n (sideTo ps n) ∧ Below w.heap.size w W) → Below W.heap.size W W' → (Pts.BoxR W' (w.heap.size) (.slice A n cap) ∧ PtsAt W' w.heap.size A ps ∧ W'.ownsRow b 75 1 (.slice Ak n ck) n (sideTo ps n) ∧ Below w.heap.size w W') := fun W W' ⟨h0, x0, x1, hb⟩ h => ⟨h0.later h, x0.later (h.mono hb.size), own_below x1 h, hb.trans (h.mono hb.size)⟩
  have hz0_ : Hid (((w.alloc (Obj.cells #[.slice A n cap] 29))).heap.size = w.heap.size + 1) := Lib.hid (by simp)
  have Y0 : PtsAt ((w.alloc (Obj.cells #[.slice A n cap] 29))) w.heap.size A ps := hp.later b0
  have Y1 : ((w.alloc (Obj.cells #[.slice A n cap] 29))).ownsRow b 75 1 (.slice Ak n ck) n (sideTo ps n) := own_below hR b0
  generalize (w.alloc (Obj.cells #[.slice A n cap] 29)) = w0 at X0 Y0 Y1 b0 hz0_ ⊢
  have S0 := (⟨X0, Y0, Y1, b0⟩ : Pts.BoxR w0 (w.heap.size) (.slice A n cap) ∧ PtsAt w0 w.heap.size A ps ∧ w0.ownsRow b 75 1 (.slice Ak n ck) n (sideTo ps n) ∧ Below w.heap.size w w0)
  clear X0 Y0 Y1 b0
  obtain ⟨⟨_, _⟩, _, _, _⟩ := id S0
  have S0_ := HO _ _ S0 ((Below.refl _ _).drew)
  have HS0_ : w0.drew.cell? ⟨w.heap.size, 0, none⟩ = some (.slice A n cap) := S0_.1.1
  refine wp_region_held_drew (S := fun W => W.cell? ⟨w.heap.size, 0, none⟩ = some (.slice A n cap)) (by kernel_rfl) HS0_ (fun hHeld => ?_)
  refine wpAnyH_take (i := 0) (oi := ⟨some 5, _, _, _, _, _⟩) (v := ?_) rfl (by kernel_rfl) (by kernel_rfl) (by kernel_rfl) (fun _ _ _ h => h) (Or.inl ⟨by rfl, ?_⟩) (by assumption) ?_
  rotate_left 1
  · (intro w hSw; (try dsimp only at hSw); go_simp; try with_reducible rfl)
  try simp only [Act.put, List.setIfInBounds_toArray, List.set_cons_zero, List.set_cons_succ]
  refine wpAnyH_take (i := 2) (oi := ⟨some 7, _, _, _, _, _⟩) (v := ?_) rfl (by kernel_rfl) (by kernel_rfl) (by kernel_rfl) (fun _ _ _ h => h) (Or.inl ⟨by rfl, ?_⟩) (by assumption) ?_
  rotate_left 1
  · (intro w hSw; (try dsimp only at hSw); go_simp; try with_reducible rfl)
  try simp only [Act.put, List.setIfInBounds_toArray, List.set_cons_zero, List.set_cons_succ]
  refine wpAnyH_take (i := 3) (oi := ⟨some 8, _, _, _, _, _⟩) (v := ?_) rfl (by kernel_rfl) (by kernel_rfl) (by kernel_rfl) (fun _ _ _ h => h) (Or.inl ⟨by rfl, ?_⟩) (by assumption) ?_
  rotate_left 1
  · (intro w hSw; (try dsimp only at hSw); go_simp; try with_reducible rfl)
  try simp only [Act.put, List.setIfInBounds_toArray, List.set_cons_zero, List.set_cons_succ]
  refine wpAnyH_take (i := 4) (oi := ⟨some 9, _, _, _, _, _⟩) (v := ?_) rfl (by kernel_rfl) (by kernel_rfl) (by kernel_rfl) (fun _ _ _ h => h) (Or.inl ⟨by rfl, ?_⟩) (by assumption) ?_
  rotate_left 1
  · (intro w hSw; (try dsimp only at hSw); go_simp; try with_reducible rfl)
  try simp only [Act.put, List.setIfInBounds_toArray, List.set_cons_zero, List.set_cons_succ]
  refine wpAnyH_ready (rs := [1]) (by kernel_rfl) (by simp) ?_
  refine AllReadyH.cons (o := ⟨some 6, _, _, _, _, _⟩) rfl (fun K hK => ?_) ?_
  rotate_left 1
  · exact AllReadyH.nil
  go_simp
  go_at_call 66; refine (QF.out _ (S0_.2.1.wide S0_.2.2.2.size)).mono ?_; rintro e w3 ⟨Al, cl, rfl, HL, hb2_⟩
  have S3_ := HO _ _ S0_ hb2_
  have HL := Lib.hid (pts_own HL)
  go_wp2_with fail
  refine hK.out _ _ S3_.1.1 (fun hHeld => ?_)
  clear hK K
  refine wpAnyH_ready (rs := [5]) (by kernel_rfl) (by simp) ?_
  refine AllReadyH.cons (o := ⟨some 10, _, _, _, _, _⟩) rfl (fun K hK => ?_) ?_
  rotate_left 1
  · exact AllReadyH.nil
  go_simp
  go_at_call 65; refine (filteredM 155 101 (.slice Ak n ck) (fun j => kernM ps (pt l j)) Al m cl _ l hm hle HL.out Try.call155 hmc (fun W k hk hb => QH.out k hk W (own_below S3_.2.2.1 hb))).mono ?_; rintro e w5 ⟨A5, c5, rfl, hown, hb4_⟩
  have S5_ := HO _ _ S3_ hb4_
  have hown := Lib.hid (own_base hown (b' := w.heap.size) S3_.2.2.2.size)
  go_wp2_with fail
  refine hK.out _ _ S5_.1.1 (fun hHeld => ?_)
  clear hK K
  refine wpAnyH_take (i := 6) (oi := ⟨some 4, _, _, _, _, _⟩) (v := ?_) rfl (by kernel_rfl) (by kernel_rfl) (by kernel_rfl) (fun _ _ _ h => h) (Or.inl ⟨by rfl, ?_⟩) (by assumption) ?_
  rotate_left 1
  · (intro w hSw; (try dsimp only at hSw); go_simp; try with_reducible rfl)
  try simp only [Act.put, List.setIfInBounds_toArray, List.set_cons_zero, List.set_cons_succ]
  refine wpAnyH_done (by kernel_rfl) ?_ _
  go_wp2_with fail
  go_ret
  exact ⟨A5, c5, rfl, hown.out, S5_.2.2.2⟩

set_option maxRecDepth 100000 in
set_option maxHeartbeats 1600000 in
theorem kernelPoints (A : Option Addr) (n cap : Nat) (w : World) (ps : List (Int × Int)) (hl : ps.length = n) (hn : n ≤ 1048576) (hp : PtsAt w w.heap.size A ps) :
    Calls Try.prog 45 #[.agg #[.slice A n cap]] w (GivesC 51 2 w (kernL ps).length (cellsP (kernL ps))) := by
  have QK : Hid (∀ w hp, _) := Lib.hid fun w hp => kernelOf A n cap w ps hl hn hp
  have QP : Hid (∀ Ak ck b w hp hR, _) := Lib.hid fun Ak ck b w hp hR => pointsIn A n cap Ak ck b w ps hl hn hp hR
  generalize kernL ps = l at *
  unfold GivesC at QP
  clear hl
  go_enter Try.func45, Try.ntmps45
  go_wp2_with fail
  have X0 := Pts.boxR w (.slice A n cap) 29 (k := w.heap.size) (by simp)
  have b0 := PointOk.below1 w (Obj.cells #[.slice A n cap] 29)
  have HO : ∀ W W' : World, (Pts.BoxR W (w.heap.size) (.slice A n cap) ∧ PtsAt W w.heap.size A ps ∧ Below w.heap.size w W) → Below W.heap.size W W' → (Pts.BoxR W' (w.heap.size) (.slice A n cap) ∧ PtsAt W' w.heap.size A ps ∧ Below w.heap.size w W') := fun W W' ⟨h0, x0, hb⟩ h => ⟨h0.later h, x0.later (h.mono hb.size), hb.trans (h.mono hb.size)⟩
  have hz0_ : Hid (((w.alloc (Obj.cells #[.slice A n cap] 29))).heap.size = w.heap.size + 1) := Lib.hid (by simp)
  have Y0 : PtsAt ((w.alloc (Obj.cells #[.slice A n cap] 29))) w.heap.size A ps := hp.later b0
  generalize (w.alloc (Obj.cells #[.slice A n cap] 29)) = w0 at X0 Y0 b0 hz0_ ⊢
  have S0 := (⟨X0, Y0, b0⟩ : Pts.BoxR w0 (w.heap.size) (.slice A n cap) ∧ PtsAt w0 w.heap.size A ps ∧ Below w.heap.size w w0)
  clear X0 Y0 b0
  obtain ⟨⟨_, _⟩, _, _⟩ := id S0
  have S0_ := HO _ _ S0 ((Below.refl _ _).drew)
  have HS0_ : w0.drew.cell? ⟨w.heap.size, 0, none⟩ = some (.slice A n cap) := S0_.1.1
  refine wp_region_held_drew (S := fun W => W.cell? ⟨w.heap.size, 0, none⟩ = some (.slice A n cap)) (by kernel_rfl) HS0_ (fun hHeld => ?_)
  refine wpAnyH_take (i := 0) (oi := ⟨some 3, _, _, _, _, _⟩) (v := ?_) rfl (by kernel_rfl) (by kernel_rfl) (by kernel_rfl) (fun _ _ _ h => h) (Or.inl ⟨by rfl, ?_⟩) (by assumption) ?_
  rotate_left 1
  · (intro w hSw; (try dsimp only at hSw); go_simp; try with_reducible rfl)
  try simp only [Act.put, List.setIfInBounds_toArray, List.set_cons_zero, List.set_cons_succ]
  refine wpAnyH_take (i := 1) (oi := ⟨some 4, _, _, _, _, _⟩) (v := ?_) rfl (by kernel_rfl) (by kernel_rfl) (by kernel_rfl) (fun _ _ _ h => h) (Or.inl ⟨by rfl, ?_⟩) (by assumption) ?_
  rotate_left 1
  · (intro w hSw; (try dsimp only at hSw); go_simp; try with_reducible rfl)
  try simp only [Act.put, List.setIfInBounds_toArray, List.set_cons_zero, List.set_cons_succ]
  refine wpAnyH_ready (rs := [2]) (by kernel_rfl) (by simp) ?_
  refine AllReadyH.cons (o := ⟨some 5, _, _, _, _, _⟩) rfl (fun K hK => ?_) ?_
  rotate_left 1
  · exact AllReadyH.nil
  go_simp
  go_at_call 76; refine (QK.out _ (S0_.2.1.wide S0_.2.2.size)).mono ?_; rintro e w3 ⟨Ak, ck, rfl, hR_, hb2_⟩
  have S3_ := HO _ _ S0_ hb2_
  go_wp2_with fail
  refine hK.out _ _ S3_.1.1 (fun hHeld => ?_)
  clear hK K
  refine wpAnyH_ready (rs := [3]) (by kernel_rfl) (by simp) ?_
  refine AllReadyH.cons (o := ⟨some 6, _, _, _, _, _⟩) rfl (fun K hK => ?_) ?_
  rotate_left 1
  · exact AllReadyH.nil
  go_simp
  go_at_call 52; refine (QP.out Ak ck _ _ (S3_.2.1.wide S3_.2.2.size) hR_).mono ?_; rintro e w5 ⟨A5, c5, rfl, hown, hb4_⟩
  have S5_ := HO _ _ S3_ hb4_
  have hown := Lib.hid (own_base hown (b' := w.heap.size) S3_.2.2.size)
  go_wp2_with fail
  refine hK.out _ _ S5_.1.1 (fun hHeld => ?_)
  clear hK K
  refine wpAnyH_take (i := 4) (oi := ⟨some 2, _, _, _, _, _⟩) (v := ?_) rfl (by kernel_rfl) (by kernel_rfl) (by kernel_rfl) (fun _ _ _ h => h) (Or.inl ⟨by rfl, ?_⟩) (by assumption) ?_
  rotate_left 1
  · (intro w hSw; (try dsimp only at hSw); go_simp; try with_reducible rfl)
  try simp only [Act.put, List.setIfInBounds_toArray, List.set_cons_zero, List.set_cons_succ]
  refine wpAnyH_done (by kernel_rfl) ?_ _
  go_wp2_with fail
  go_ret
  exact ⟨A5, c5, rfl, hown.out, S5_.2.2⟩

set_option maxRecDepth 100000 in
theorem isStar (A : Option Addr) (n cap : Nat) (w : World) (ps : List (Int × Int)) (hl : ps.length = n) (hn : n ≤ 1048576) (hp : PtsAt w w.heap.size A ps) :
    Calls Try.prog 47 #[.agg #[.slice A n cap]] w fun e w' => e = .returned (.bool (decide (0 < (kernL ps).length))) ∧ Below w.heap.size w w' := by
  have Q : Hid (∀ w hp, _) := Lib.hid fun w hp => kernelPoints A n cap w ps hl hn hp
  unfold GivesC at Q
  generalize kernL ps = l at *
  generalize cellsP l = cs at *
  generalize l.length = m at *
  clear hl
  go_enter Try.func47, Try.ntmps47
  go_wp2_with fail
  have X0 := Pts.boxR w (.slice A n cap) 29 (k := w.heap.size) (by simp)
  have b0 := PointOk.below1 w (Obj.cells #[.slice A n cap] 29)
  have HO : ∀ W W' : World, (Pts.BoxR W (w.heap.size) (.slice A n cap) ∧ PtsAt W w.heap.size A ps ∧ Below w.heap.size w W) → Below W.heap.size W W' → (Pts.BoxR W' (w.heap.size) (.slice A n cap) ∧ PtsAt W' w.heap.size A ps ∧ Below w.heap.size w W') := fun W W' ⟨h0, x0, hb⟩ h => ⟨h0.later h, x0.later (h.mono hb.size), hb.trans (h.mono hb.size)⟩
  have hz0_ : Hid (((w.alloc (Obj.cells #[.slice A n cap] 29))).heap.size = w.heap.size + 1) := Lib.hid (by simp)
  have Y0 : PtsAt ((w.alloc (Obj.cells #[.slice A n cap] 29))) w.heap.size A ps := hp.later b0
  generalize (w.alloc (Obj.cells #[.slice A n cap] 29)) = w0 at X0 Y0 b0 hz0_ ⊢
  have S0 := (⟨X0, Y0, b0⟩ : Pts.BoxR w0 (w.heap.size) (.slice A n cap) ∧ PtsAt w0 w.heap.size A ps ∧ Below w.heap.size w w0)
  clear X0 Y0 b0
  obtain ⟨⟨_, _⟩, _, _⟩ := id S0
  refine (Q.out _ (S0.2.1.wide S0.2.2.size)).mono ?_
  rintro e w2 ⟨A2, c2, rfl, _, hb_⟩
  replace S0 := HO _ _ S0 hb_
  clear hb_ Q
  go_wp2_with fail
  go_ret
  exact ⟨ret_bool (by first | rfl | (rw [Bool.eq_iff_iff]; simp)), S0.2.2⟩

end Go.Proofs.Ytkoogklakacphac.KernImpl


/-
  What the landed AreWitnesses does, as a contract: what it answers; new memory alone is written.
-/
import Derived.Test.YtgampbjdoncdoaaWitMath
import Derived.Test.YtgampbjdoncdoaaWitFree
import Derived.Test.YtgampbjdoncdoaaInImpl
import Derived.Test.YtgampbjdoncdoaaFacts
import Derived.Laws.OwnMore
namespace Go.Proofs.Ytgampbjdoncdoaa.WitLand
open Go.RowKit Own PointMath WallMath RoomMath Pts Blk Ints AreaMath PlaceMath FloorMath LineMath CutsMath SightMath KernMath WitMath DiagMath IntSet WitFree JoinMath FirstMath
open PointOk (ret_bool ret_i64 below1 below2 below3)

def allF (f : Int → Bool) (l : List Int) : Bool := !(List.range l.length).any fun k => !f (l.getD k 0)
theorem allF_yes {f : Int → Bool} {l : List Int} (h : allF f l = true) : ∀ x, x ∈ l → f x = true := by
  intro x hx
  obtain ⟨k, hk, rfl⟩ := List.getElem_of_mem hx
  unfold allF at h
  rw [Bool.not_eq_true', List.any_eq_false] at h
  have := h k (List.mem_range.2 hk)
  rw [List.getD_eq_getElem?_getD, List.getElem?_eq_getElem hk] at this
  simpa using this
theorem allF_no {f : Int → Bool} {l : List Int} (h : allF f l = false) : ∃ x, x ∈ l ∧ f x = false := by
  unfold allF at h
  rw [Bool.not_eq_false', List.any_eq_true] at h
  obtain ⟨k, hk, h⟩ := h
  have hk := List.mem_range.1 hk
  rw [List.getD_eq_getElem?_getD, List.getElem?_eq_getElem hk] at h
  exact ⟨l[k], List.getElem_mem hk, by simpa using h⟩
theorem ints_own {W : World} {b e n cap : Nat} {A : Option Addr} {l : List Int} (h : W.ownsRow b e 1 (.slice A n cap) n (icells l)) : IntsAt W W.heap.size A l := by
  intro j hj
  have hn : l.length = n := by have := h.1; simpa [icells] using this
  obtain ⟨g, hA, _, hg, h1, _⟩ := own_cell h (by omega) (icells_at hj)
  refine ⟨_, hA, hg, ?_⟩
  by_cases hj0 : j = 0
  · subst hj0; exact h1
  · simpa [Addr.add, hj0] using h1
theorem corn_wf {ps : List (Int × Int)} {a : Int × Int} {n : Nat} (hn : n ≤ 1000) {k : Nat} (hk : k < (cornTo ps a n).length) : (Lit.int .i64 ((cornTo ps a n).getD k 0)).wf = true := by
  have hm : (cornTo ps a n).getD k 0 ∈ cornTo ps a n := by
    rw [List.getD_eq_getElem?_getD, List.getElem?_eq_getElem hk]
    exact List.getElem_mem hk
  obtain ⟨j, hj, e, _⟩ := mem_corn.1 hm
  rw [e]
  exact wf_small (by omega)

set_option maxRecDepth 100000 in
set_option maxHeartbeats 3200000 in
theorem takeCorners (A : Option Addr) (n cap b nn : Nat) (f : Int → Bool) (ax ay : Int) (w : World) (ps : List (Int × Int)) (hl : ps.length = n) (ha : inB ps ax ay = true) (hp : PtsAt w w.heap.size A ps) (hs : SetAt w b nn f) (base : Nat) (hbase : base ≤ b) :
    Calls Try.prog 105 #[.agg #[.slice A n cap], .map (some b), .agg #[.int .i64 ax, .int .i64 ay]] w fun e w' => e = .returned (.bool (allF f (cornTo ps (ax, ay) n))) ∧ SetAt w' b nn (if allF f (cornTo ps (ax, ay) n) then lessW f (cornTo ps (ax, ay) n) (cornTo ps (ax, ay) n).length else f) ∧ Below base w w' := by
  have hbl := hs.lt
  have hr := (roomB_yes (inB_parts ha).1).1
  have HW : Hid (∀ k, k < (cornTo ps (ax, ay) n).length → (Lit.int .i64 ((cornTo ps (ax, ay) n).getD k 0)).wf = true) := Lib.hid (fun k hk => corn_wf (by omega) hk)
  have hLn := cornTo_len ps (ax, ay) n
  have hn2 : n ≤ 1048576 := by omega
  have QC : Hid (∀ w hp, _) := Lib.hid fun w hp => SeeImpl.corners A n cap ax ay w ps hl ha hp
  generalize cornTo ps (ax, ay) n = L at *
  obtain ⟨al, hal⟩ : ∃ al, allF f L = al := ⟨_, rfl⟩
  have hL2 : L.length ≤ 1048576 := by omega
  have hal2 : Hid (((List.range L.length).any fun k => !f (L.getD k 0)) = !al) := Lib.hid (by rw [← hal]; unfold allF; simp)
  rw [hal]
  clear hal hl ha hr
  go_enter Try.func105, Try.ntmps105
  go_wp2_with fail
  have X0 := ((Pts.boxR w (.slice A n cap) 63 (k := w.heap.size) (by simp)).alloc (Obj.cells #[(Value.map<|some<|b)] 129)).alloc (Obj.cells #[.int .i64 ax, .int .i64 ay] 65)
  have X1 := (Blk.Holds.box (w.alloc (Obj.cells #[.slice A n cap] 63)) #[(Value.map<|some<|b)] 129 (k := w.heap.size + 1) (by simp)).alloc (Obj.cells #[.int .i64 ax, .int .i64 ay] 65)
  have X2 := PointOk.box1 ((w.alloc (Obj.cells #[.slice A n cap] 63)).alloc (Obj.cells #[(Value.map<|some<|b)] 129)) ax ay 65 (k := w.heap.size + 1 + 1) (by simp)
  have b0 := PointOk.below3 w (Obj.cells #[.slice A n cap] 63) (Obj.cells #[(Value.map<|some<|b)] 129) (Obj.cells #[.int .i64 ax, .int .i64 ay] 65)
  have HO : ∀ W W' : World, (Pts.BoxR W (w.heap.size) (.slice A n cap) ∧ Blk.Holds W (w.heap.size + 1) #[(Value.map<|some<|b)] 129 ∧ PointOk.Box W (w.heap.size + 1 + 1) ax ay ∧ PtsAt W w.heap.size A ps ∧ Hid (SetAt W b nn f) ∧ Below w.heap.size w W) → Below W.heap.size W W' → (Pts.BoxR W' (w.heap.size) (.slice A n cap) ∧ Blk.Holds W' (w.heap.size + 1) #[(Value.map<|some<|b)] 129 ∧ PointOk.Box W' (w.heap.size + 1 + 1) ax ay ∧ PtsAt W' w.heap.size A ps ∧ Hid (SetAt W' b nn f) ∧ Below w.heap.size w W') := fun W W' ⟨h0, h1, h2, x0, x1, hb⟩ h => ⟨h0.later h, h1.later h, h2.later h, x0.later (h.mono hb.size), Lib.hid (x1.out.later h), hb.trans (h.mono hb.size)⟩
  have hz0_ : Hid (((((w.alloc (Obj.cells #[.slice A n cap] 63)).alloc (Obj.cells #[(Value.map<|some<|b)] 129)).alloc (Obj.cells #[.int .i64 ax, .int .i64 ay] 65))).heap.size = w.heap.size + 1 + 1 + 1) := Lib.hid (by simp)
  have Y0 : PtsAt ((((w.alloc (Obj.cells #[.slice A n cap] 63)).alloc (Obj.cells #[(Value.map<|some<|b)] 129)).alloc (Obj.cells #[.int .i64 ax, .int .i64 ay] 65))) w.heap.size A ps := hp.later b0
  have Y1 : Hid (SetAt ((((w.alloc (Obj.cells #[.slice A n cap] 63)).alloc (Obj.cells #[(Value.map<|some<|b)] 129)).alloc (Obj.cells #[.int .i64 ax, .int .i64 ay] 65))) b nn f) := Lib.hid (hs.later b0)
  generalize (((w.alloc (Obj.cells #[.slice A n cap] 63)).alloc (Obj.cells #[(Value.map<|some<|b)] 129)).alloc (Obj.cells #[.int .i64 ax, .int .i64 ay] 65)) = w0 at X0 X1 X2 Y0 Y1 b0 hz0_ ⊢
  have S0 := (⟨X0, X1, X2, Y0, Y1, b0⟩ : Pts.BoxR w0 (w.heap.size) (.slice A n cap) ∧ Blk.Holds w0 (w.heap.size + 1) #[(Value.map<|some<|b)] 129 ∧ PointOk.Box w0 (w.heap.size + 1 + 1) ax ay ∧ PtsAt w0 w.heap.size A ps ∧ Hid (SetAt w0 b nn f) ∧ Below w.heap.size w w0)
  clear X0 X1 X2 Y0 Y1 b0
  obtain ⟨⟨_, _⟩, _, ⟨_, _⟩, _, _, _⟩ := id S0
  have hsz1 := S0.2.2.2.2.2.size
  refine (QC.out _ (S0.2.2.2.1.wide hsz1)).mono ?_
  rintro e w1 ⟨A1, c1, rfl, hown, hb_⟩
  replace S0 := HO _ _ S0 hb_
  replace hown := Lib.hid (own_base hown hsz1)
  clear hb_ hsz1 QC
  obtain ⟨⟨_, _⟩, _, ⟨_, _⟩, _, _, _⟩ := id S0
  have hC1 := Lib.hid S0.2.1
  go_wp2_with fail
  refine (InNumImpl.containsFunc 147 #[.pointer (some ⟨w.heap.size + 1, 0, none⟩)] (fun k => !f (L.getD k 0)) A1 L.length c1 _ L rfl hL2 (ints_own hown.out) Try.call147 (fun W k hk hb => taken (L.getD k 0) (w.heap.size + 1) b nn f W (S0.2.1.later hb) (S0.2.2.2.2.1.out.later hb) (HW.out k hk))).mono ?_
  rintro e w2 ⟨rfl, hb_⟩
  replace S0 := HO _ _ S0 hb_
  replace hown := Lib.hid (own_below hown.out hb_)
  clear hb_ hC1
  obtain ⟨⟨_, _⟩, _, ⟨_, _⟩, _, _, _⟩ := id S0
  rw [hal2.out]
  clear hal2
  have hB2 : Below base w w2 := S0.2.2.2.2.2.mono (Nat.le_of_lt (Nat.lt_of_le_of_lt hbase hbl))
  have hszw := S0.2.2.2.2.2.size
  have hset := S0.2.2.2.2.1
  have hm2 := S0.2.1
  cases al
  · have hset2 : Hid (SetAt w2 b nn (if false = true then lessW f L L.length else f)) := Lib.hid (by simpa using hset.out)
    clear hset HW
    go_wp2_with fail
    go_ret
    exact ⟨rfl, hset2.out, hB2⟩
  clear S0 HO
  go_wp2_with fail
  go_loopw [18] (fun q wr => ∃ u : Nat, u ≤ L.length ∧ q = .int .i64 u ∧ Hid (SetAt wr b nn (lessW f L u)) ∧ Hid (wr.ownsRow w.heap.size 3 1 (.slice A1 L.length c1) L.length (icells L)) ∧ Holds wr (w.heap.size + 1) #[.map (some b)] 129 ∧ w.heap.size ≤ wr.heap.size ∧ Below base w wr)
    (fun q _ => L.length - (intOf q).toNat)
  case atStart => exact ⟨0, Nat.zero_le _, rfl, hset, hown, hm2, hszw, hB2⟩
  case round =>
    clear hset hown hm2 hszw hB2
    obtain ⟨u, huL, rfl, hset, hown, hm2, hszw, hB2⟩ := hrel
    obtain ⟨_, _⟩ := hm2.one
    by_cases hlt : u < L.length
    · have hu1 : (u : Int) < (L.length : Int) := by omega
      have hu0 : (0 : Int) ≤ (u : Int) := by omega
      have uu : IntKind.i64.wrap ((u : Int) + 1) = (u : Int) + 1 := IntWalk.i64_in _ (by omega)
      have hL : Hid ((fun p => lessW f L u p && !decide (p = L.getD u 0)) = lessW f L (u + 1)) := Lib.hid rfl
      have wx := HW.out u hlt
      have p0 := at_d (zs := L) (k := u) hlt
      obtain ⟨x, hx⟩ : ∃ x, L.getD u 0 = x := ⟨_, rfl⟩
      rw [hx] at p0 wx hL
      obtain ⟨ad, eA, bA, pA⟩ := (ints_own hown.out).get p0
      subst eA
      obtain ⟨_, _⟩ := id pA
      generalize hlen : L.length = len at *
      clear p0 hx pA
      go_wp2_with (at_delete; refine wpList_delete_set _ rfl _ _ 129 _ rfl rfl Try.underlying129 b nn _ rfl hset.out x rfl wx ?_)
      intro w5 h5 hg5
      have hne : (some b : Option Nat) ≠ some (w.heap.size + 1) := fun e => by injection e with e; omega
      have hm5 : Holds w5 (w.heap.size + 1) #[.map (some b)] 129 := (hg5.block _ hm2.lt (fun e => hne e.symm)).trans hm2
      have hown5 : Hid (w5.ownsRow w.heap.size 3 1 (.slice (some ad) len c1) len (icells L)) := Lib.hid (kept_ne hown.out hg5 (fun k hk => by have := (hown.out.lt k hk).1; omega))
      have hB5 : Below base w w5 := hB2.grown hg5 (by omega) (fun i hi => by injection hi with hi; omega)
      have hsz5 : w.heap.size ≤ w5.heap.size := Nat.le_trans hszw hg5.size
      rw [hL.out] at h5
      replace h5 := Lib.hid h5
      clear hset hB2 hg5 hown hL hm2 hne
      go_wp2_with fail
      first
        | exact ⟨⟨u + 1, by omega, by go_num, h5, hown5, hm5, hsz5, hB5⟩, by simp [intOf]; omega⟩
        | (go_roundw <;> first | exact ⟨u + 1, by omega, by go_num, h5, hown5, hm5, hsz5, hB5⟩ | (simp [intOf]; omega))
    · obtain rfl : L.length = u := by omega
      have hset2 : Hid (SetAt wr b nn (if true = true then lessW f L L.length else f)) := Lib.hid (by simpa using hset.out)
      clear hset
      go_wp2_with fail
      go_ret
      exact ⟨rfl, hset2.out, hB2⟩

theorem upF_free {ps qs : List (Int × Int)} {n : Nat} (hl : ps.length = n) : upF n = freeW ps qs 0 := by
  subst hl
  funext x
  rw [freeW_zero]; rfl

set_option maxRecDepth 100000 in
set_option maxHeartbeats 4000000 in
theorem areWitnesses (A : Option Addr) (n cap : Nat) (B : Option Addr) (m cb : Nat) (w : World) (ps : List (Int × Int)) (hl : ps.length = n) (hn : n ≤ 1048576) (hp : PtsAt w w.heap.size A ps) (qs : List (Int × Int)) (hl2 : qs.length = m) (hn2 : m ≤ 1048576) (hq : PtsAt w w.heap.size B qs) (_hc : m ≤ cb) :
    Calls Try.prog 56 #[.agg #[.slice A n cap], .slice B m cb] w fun e w' => e = .returned (.bool (witB ps qs)) ∧ Below w.heap.size w w' := by
  obtain ⟨r, hr⟩ : ∃ r, witB ps qs = r := ⟨_, rfl⟩
  have HR := Lib.hid hr
  rw [hr]
  clear hr
  have HE : Hid (r = (decide (m ≤ 10) && allIn ps qs && witM ps qs)) := Lib.hid (by rw [← HR.out, ← hl2]; unfold witB; cases allIn ps qs <;> simp)
  have QA : Hid (∀ w hp hq, _) := Lib.hid fun w hp hq => InImpl.areIn A n cap B m cb w ps hl hn hp qs hl2 hn2 hq
  clear HR
  by_cases h10 : m ≤ 10
  rotate_left
  · have E : Hid (r = false) := Lib.hid (by rw [HE.out, decide_eq_false h10]; rfl)
    have g10 : (10 : Int) < (m : Int) := by omega
    clear hl hl2 HE
    go_enter Try.func56, Try.ntmps56
    go_wp2_with fail
    have X0 := Pts.boxR w (.slice A n cap) 63 (k := w.heap.size) (by simp)
    have b0 := PointOk.below1 w (Obj.cells #[.slice A n cap] 63)
    have HO : ∀ W W' : World, (Pts.BoxR W (w.heap.size) (.slice A n cap) ∧ PtsAt W w.heap.size A ps ∧ PtsAt W w.heap.size B qs ∧ Below w.heap.size w W) → Below W.heap.size W W' → (Pts.BoxR W' (w.heap.size) (.slice A n cap) ∧ PtsAt W' w.heap.size A ps ∧ PtsAt W' w.heap.size B qs ∧ Below w.heap.size w W') := fun W W' ⟨h0, x0, x1, hb⟩ h => ⟨h0.later h, x0.later (h.mono hb.size), x1.later (h.mono hb.size), hb.trans (h.mono hb.size)⟩
    have hz0_ : Hid (((w.alloc (Obj.cells #[.slice A n cap] 63))).heap.size = w.heap.size + 1) := Lib.hid (by simp)
    have Y0 : PtsAt ((w.alloc (Obj.cells #[.slice A n cap] 63))) w.heap.size A ps := hp.later b0
    have Y1 : PtsAt ((w.alloc (Obj.cells #[.slice A n cap] 63))) w.heap.size B qs := hq.later b0
    generalize (w.alloc (Obj.cells #[.slice A n cap] 63)) = w0 at X0 Y0 Y1 b0 hz0_ ⊢
    have S0 := (⟨X0, Y0, Y1, b0⟩ : Pts.BoxR w0 (w.heap.size) (.slice A n cap) ∧ PtsAt w0 w.heap.size A ps ∧ PtsAt w0 w.heap.size B qs ∧ Below w.heap.size w w0)
    clear X0 Y0 Y1 b0
    obtain ⟨⟨_, _⟩, _, _, _⟩ := id S0
    go_ret
    exact ⟨ret_bool E.out.symm, S0.2.2.2⟩
  have g10 : ¬ (10 : Int) < (m : Int) := by omega
  go_enter Try.func56, Try.ntmps56
  go_wp2_with fail
  have X0 := Pts.boxR w (.slice A n cap) 63 (k := w.heap.size) (by simp)
  have b0 := PointOk.below1 w (Obj.cells #[.slice A n cap] 63)
  have HO : ∀ W W' : World, (Pts.BoxR W (w.heap.size) (.slice A n cap) ∧ PtsAt W w.heap.size A ps ∧ PtsAt W w.heap.size B qs ∧ Below w.heap.size w W) → Below W.heap.size W W' → (Pts.BoxR W' (w.heap.size) (.slice A n cap) ∧ PtsAt W' w.heap.size A ps ∧ PtsAt W' w.heap.size B qs ∧ Below w.heap.size w W') := fun W W' ⟨h0, x0, x1, hb⟩ h => ⟨h0.later h, x0.later (h.mono hb.size), x1.later (h.mono hb.size), hb.trans (h.mono hb.size)⟩
  have hz0_ : Hid (((w.alloc (Obj.cells #[.slice A n cap] 63))).heap.size = w.heap.size + 1) := Lib.hid (by simp)
  have Y0 : PtsAt ((w.alloc (Obj.cells #[.slice A n cap] 63))) w.heap.size A ps := hp.later b0
  have Y1 : PtsAt ((w.alloc (Obj.cells #[.slice A n cap] 63))) w.heap.size B qs := hq.later b0
  generalize (w.alloc (Obj.cells #[.slice A n cap] 63)) = w0 at X0 Y0 Y1 b0 hz0_ ⊢
  have S0 := (⟨X0, Y0, Y1, b0⟩ : Pts.BoxR w0 (w.heap.size) (.slice A n cap) ∧ PtsAt w0 w.heap.size A ps ∧ PtsAt w0 w.heap.size B qs ∧ Below w.heap.size w w0)
  clear X0 Y0 Y1 b0
  obtain ⟨⟨_, _⟩, _, _, _⟩ := id S0
  refine (QA.out _ (S0.2.1.wide S0.2.2.2.size) (S0.2.2.1.wide S0.2.2.2.size)).mono ?_
  rintro e w1 ⟨rfl, hb_⟩
  replace S0 := HO _ _ S0 hb_
  clear hb_
  obtain ⟨⟨_, _⟩, _, _, _⟩ := id S0
  cases hi : allIn ps qs
  · have E : Hid (r = false) := Lib.hid (by rw [HE.out, hi]; simp)
    clear hl hl2 HE
    go_wp2_with fail
    go_ret
    exact ⟨ret_bool E.out.symm, S0.2.2.2⟩
  have hall := Lib.hid (allIn_at hi)
  replace HE : Hid (witM ps qs = r) := Lib.hid (by rw [HE.out, hi, decide_eq_true h10]; rfl)
  have hsw : Hid (∀ a b, seesM ps a b = seesM ps b a) := Lib.hid (NearMath.sees_swap hall.out.1)
  have n10 := (roomB_yes hall.out.1).1
  have QF := Lib.hid fun w => freeCorners A n cap w (by omega)
  clear hi QA
  go_wp2_with fail
  refine (QF.out _).mono ?_
  rintro e w3 ⟨b, rfl, hset, hzb, hb_⟩
  have hbox := S0.1
  have hlt0 : w.heap.size < w1.heap.size := World.block_lt_of_cell? _ _ hbox.1
  obtain ⟨z0, hz0⟩ : ∃ z, w1.heap.size = z := ⟨_, rfl⟩
  replace S0 := HO _ _ S0 hb_
  rw [hz0] at hlt0 hzb
  rw [upF_free (qs := qs) hl] at hset
  replace hset := Lib.hid hset
  have HZ : ∀ W W' : World, (Pts.BoxR W (w.heap.size) (.slice A n cap) ∧ PtsAt W w.heap.size A ps ∧ PtsAt W w.heap.size B qs ∧ Below w.heap.size w W) → Below z0 W W' → (Pts.BoxR W' (w.heap.size) (.slice A n cap) ∧ PtsAt W' w.heap.size A ps ∧ PtsAt W' w.heap.size B qs ∧ Below w.heap.size w W') := fun W W' ⟨h0, x0, x1, hb⟩ h => ⟨⟨(h.cell hlt0).trans h0.1, trivial⟩, x0.later (h.mono (Nat.le_of_lt hlt0)), x1.later (h.mono (Nat.le_of_lt hlt0)), hb.trans (h.mono (Nat.le_of_lt hlt0))⟩
  clear hb_ hz0 QF hbox
  obtain ⟨⟨_, _⟩, _, _, _⟩ := id S0
  go_wp2_with fail
  go_loopw [21] (fun q wr => ∃ i : Nat, i ≤ m ∧ q = .int .i64 i ∧ Hid (∀ k, k < ps.length → cntW ps qs k i ≤ 1) ∧ Hid (SetAt wr b n (freeW ps qs i)) ∧ (Pts.BoxR wr (w.heap.size) (.slice A n cap) ∧ PtsAt wr w.heap.size A ps ∧ PtsAt wr w.heap.size B qs ∧ Below w.heap.size w wr))
    (fun q _ => m - (intOf q).toNat)
  case atStart => exact ⟨0, Nat.zero_le _, rfl, Lib.hid (fun _ _ => Nat.zero_le _), hset, S0⟩
  case round =>
    clear S0 hset
    obtain ⟨i, him, rfl, hno, hset, S0⟩ := hrel
    obtain ⟨⟨_, _⟩, _, _, _⟩ := id S0
    by_cases hlt : i < m
    rotate_left
    · obtain rfl : m = i := by omega
      have E : Hid (r = true) := Lib.hid (by rw [← HE.out]; exact witM_of (by rw [hl2]; exact hno.out))
      clear hl hl2 HE hno hall hset
      go_wp2_with fail
      go_ret
      exact ⟨ret_bool E.out.symm, S0.2.2.2⟩
    have hi1 : (i : Int) < (m : Int) := by omega
    have hi0 : (0 : Int) ≤ (i : Int) := by omega
    have p0 := pt_at (ps := qs) (k := i) (by omega)
    have in0 := hall.out.2 i (by omega)
    obtain ⟨al, hal⟩ : ∃ al, allF (freeW ps qs i) (cornTo ps (pt qs i) n) = al := ⟨_, rfl⟩
    have HX : Hid (al = false → r = false) := Lib.hid (fun h => by
      rw [h] at hal
      obtain ⟨x, hx, hf⟩ := allF_no hal
      rw [← HE.out]
      exact wit_stop hsw.out (i := i) (by omega) (by rw [hl]; exact hx) hf)
    have HY : Hid (al = true → (∀ k, k < ps.length → cntW ps qs k (i + 1) ≤ 1) ∧ lessW (freeW ps qs i) (cornTo ps (pt qs i) n) (cornTo ps (pt qs i) n).length = freeW ps qs (i + 1)) := Lib.hid (fun h => by
      rw [h] at hal
      have hst := wit_step hsw.out (i := i) hno.out (by rw [hl]; exact allF_yes hal)
      rw [hl] at hst ⊢
      exact hst)
    obtain ⟨ax, ay, ha⟩ : ∃ x y, pt qs i = (x, y) := ⟨_, _, rfl⟩
    rw [ha] at p0 in0 hal HY
    have QT : Hid (∀ w hp hs, _) := Lib.hid fun w hp hs => takeCorners A n cap b n (freeW ps qs i) ax ay w ps hl in0 hp hs z0 hzb
    rw [hal] at QT
    obtain ⟨ad, eA, bA, pA⟩ := S0.2.2.1.get p0
    subst eA
    obtain ⟨_, _⟩ := id pA
    generalize freeW ps qs i = f1 at *
    have X3 := PointOk.box1 wr ax ay 65 (k := wr.heap.size) rfl
    have b1_ := below1 wr (Obj.cells #[.int .i64 ax, .int .i64 ay] 65)
    replace S0 := HO _ _ S0 b1_
    replace hset := Lib.hid (hset.out.later b1_)
    obtain ⟨⟨_, _⟩, _, _, _⟩ := id S0
    obtain ⟨_, _⟩ := id X3
    have hw1 := Lib.hid (S0.2.1.wide S0.2.2.2.size)
    clear b1_ p0 hno HE pA ha in0 hal hall hsw
    go_wp2_with fail
    refine (QT.out _ hw1.out hset.out).mono ?_
    rintro e w4 ⟨rfl, h4, hb4⟩
    replace S0 := HZ _ _ S0 hb4
    clear hw1 QT hset X3 hb4
    obtain ⟨⟨_, _⟩, _, _, _⟩ := id S0
    cases al
    · have E := Lib.hid (HX.out rfl)
      clear HX HY hl hl2 h4
      go_wp2_with fail
      go_ret
      exact ⟨ret_bool E.out.symm, S0.2.2.2⟩
    · have hno2 := Lib.hid (HY.out rfl).1
      have hset2 : Hid (SetAt w4 b n (freeW ps qs (i + 1))) := Lib.hid (by rw [← (HY.out rfl).2]; simpa using h4)
      clear HX HY hl hl2 h4
      go_wp2_with fail
      first
        | exact ⟨⟨i + 1, by omega, by go_num, hno2, hset2, S0.1, S0.2.1, S0.2.2.1, S0.2.2.2⟩, by simp [intOf]; omega⟩
        | (go_roundw <;> first | exact ⟨i + 1, by omega, by go_num, hno2, hset2, S0.1, S0.2.1, S0.2.2.1, S0.2.2.2⟩ | (simp [intOf]; omega))

end Go.Proofs.Ytgampbjdoncdoaa.WitLand


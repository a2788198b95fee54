/-
  What the landed text says of halls that are linked among themselves, as a contract.
-/
import Derived.Test.YtcfoleiooohbhaaHouFilt
import Derived.Test.YtcfoleiooohbhaaHouWimpl
import Derived.Deep.RegionHeld3
namespace Go.Proofs.Ytcfoleiooohbhaa.HouLimpl
open Go.RowKit Pts Blk HouMath HouMathB HouReach HouLink HouFilt HouBox HouMem Ints JoinMath
open Go.Proofs.Ytcfoleiooohbhaa.Own (icells icells_length icells_at icells_snoc own_shape own_cell own_below own_base own_empty GivesC)
open PointOk (ret_bool ret_i64 below1 below2 below3)

/-- The boxes of the call: the house and the list. -/
def LL (w : World) (H : Int) (A : Option Addr) (n cap : Nat) (ds : List (Int × Int)) (B : Option Addr) (m cb : Nat) (zs : List Int) (W : World) : Prop :=
  Holds W w.heap.size #[.int .i64 H, .slice A n cap] 41 ∧ Holds W (w.heap.size + 1) #[.slice B m cb] 31 ∧ PtsAt W w.heap.size A ds ∧ IntsAt W w.heap.size B zs ∧ Below w.heap.size w W
section
variable {w : World} {H : Int} {A : Option Addr} {n cap : Nat} {ds : List (Int × Int)} {B : Option Addr} {m cb : Nat} {zs : List Int}
theorem LL.later {W W' : World} (h : LL w H A n cap ds B m cb zs W) (hb : Below W.heap.size W W') : LL w H A n cap ds B m cb zs W' :=
  ⟨h.1.later hb, h.2.1.later hb, h.2.2.1.later (hb.mono h.2.2.2.2.size), h.2.2.2.1.later (hb.mono h.2.2.2.2.size), h.2.2.2.2.trans (hb.mono h.2.2.2.2.size)⟩
theorem LL.start (hp : PtsAt w w.heap.size A ds) (hq : IntsAt w w.heap.size B zs) : LL w H A n cap ds B m cb zs ((w.alloc (.cells #[.int .i64 H, .slice A n cap] 41)).alloc (.cells #[.slice B m cb] 31)) := by
  have hb := below2 w (.cells #[.int .i64 H, .slice A n cap] 41) (.cells #[.slice B m cb] 31)
  exact ⟨(Holds.new _ _ _).alloc _, Holds.box _ _ _ (by simp), hp.later hb, hq.later hb, hb⟩
theorem LL.cells {W : World} (h : LL w H A n cap ds B m cb zs W) :
    W.cell? ⟨w.heap.size, 0, none⟩ = some (.int .i64 H) ∧ W.cell? ⟨w.heap.size, 1, none⟩ = some (.slice A n cap) ∧ W.cell? ⟨w.heap.size + 1, 0, none⟩ = some (.slice B m cb) :=
  ⟨h.1.two.1.1, h.1.two.1.2, h.2.1.one.1⟩
theorem LL.pts {W : World} (h : LL w H A n cap ds B m cb zs W) : PtsAt W W.heap.size A ds := h.2.2.1.wide h.2.2.2.2.size
theorem LL.ints {W : World} (h : LL w H A n cap ds B m cb zs W) : IntsAt W W.heap.size B zs := h.2.2.2.1.wide h.2.2.2.2.size
theorem LL.lt {W : World} (h : LL w H A n cap ds B m cb zs W) : w.heap.size + 1 < W.heap.size := h.2.1.lt
end

/-- A row of the call's own stays when an elder block of two cells is filled. -/
theorem own_far {w : World} {b e sz n : Nat} {v : Value} {xs : List Value} (h : w.ownsRow b e sz v n xs) (k : Nat) (hk : k < b) (x y : Value) : ((w.setCell ⟨k, 0, none⟩ x).setCell ⟨k, 1, none⟩ y).ownsRow b e sz v n xs :=
  Own.kept_ne (Own.kept_ne h (grown_set w k 0 x) (fun j hj => by have := (h.lt j hj).1; omega)) (grown_set _ k 1 y) (fun j hj => by have := (h.lt j hj).1; omega)

set_option maxRecDepth 100000 in
set_option maxHeartbeats 3200000 in
theorem areLinked (H : Int) (A : Option Addr) (n cap : Nat) (B : Option Addr) (m cb : Nat) (w : World) (ds : List (Int × Int)) (hl : ds.length = n) (hn : n ≤ 1048576) (hp : PtsAt w w.heap.size A ds)
    (zs : List Int) (hz : zs.length = m) (hm : m ≤ 1048576) (hq : IntsAt w w.heap.size B zs) :
    Calls Try.prog 19 #[.agg #[.int .i64 H, .slice A n cap], .slice B m cb] w fun e w' => e = .returned (.bool (linkedB H ds zs)) ∧ Below w.heap.size w w' := by
  have Q1 := Lib.hid fun w hp => HouImpl.houseOk H A n cap w ds hl hn hp
  have Q2 := Lib.hid fun w hq => HouWimpl.areHalls H A n cap B m cb w zs hz hm hq
  have S0 : LL w H A n cap ds B m cb zs _ := LL.start hp hq
  obtain ⟨w0, hw0⟩ : ∃ w0, (w.alloc (.cells #[.int .i64 H, .slice A n cap] 41)).alloc (.cells #[.slice B m cb] 31) = w0 := ⟨_, rfl⟩
  rw [hw0] at S0
  obtain ⟨c0, c1, c2⟩ := S0.cells
  clear hp hq
  cases ch : houseB H ds
  · rw [linked_no (by rw [ch]; rfl)]
    rw [ch] at Q1
    clear Q2 ch
    go_enter Try.func19, Try.ntmps19
    go_wp2_with fail
    refine (Q1.out _ S0.pts).mono ?_
    rintro e w1 ⟨rfl, hb_⟩
    replace S0 := S0.later hb_
    go_wp2_with fail
    go_ret
    exact ⟨rfl, S0.2.2.2.2⟩
  cases c3 : hallsB H zs
  · rw [linked_no (by rw [ch, c3]; rfl)]
    rw [ch] at Q1
    rw [c3] at Q2
    clear ch c3
    go_enter Try.func19, Try.ntmps19
    go_wp2_with fail
    refine (Q1.out _ S0.pts).mono ?_
    rintro e w1 ⟨rfl, hb_⟩
    replace S0 := S0.later hb_
    obtain ⟨c0, c1, c2⟩ := S0.cells
    go_wp2_with fail
    refine (Q2.out _ S0.ints).mono ?_
    rintro e w2 ⟨rfl, hb_⟩
    replace S0 := S0.later hb_
    go_wp2_with fail
    go_ret
    exact ⟨rfl, S0.2.2.2.2⟩
  have hboth : (houseB H ds && hallsB H zs) = true := by rw [ch, c3]; rfl
  by_cases hm0 : m = 0
  · subst hm0
    rw [linked_nil hz, ch]
    rw [ch] at Q1
    rw [c3] at Q2
    clear ch c3 hboth
    go_enter Try.func19, Try.ntmps19
    go_wp2_with fail
    refine (Q1.out _ S0.pts).mono ?_
    rintro e w1 ⟨rfl, hb_⟩
    replace S0 := S0.later hb_
    obtain ⟨c0, c1, c2⟩ := S0.cells
    go_wp2_with fail
    refine (Q2.out _ S0.ints).mono ?_
    rintro e w2 ⟨rfl, hb_⟩
    replace S0 := S0.later hb_
    obtain ⟨c0, c1, c2⟩ := S0.cells
    go_wp2_with fail
    go_ret
    exact ⟨rfl, S0.2.2.2.2⟩
  have hf := house_form ch
  obtain ⟨N, rfl⟩ := Int.eq_ofNat_of_zero_le (show 0 ≤ H by have := hf.h1; omega)
  have hzN : ∀ k, k < m → ∃ z : Nat, z < N ∧ zs.getD k 0 = (z : Int) := fun k hk => by
    have := halls_get c3 (k := k) (by omega)
    obtain ⟨z, hz⟩ := Int.eq_ofNat_of_zero_le this.1
    exact ⟨z, by omega, hz⟩
  obtain ⟨a, haN, ha⟩ := hzN 0 (by omega)
  have hE := linked_own (a := a) hboth (by omega) ha
  rw [hz] at hE
  obtain ⟨r, hr⟩ : ∃ r, linkedB N ds zs = r := ⟨_, rfl⟩
  rw [hr] at hE
  have HE := Lib.hid hE
  have hf2 := ownD_form hf zs
  have hfd := fd_own ds zs
  rw [hl] at hfd
  have hn2 : (ownD ds zs).length ≤ 12 := hf2.len
  have QD := Lib.hid fun A2 n2 c2 hl2 w hp2 => HouDist.distancesIn A2 n2 c2 N a (ownD ds zs) hf2 hl2 haN w hp2
  have hDl := dist_len (ds := ownD ds zs) haN
  rw [ch] at Q1
  rw [c3] at Q2
  have hmi : ((m : Int) == 0) = false := beq_eq_false_iff_ne.2 (by omega)
  have hmj : ¬ (m : Int) = 0 := by omega
  rw [hr]
  clear hE hr ch c3 hboth hf
  generalize dist N (ownD ds zs) a = D at *
  go_enter Try.func19, Try.ntmps19
  go_wp2_with fail
  refine (Q1.out _ S0.pts).mono ?_
  rintro e w1 ⟨rfl, hb_⟩
  replace S0 := S0.later hb_
  obtain ⟨c0, c1, c2⟩ := S0.cells
  go_wp2_with fail
  refine (Q2.out _ S0.ints).mono ?_
  rintro e w2 ⟨rfl, hb_⟩
  replace S0 := S0.later hb_
  obtain ⟨c0, c1, c2⟩ := S0.cells
  clear hb_ Q1 Q2
  go_wp2_with fail
  have HF0 : Hid (∀ W, LL w N A n cap ds B m cb zs W → Calls Try.prog 44 #[.slice A n cap, .func (.func 45) #[] #[.pointer (some ⟨w.heap.size + 1, 0, none⟩)]] W (GivesC 83 2 W (ownD ds zs).length (cellsP (ownD ds zs)))) := Lib.hid (fun W h => by
    have := filtered 45 #[.pointer (some ⟨w.heap.size + 1, 0, none⟩)] (fun j => zs.contains (dr ds j).1 && zs.contains (dr ds j).2) A n cap W ds hl hn h.pts Try.call45 (fun W2 k hk hb => by
      have h2 := h.later hb
      exact bothIn (dr ds k).1 (dr ds k).2 (w.heap.size + 1) B m cb zs hz hm W2 h2.cells.2.2 h2.lt h2.ints)
    rw [hfd] at this
    exact this)
  refine Code.wp_mono (Q := fun e a' w' => ∃ (A2 : Option Addr) (c2 b5 : Nat), e = .normal ∧ a' = ⟨#[.agg #[.int .i64 N, .slice A n cap], .slice B m cb, .pointer (some ⟨w.heap.size, 0, none⟩), .pointer (some ⟨w.heap.size + 1, 0, none⟩), .bool false, .pointer (some ⟨b5, 0, none⟩), undef, .agg #[.int .i64 N, .slice A n cap], .bool true, .bool false, .bool false, .agg #[.int .i64 N, .slice A n cap], .slice B m cb, .bool true, .bool false, .bool false, .slice B m cb, .int .i64 m, .bool false, .pointer (some ⟨w.heap.size, 0, none⟩), .int .i64 N, .pointer (some ⟨w.heap.size, 1, none⟩), .slice A n cap, .func (.func 45) #[] #[.pointer (some ⟨w.heap.size + 1, 0, none⟩)], .slice A2 (ownD ds zs).length c2, .agg #[.int .i64 N, .slice A2 (ownD ds zs).length c2], undef, undef, undef, undef, undef, undef, undef, undef, undef], []⟩ ∧ LL w N A n cap ds B m cb zs w' ∧ Holds w' b5 #[.int .i64 N, .slice A2 (ownD ds zs).length c2] 41 ∧ PtsAt w' w'.heap.size A2 (ownD ds zs)) ?_ ?_
  rotate_left
  · have HS0_ := And.intro c0 (And.intro c1 c2)
    have S0_ := S0
    have HK0_ : w2.cell? ⟨w.heap.size, 0, none⟩ = some (.int .i64 N) ∧ w2.cell? ⟨w.heap.size, 1, none⟩ = some (.slice A n cap) := ⟨c0, c1⟩
    have HSET : Hid (∀ (W : World) (b : Nat) (x y : Value), w.heap.size < b → (W.cell? ⟨w.heap.size, 0, none⟩ = some (.int .i64 N) ∧ W.cell? ⟨w.heap.size, 1, none⟩ = some (.slice A n cap)) →
        (((W.setCell ⟨b, 0, none⟩ x).setCell ⟨b, 1, none⟩ y).cell? ⟨w.heap.size, 0, none⟩ = some (.int .i64 N) ∧ ((W.setCell ⟨b, 0, none⟩ x).setCell ⟨b, 1, none⟩ y).cell? ⟨w.heap.size, 1, none⟩ = some (.slice A n cap))) := Lib.hid (fun W b x y hb h => by
      have hB : Below b W ((W.setCell ⟨b, 0, none⟩ x).setCell ⟨b, 1, none⟩ y) := ((Below.refl b W).setCell (p := ⟨b, 0, none⟩) (Nat.le_refl _) x).setCell (p := ⟨b, 1, none⟩) (Nat.le_refl _) y
      exact ⟨(hB.cell (p := ⟨w.heap.size, 0, none⟩) hb).trans h.1, (hB.cell (p := ⟨w.heap.size, 1, none⟩) hb).trans h.2⟩)
    have hlt2_ : w.heap.size < w2.heap.size := by have := S0.lt; omega
    have HAL : Hid (∀ W : World, LL w N A n cap ds B m cb zs W → ∀ o, LL w N A n cap ds B m cb zs (W.alloc o)) := Lib.hid (fun W h o => h.later (below1 W o))
    have HDR : Hid (∀ W : World, LL w N A n cap ds B m cb zs W → LL w N A n cap ds B m cb zs W.drew) := Lib.hid (fun W h => h.later (Below.refl _ _).drew)
    go_region_held3 (fun W => W.cell? ⟨w.heap.size, 0, none⟩ = some (.int .i64 N) ∧ W.cell? ⟨w.heap.size, 1, none⟩ = some (.slice A n cap)) (first | exact HK0_ | exact HS1_ | assumption | exact HSET.out _ _ _ _ hlt2_ HS1_ | exact HSET.out _ _ _ _ hlt3_ HS1_ | go_keep) (first | (go_at_call 44; refine (HF0.out _ (by first | exact HDR.out _ S0_ | exact HDR.out _ (HAL.out _ S0_ _) | exact HDR.out _ (HDR.out _ (HAL.out _ S0_ _)) | exact HDR.out _ (HAL.out _ (HDR.out _ S0_) _))).mono ?_; rintro e w3 ⟨A2, c2, rfl, hown3, hb3⟩; have S3_ := LL.later (by first | exact HDR.out _ S0_ | exact HDR.out _ (HAL.out _ S0_ _) | exact HDR.out _ (HDR.out _ (HAL.out _ S0_ _)) | exact HDR.out _ (HAL.out _ (HDR.out _ S0_) _)) hb3; have HS1_ : w3.cell? ⟨w.heap.size, 0, none⟩ = some (.int .i64 N) ∧ w3.cell? ⟨w.heap.size, 1, none⟩ = some (.slice A n cap) := ⟨S3_.cells.1, S3_.cells.2.1⟩; have hlt3_ : w.heap.size < w3.heap.size := Nat.lt_of_lt_of_le (Nat.lt_succ_self _) (Nat.le_of_lt S3_.lt); (try (have HZ_ : Holds w3 w2.heap.size #[.int .i64 0, .slice none 0 0] 41 := Holds.later (by exact Holds.new w2 _ _) hb3; obtain ⟨⟨z0_, z1_⟩, z2_⟩ := HZ_.two))))
    · exact ⟨A2, c2, w3.heap.size, rfl, rfl, S3_.later (below1 _ _), Holds.new _ _ _, ((pts_own hown3).later ((below1 w3 (.cells #[.int .i64 N, .slice A2 (ownD ds zs).length c2] 41)).mono (Nat.le_refl _))).wide (by simp)⟩
    all_goals
      have hB : Below w2.heap.size w3 ((w3.setCell ⟨w2.heap.size, 0, none⟩ (.int .i64 N)).setCell ⟨w2.heap.size, 1, none⟩ (.slice A2 (ownD ds zs).length c2)) := ((Below.refl _ w3).setCell (p := ⟨w2.heap.size, 0, none⟩) (Nat.le_refl _) _).setCell (p := ⟨w2.heap.size, 1, none⟩) (Nat.le_refl _) _
      have hlt9 := S0.lt
      have hown4 := own_far hown3 w2.heap.size (by simp) (.int .i64 N) (.slice A2 (ownD ds zs).length c2)
      exact ⟨A2, c2, w2.heap.size, rfl, rfl, ⟨(hB.block _ (by omega)).trans S3_.1, (hB.block _ (by omega)).trans S3_.2.1, S3_.2.2.1.later (hB.mono (by omega)), S3_.2.2.2.1.later (hB.mono (by omega)), S3_.2.2.2.2.trans (hB.mono (by omega))⟩, set_own (set_own HZ_ 0 (.int .i64 N)) 1 (.slice A2 (ownD ds zs).length c2), pts_own hown4⟩
  rintro e a' w4 ⟨A2, cc, b5, rfl, rfl, S4, B5, P2⟩
  have p0 := at_d (zs := zs) (k := 0) (by omega)
  rw [ha] at p0
  obtain ⟨bd, eB, bB, pB⟩ := S4.ints.get p0
  subst eB
  have pB0 := (here pB).1
  clear HF0 S0 c0 c1 c2 p0
  obtain ⟨⟨d0, d1⟩, _⟩ := B5.two
  obtain ⟨e0, e1, e2⟩ := S4.cells
  have hm3 : (0 : Int) < (m : Int) := by omega
  have hm4 : 0 < m := by omega
  have hm5 : (0 : Int) ≤ (0 : Int) := Int.le_refl _
  go_wp2_with fail
  have hb5 := B5.lt
  have hlt4 := S4.lt
  have T4 : LL w N A n cap ds (some bd) m cb zs w4 ∧ Holds w4 b5 #[.int .i64 N, .slice A2 (ownD ds zs).length cc] 41 ∧ PtsAt w4 w4.heap.size A2 (ownD ds zs) ∧ IntAt w4 bd 0 a ∧ Below w4.heap.size w4 w4 := ⟨S4, B5, P2, pB, Below.refl _ _⟩
  refine Code.wp_mono (Q := fun e a' w' => ∃ (g b6 : Nat), e = .normal ∧ a' = ⟨#[.agg #[.int .i64 N, .slice A n cap], .slice (some bd) m cb, .pointer (some ⟨w.heap.size, 0, none⟩), .pointer (some ⟨w.heap.size + 1, 0, none⟩), .bool false, .pointer (some ⟨b5, 0, none⟩), .pointer (some ⟨b6, 0, none⟩), .agg #[.int .i64 N, .slice A n cap], .bool true, .bool false, .bool false, .agg #[.int .i64 N, .slice A n cap], .slice (some bd) m cb, .bool true, .bool false, .bool false, .slice (some bd) m cb, .int .i64 m, .bool false, .pointer (some ⟨w.heap.size, 0, none⟩), .int .i64 N, .pointer (some ⟨w.heap.size, 1, none⟩), .slice A n cap, .func (.func 45) #[] #[.pointer (some ⟨w.heap.size + 1, 0, none⟩)], .slice A2 (ownD ds zs).length cc, .agg #[.int .i64 N, .slice A2 (ownD ds zs).length cc], .agg #[.int .i64 N, .slice A2 (ownD ds zs).length cc], .slice (some bd) m cb, .pointer (some bd), .int .i64 a, .slice (some ⟨g, 0, none⟩) N N, undef, undef, undef, undef], []⟩ ∧ LL w N A n cap ds (some bd) m cb zs w' ∧ Holds w' b6 #[.slice (some ⟨g, 0, none⟩) N N] 31 ∧ Holds w' g (icells D).toArray 3) ?_ ?_
  rotate_left
  · have HT : Hid (∀ W W' : World, (LL w N A n cap ds (some bd) m cb zs W ∧ Holds W b5 #[.int .i64 N, .slice A2 (ownD ds zs).length cc] 41 ∧ PtsAt W w4.heap.size A2 (ownD ds zs) ∧ IntAt W bd 0 a ∧ Below w4.heap.size w4 W) → Below w4.heap.size W W' →
        (LL w N A n cap ds (some bd) m cb zs W' ∧ Holds W' b5 #[.int .i64 N, .slice A2 (ownD ds zs).length cc] 41 ∧ PtsAt W' w4.heap.size A2 (ownD ds zs) ∧ IntAt W' bd 0 a ∧ Below w4.heap.size w4 W')) := Lib.hid (fun W W' h hb => by
      have hs := h.2.2.2.2.size
      exact ⟨⟨(hb.block _ (by omega)).trans h.1.1, (hb.block _ (by omega)).trans h.1.2.1, h.1.2.2.1.later (hb.mono (by omega)), h.1.2.2.2.1.later (hb.mono (by omega)), h.1.2.2.2.2.trans (hb.mono (by omega))⟩, (hb.block _ (by omega)).trans h.2.1, h.2.2.1.later hb, h.2.2.2.1.later bB hb, h.2.2.2.2.trans hb⟩)
    have HC : Hid (∀ W : World, (LL w N A n cap ds (some bd) m cb zs W ∧ Holds W b5 #[.int .i64 N, .slice A2 (ownD ds zs).length cc] 41 ∧ PtsAt W w4.heap.size A2 (ownD ds zs) ∧ IntAt W bd 0 a ∧ Below w4.heap.size w4 W) → (W.cell? ⟨b5, 0, none⟩ = some (.int .i64 N) ∧ W.cell? ⟨b5, 1, none⟩ = some (.slice A2 (ownD ds zs).length cc) ∧ W.cell? ⟨w.heap.size + 1, 0, none⟩ = some (.slice (some bd) m cb) ∧ W.cell? bd = some (.int .i64 a))) := Lib.hid (fun W h => ⟨h.2.1.two.1.1, h.2.1.two.1.2, h.1.cells.2.2, (here h.2.2.2.1).1⟩)
    have HDR : Hid (∀ W : World, Below w4.heap.size W W.drew) := Lib.hid (fun W => ⟨rfl, rfl, rfl, Nat.le_refl _, fun _ _ => rfl⟩)
    have T5_ := HT.out _ _ T4 (HDR.out w4)
    have T6_ := HT.out _ _ (HT.out _ _ T4 (below1 w4 (.cells #[.slice none 0 0] 31))) (HDR.out _)
    have HSET : Hid (∀ (W : World) (x : Value), Below w4.heap.size W (W.setCell ⟨w4.heap.size, 0, none⟩ x)) := Lib.hid (fun W x => (Below.refl _ W).setCell (p := ⟨w4.heap.size, 0, none⟩) (Nat.le_refl _) x)
    have HK0_ := HC.out _ T4
    go_region_held3 (fun W => (W.cell? ⟨b5, 0, none⟩ = some (.int .i64 N) ∧ W.cell? ⟨b5, 1, none⟩ = some (.slice A2 (ownD ds zs).length cc) ∧ W.cell? ⟨w.heap.size + 1, 0, none⟩ = some (.slice (some bd) m cb) ∧ W.cell? bd = some (.int .i64 a))) (first | exact HK0_ | exact HK1_ | assumption | exact HC.out _ (HT.out _ _ T7_ (HSET.out _ _)) | go_keep) (first | (go_at_call 39; refine (QD.out A2 _ cc rfl _ (by first | exact T5_.2.2.1.wide T5_.2.2.2.2.size | exact T6_.2.2.1.wide T6_.2.2.2.2.size)).mono ?_; rintro e w5 ⟨g, rfl, hG5, hg5, hb5_⟩; have T7_ := HT.out _ _ (by first | exact T5_ | exact T6_) (hb5_.mono (by first | exact T5_.2.2.2.2.size | exact T6_.2.2.2.2.size)); have HK1_ := HC.out _ T7_; (try (have HZ_ : Holds w5 w4.heap.size #[.slice none 0 0] 31 := Holds.later (by exact Holds.new w4 _ _) hb5_; obtain ⟨z0_, z2_⟩ := HZ_.one))))
    · exact ⟨g, w5.heap.size, rfl, rfl, T7_.1.later (below1 _ _), Holds.new _ _ _, hG5.alloc _⟩
    all_goals
      have hB := HSET.out w5 (.slice (some ⟨g, 0, none⟩) N N)
      exact ⟨g, w4.heap.size, rfl, rfl, (HT.out _ _ T7_ hB).1, set_own HZ_ 0 _, Holds.far hG5 ⟨w4.heap.size, 0, none⟩ _ (by simp at hg5; show g ≠ w4.heap.size; omega)⟩
  rintro e a' w6 ⟨g, b6, rfl, rfl, S6, B6, G6⟩
  obtain ⟨f0, _⟩ := B6.one
  obtain ⟨e0, e1, e2⟩ := S6.cells
  have hb6 := B6.lt
  have QC := Lib.hid fun eF Q => InNumImpl.containsFunc 48 #[.pointer (some ⟨b6, 0, none⟩)] (fun k => decide (D.getD (zs.getD k 0).toNat 0 < 0)) (some bd) m cb w6 zs hz hm S6.ints eF Q
  have HZ := Lib.hid hzN
  clear hzN T4 S4 B5 P2 pB QD
  generalize ((List.range m).any fun k => decide (D.getD (zs.getD k 0).toNat 0 < 0)) = c at *
  go_wp2_with fail
  refine (QC.out Try.call48 (fun W k hk hb => ?_)).mono ?_
  · obtain ⟨z, hz1, hz2⟩ := HZ.out k hk
    rw [hz2]
    exact notReached z N b6 g D hDl hz1 W ((hb.cell (p := ⟨b6, 0, none⟩) hb6).trans f0) (G6.later hb)
  rintro e w7 ⟨rfl, hb_⟩
  have S7 := S6.later hb_
  go_wp2_with fail
  go_ret
  exact ⟨ret_bool HE.out.symm, S7.2.2.2.2⟩
end Go.Proofs.Ytcfoleiooohbhaa.HouLimpl

/-
  The halls that a ring of keys opens, as the landed code finds them: contracts.
-/
import Derived.Test.YtagokcbldkbdmaaHouLimpl
import Derived.Test.YtagokcbldkbdmaaHouXimpl
import Derived.Test.YtagokcbldkbdmaaHouKeys
namespace Go.Proofs.Ytagokcbldkbdmaa.HouKimpl
open Go.RowKit Pts Blk HouMath HouMathB HouMathC HouKeys HouBox HouMem HouFilt Ints
open Go.Proofs.Ytagokcbldkbdmaa.Own (icells icells_length icells_at icells_snoc own_shape own_cell own_below own_base own_empty GivesI GivesC)
open PointOk (ret_bool ret_i64 below1 below2 below3)

set_option maxRecDepth 100000 in
set_option maxHeartbeats 3200000 in
theorem hasKey (N : Nat) (A : Option Addr) (n cap i : Nat) (a b x : Int) (w : World) (ds : List (Int × Int)) (hl : ds.length = n) (hf : HForm N ds) (hi : i < n) (hab : dr ds i = (a, b)) (hp : PtsAt w w.heap.size A ds) :
    Calls Try.prog 106 #[.agg #[.int .i64 N, .slice A n cap], .int .i64 x, .agg #[.int .i64 a, .int .i64 b]] w fun e w' => e = .returned (.bool (bitB x i)) ∧ Below w.heap.size w w' := by
  have hn12 : n ≤ 12 := by have := hf.len; omega
  have HNe : Hid (∀ k, k < i → ∀ px py, dr ds k = (px, py) → ¬ (px = a ∧ py = b)) := Lib.hid (fun k hk px py h => by
    have := (List.pairwise_iff_getElem.1 hf.pairwise) k i (by omega) (by omega) hk
    rw [← dr_get (by omega), ← dr_get (by omega), h, hab] at this
    unfold LexLt at this
    simp only at this
    omega)
  have eK := bit_ring (x := x) (k := i)
  obtain ⟨c, hc⟩ : ∃ c, bitB x i = c := ⟨_, rfl⟩
  rw [hc] at eK ⊢
  clear hf hc
  go_enter Try.func106, Try.ntmps106
  go_wp2_with fail
  have X0 := (HouBox.boxH w N A n cap 30 (k := w.heap.size) (by simp)).alloc (Obj.cells #[.int .i64 a, .int .i64 b] 134)
  have X1 := PointOk.box1 (w.alloc (Obj.cells #[.int .i64 N, .slice A n cap] 30)) a b 134 (k := w.heap.size + 1) (by simp)
  have b0 := PointOk.below2 w (Obj.cells #[.int .i64 N, .slice A n cap] 30) (Obj.cells #[.int .i64 a, .int .i64 b] 134)
  have HO : ∀ W W' : World, (HouBox.BoxH W (w.heap.size) N A n cap ∧ PointOk.Box W (w.heap.size + 1) a b ∧ PtsAt W w.heap.size A ds ∧ Below w.heap.size w W) → Below W.heap.size W W' → (HouBox.BoxH W' (w.heap.size) N A n cap ∧ PointOk.Box W' (w.heap.size + 1) a b ∧ PtsAt W' w.heap.size A ds ∧ Below w.heap.size w W') := fun W W' ⟨h0, h1, x0, hb⟩ h => ⟨h0.later h, h1.later h, x0.later (h.mono hb.size), hb.trans (h.mono hb.size)⟩
  have hz0_ : Hid ((((w.alloc (Obj.cells #[.int .i64 N, .slice A n cap] 30)).alloc (Obj.cells #[.int .i64 a, .int .i64 b] 134))).heap.size = w.heap.size + 1 + 1) := Lib.hid (by simp)
  have Y0 : PtsAt (((w.alloc (Obj.cells #[.int .i64 N, .slice A n cap] 30)).alloc (Obj.cells #[.int .i64 a, .int .i64 b] 134))) w.heap.size A ds := hp.later b0
  generalize ((w.alloc (Obj.cells #[.int .i64 N, .slice A n cap] 30)).alloc (Obj.cells #[.int .i64 a, .int .i64 b] 134)) = w0 at X0 X1 Y0 b0 hz0_ ⊢
  have S0 := (⟨X0, X1, Y0, b0⟩ : HouBox.BoxH w0 (w.heap.size) N A n cap ∧ PointOk.Box w0 (w.heap.size + 1) a b ∧ PtsAt w0 w.heap.size A ds ∧ Below w.heap.size w w0)
  clear X0 X1 Y0 b0
  obtain ⟨⟨_, _⟩, ⟨_, _⟩, _, _⟩ := id S0
  go_loopw [12] (fun q wr => ∃ k : Nat, k ≤ i ∧ q = .int .i64 k ∧ (HouBox.BoxH wr (w.heap.size) N A n cap ∧ PointOk.Box wr (w.heap.size + 1) a b ∧ PtsAt wr w.heap.size A ds ∧ Below w.heap.size w wr))
    (fun q _ => i - (intOf q).toNat)
  case atStart => exact ⟨0, Nat.zero_le _, rfl, S0⟩
  case round =>
    clear S0
    obtain ⟨k, hk, rfl, S0⟩ := hrel
    obtain ⟨⟨_, _⟩, ⟨_, _⟩, _, _⟩ := id S0
    have hk1 : (k : Int) < (n : Int) := by omega
    have hk0 : (0 : Int) ≤ (k : Int) := by omega
    have hk64 : (k : Int) < 64 := by omega
    have hat := dr_at (ds := ds) (k := k) (by omega)
    obtain ⟨⟨px, py⟩, hpk⟩ : ∃ p, dr ds k = p := ⟨_, rfl⟩
    rw [hpk] at hat
    obtain ⟨ad, eAd, bA, pAt⟩ := S0.2.2.1.get hat
    subst eAd
    obtain ⟨_, _⟩ := id pAt
    obtain ⟨w1, hw1⟩ : ∃ w1, wr.alloc (.cells #[.int .i64 px, .int .i64 py] 134) = w1 := ⟨_, rfl⟩
    have B1 : Holds w1 wr.heap.size #[.int .i64 px, .int .i64 py] 134 := by rw [← hw1]; exact Holds.new wr _ _
    have hb1 : Below wr.heap.size wr w1 := by rw [← hw1]; exact below1 wr _
    have S1 := HO _ _ S0 hb1
    obtain ⟨⟨_, _⟩, ⟨_, _⟩, _, _⟩ := id S1
    obtain ⟨⟨_, _⟩, _⟩ := B1.two
    by_cases hki : k = i
    · subst hki
      obtain ⟨rfl, rfl⟩ : px = a ∧ py = b := by rw [hab] at hpk; injection hpk with h1 h2; exact ⟨h1.symm, h2.symm⟩
      clear HNe hat hab hpk hl hp S0
      replace S1 := Lib.hid S1
      cases c
      · go_wp2_with fail
        go_ret
        exact ⟨rfl, S1.out.2.2.2⟩
      · go_wp2_with fail
        go_ret
        exact ⟨rfl, S1.out.2.2.2⟩
    · have hne := HNe.out k (by omega) px py hpk
      have HS := Lib.hid (And.intro (show k + 1 ≤ i by omega) S1)
      clear HNe hat hab hpk hl hp S0 S1
      clear eK
      by_cases f1 : px = a
      · subst f1
        have f2 : ¬ py = b := fun h => hne ⟨rfl, h⟩
        go_wp2_with fail
        first
          | exact ⟨⟨k + 1, HS.out.1, by go_num, HS.out.2⟩, by simp [intOf]; omega⟩
          | (go_roundw <;> first | exact ⟨k + 1, HS.out.1, by go_num, HS.out.2⟩ | (simp [intOf]; omega))
      · go_wp2_with fail
        first
          | exact ⟨⟨k + 1, HS.out.1, by go_num, HS.out.2⟩, by simp [intOf]; omega⟩
          | (go_roundw <;> first | exact ⟨k + 1, HS.out.1, by go_num, HS.out.2⟩ | (simp [intOf]; omega))
theorem fd_key (x : Int) (ds : List (Int × Int)) : ∀ k, fdTo (fun j => bitB x j) ds k = keyTo x ds k
  | 0 => rfl
  | k + 1 => by
    show (if bitB x k = true then fdTo (fun j => bitB x j) ds k ++ [dr ds k] else fdTo (fun j => bitB x j) ds k) = _
    rw [fd_key x ds k]
    rfl
theorem infoI : (Try.prog.info? 3).map (fun i => (i.zero, i.size, i.bytes)) = some (some (.int .i64 0), 1, 8) := by kernel_rfl

/-- The boxes of the call: the house and the ring. -/
def LK (w : World) (H : Int) (A : Option Addr) (n cap : Nat) (ds : List (Int × Int)) (x : Int) (W : World) : Prop :=
  Holds W w.heap.size #[.int .i64 H, .slice A n cap] 30 ∧ Holds W (w.heap.size + 1) #[.int .i64 x] 3 ∧ PtsAt W w.heap.size A ds ∧ Below w.heap.size w W
section
variable {w : World} {H : Int} {A : Option Addr} {n cap : Nat} {ds : List (Int × Int)} {x : Int}
theorem LK.later {W W' : World} (h : LK w H A n cap ds x W) (hb : Below W.heap.size W W') : LK w H A n cap ds x W' :=
  ⟨h.1.later hb, h.2.1.later hb, h.2.2.1.later (hb.mono h.2.2.2.size), h.2.2.2.trans (hb.mono h.2.2.2.size)⟩
theorem LK.from {W W' : World} {b : Nat} (h : LK w H A n cap ds x W) (hl : w.heap.size + 1 < b) (hb : Below b W W') : LK w H A n cap ds x W' :=
  ⟨(hb.block _ (by omega)).trans h.1, (hb.block _ (by omega)).trans h.2.1, h.2.2.1.later (hb.mono (by omega)), h.2.2.2.trans (hb.mono (by omega))⟩
theorem LK.start (hp : PtsAt w w.heap.size A ds) : LK w H A n cap ds x ((w.alloc (.cells #[.int .i64 H, .slice A n cap] 30)).alloc (.cells #[.int .i64 x] 3)) := by
  have hb := below2 w (.cells #[.int .i64 H, .slice A n cap] 30) (.cells #[.int .i64 x] 3)
  exact ⟨(Holds.new _ _ _).alloc _, Holds.box _ _ _ (by simp), hp.later hb, hb⟩
theorem LK.cells {W : World} (h : LK w H A n cap ds x W) :
    W.cell? ⟨w.heap.size, 0, none⟩ = some (.int .i64 H) ∧ W.cell? ⟨w.heap.size, 1, none⟩ = some (.slice A n cap) ∧ W.cell? ⟨w.heap.size + 1, 0, none⟩ = some (.int .i64 x) :=
  ⟨h.1.two.1.1, h.1.two.1.2, h.2.1.one.1⟩
theorem LK.pts {W : World} (h : LK w H A n cap ds x W) : PtsAt W W.heap.size A ds := h.2.2.1.wide h.2.2.2.size
theorem LK.lt {W : World} (h : LK w H A n cap ds x W) : w.heap.size + 1 < W.heap.size := h.2.1.lt
end

set_option maxRecDepth 100000 in
set_option maxHeartbeats 1600000 in
/-- Is there a key for this door? -/
theorem opens (N : Nat) (A : Option Addr) (n cap i : Nat) (a b x : Int) (w : World) (ds : List (Int × Int)) (hl : ds.length = n) (hf : HForm N ds) (hi : i < n) (hab : dr ds i = (a, b)) (W : World) (h : LK w N A n cap ds x W) :
    Calls Try.prog 105 #[.agg #[.int .i64 a, .int .i64 b], .pointer (some ⟨w.heap.size, 0, none⟩), .pointer (some ⟨w.heap.size + 1, 0, none⟩)] W fun e w' => e = .returned (.bool (bitB x i)) ∧ Below W.heap.size W w' := by
  have Q := Lib.hid fun w hp => hasKey N A n cap i a b x w ds hl hf hi hab hp
  obtain ⟨r, hr⟩ : ∃ r, bitB x i = r := ⟨_, rfl⟩
  rw [hr] at Q ⊢
  obtain ⟨W0, hW0⟩ : ∃ W0, W.alloc (.cells #[.int .i64 a, .int .i64 b] 134) = W0 := ⟨_, rfl⟩
  have hb0 : Below W.heap.size W W0 := by rw [← hW0]; exact below1 _ _
  have B0 : Holds W0 W.heap.size #[.int .i64 a, .int .i64 b] 134 := by rw [← hW0]; exact Holds.new _ _ _
  have h0 := h.later hb0
  have hp0 := h0.pts
  obtain ⟨c0, c1, c2⟩ := h0.cells
  obtain ⟨⟨c4, c5⟩, _⟩ := B0.two
  clear hr hf hl hab h
  go_enter Try.func105, Try.ntmps105
  go_wp2_with fail
  refine (Q.out _ hp0).mono ?_
  rintro e w1 ⟨rfl, hb1⟩
  go_wp2_with fail
  go_ret
  exact ⟨rfl, hb0.trans (hb1.mono hb0.size)⟩

set_option maxRecDepth 100000 in
set_option maxHeartbeats 6400000 in
theorem hallsIn (N : Nat) (A : Option Addr) (n cap s : Nat) (x : Int) (w : World) (ds : List (Int × Int)) (hl : ds.length = n) (hf : HForm N ds) (hs : s < N) (hp : PtsAt w w.heap.size A ds) :
    Calls Try.prog 59 #[.agg #[.int .i64 N, .slice A n cap], .int .i64 s, .int .i64 x] w (GivesI 3 w (withN N ds s x)) := by
  have hN7 : N ≤ 7 := by have := hf.h7; omega
  have hn : n ≤ 1048576 := by have := hf.len; omega
  have S0 : LK w N A n cap ds x _ := LK.start hp
  obtain ⟨w2, hw0⟩ : ∃ w0, (w.alloc (.cells #[.int .i64 N, .slice A n cap] 30)).alloc (.cells #[.int .i64 x] 3) = w0 := ⟨_, rfl⟩
  rw [hw0] at S0
  obtain ⟨c0, c1, c2⟩ := S0.cells
  clear hp
  have hfd : fdTo (fun j => bitB x j) ds n = keyD x ds := by rw [fd_key, ← hl]; rfl
  have hf2 := keyD_form (x := x) hf
  have hn2 : (keyD x ds).length ≤ 12 := hf2.len
  have QD := Lib.hid fun A2 n2 c2 hl2 w hp2 => HouDist.distancesIn A2 n2 c2 N s (keyD x ds) hf2 hl2 hs w hp2
  have hDl := dist_len (ds := keyD x ds) hs
  have HE : Hid (withN N ds s x = openTo (dist N (keyD x ds) s) N) := Lib.hid rfl
  generalize dist N (keyD x ds) s = D at *
  have HF0 : Hid (∀ W, LK w N A n cap ds x W → Calls Try.prog 104 #[.slice A n cap, .func (.func 105) #[] #[.pointer (some ⟨w.heap.size, 0, none⟩), .pointer (some ⟨w.heap.size + 1, 0, none⟩)]] W (GivesC 134 2 W (keyD x ds).length (cellsP (keyD x ds)))) := Lib.hid (fun W h => by
    have := filtered 105 #[.pointer (some ⟨w.heap.size, 0, none⟩), .pointer (some ⟨w.heap.size + 1, 0, none⟩)] (fun j => bitB x j) A n cap W ds hl hn h.pts Try.call105 (fun W2 k hk hb => by
      have h2 := h.later hb
      exact opens N A n cap k (dr ds k).1 (dr ds k).2 x w ds hl hf hk rfl W2 h2)
    rw [hfd] at this
    exact this)
  generalize keyD x ds = K at *
  clear hfd hf2 hf hl
  go_enter Try.func59, Try.ntmps59
  go_wp2_with fail
  refine Code.wp_mono (Q := fun e a' w' => ∃ (A2 : Option Addr) (c2 b5 : Nat), e = .normal ∧ a' = ⟨#[.agg #[.int .i64 N, .slice A n cap], .int .i64 s, .int .i64 x, .pointer (some ⟨w.heap.size, 0, none⟩), undef, .pointer (some ⟨w.heap.size + 1, 0, none⟩), .slice none 0 0, .pointer (some ⟨b5, 0, none⟩), undef, undef, undef, .pointer (some ⟨w.heap.size, 0, none⟩), .int .i64 N, .pointer (some ⟨w.heap.size, 1, none⟩), .slice A n cap, .func (.func 105) #[] #[.pointer (some ⟨w.heap.size, 0, none⟩), .pointer (some ⟨w.heap.size + 1, 0, none⟩)], .slice A2 K.length c2, .agg #[.int .i64 N, .slice A2 K.length c2], undef, undef, undef, undef, undef, undef, undef, undef, undef, undef, undef, undef, undef, undef, undef, undef, undef], []⟩ ∧ LK w N A n cap ds x w' ∧ Holds w' b5 #[.int .i64 N, .slice A2 K.length c2] 30 ∧ PtsAt w' w'.heap.size A2 K) ?_ ?_
  rotate_left
  · have HS0_ := And.intro c0 (And.intro c1 c2)
    have S0_ := S0
    have HK0_ : w2.cell? ⟨w.heap.size, 0, none⟩ = some (.int .i64 N) ∧ w2.cell? ⟨w.heap.size, 1, none⟩ = some (.slice A n cap) := ⟨c0, c1⟩
    have HSET : Hid (∀ (W : World) (b : Nat) (x y : Value), w.heap.size < b → (W.cell? ⟨w.heap.size, 0, none⟩ = some (.int .i64 N) ∧ W.cell? ⟨w.heap.size, 1, none⟩ = some (.slice A n cap)) →
        (((W.setCell ⟨b, 0, none⟩ x).setCell ⟨b, 1, none⟩ y).cell? ⟨w.heap.size, 0, none⟩ = some (.int .i64 N) ∧ ((W.setCell ⟨b, 0, none⟩ x).setCell ⟨b, 1, none⟩ y).cell? ⟨w.heap.size, 1, none⟩ = some (.slice A n cap))) := Lib.hid (fun W b x y hb h => by
      have hB : Below b W ((W.setCell ⟨b, 0, none⟩ x).setCell ⟨b, 1, none⟩ y) := ((Below.refl b W).setCell (p := ⟨b, 0, none⟩) (Nat.le_refl _) x).setCell (p := ⟨b, 1, none⟩) (Nat.le_refl _) y
      exact ⟨(hB.cell (p := ⟨w.heap.size, 0, none⟩) hb).trans h.1, (hB.cell (p := ⟨w.heap.size, 1, none⟩) hb).trans h.2⟩)
    have hlt2_ : w.heap.size < w2.heap.size := by have := S0.lt; omega
    have HAL : Hid (∀ W : World, LK w N A n cap ds x W → ∀ o, LK w N A n cap ds x (W.alloc o)) := Lib.hid (fun W h o => h.later (below1 W o))
    have HDR : Hid (∀ W : World, LK w N A n cap ds x W → LK w N A n cap ds x W.drew) := Lib.hid (fun W h => h.later (Below.refl _ _).drew)
    go_region_held3 (fun W => W.cell? ⟨w.heap.size, 0, none⟩ = some (.int .i64 N) ∧ W.cell? ⟨w.heap.size, 1, none⟩ = some (.slice A n cap)) (first | exact HK0_ | exact HS1_ | assumption | exact HSET.out _ _ _ _ hlt2_ HS1_ | exact HSET.out _ _ _ _ hlt3_ HS1_ | go_keep) (first | (go_at_call 104; refine (HF0.out _ (by first | exact HDR.out _ S0_ | exact HDR.out _ (HAL.out _ S0_ _) | exact HDR.out _ (HDR.out _ (HAL.out _ S0_ _)) | exact HDR.out _ (HAL.out _ (HDR.out _ S0_) _))).mono ?_; rintro e w3 ⟨A2, c2, rfl, hown3, hb3⟩; have S3_ := LK.later (by first | exact HDR.out _ S0_ | exact HDR.out _ (HAL.out _ S0_ _) | exact HDR.out _ (HDR.out _ (HAL.out _ S0_ _)) | exact HDR.out _ (HAL.out _ (HDR.out _ S0_) _)) hb3; have HS1_ : w3.cell? ⟨w.heap.size, 0, none⟩ = some (.int .i64 N) ∧ w3.cell? ⟨w.heap.size, 1, none⟩ = some (.slice A n cap) := ⟨S3_.cells.1, S3_.cells.2.1⟩; have hlt3_ : w.heap.size < w3.heap.size := Nat.lt_of_lt_of_le (Nat.lt_succ_self _) (Nat.le_of_lt S3_.lt); (try (have HZ_ : Holds w3 w2.heap.size #[.int .i64 0, .slice none 0 0] 30 := Holds.later (by exact Holds.new w2 _ _) hb3; obtain ⟨⟨z0_, z1_⟩, z2_⟩ := HZ_.two))))
    · exact ⟨A2, c2, w3.heap.size, rfl, rfl, S3_.later (below1 _ _), Holds.new _ _ _, ((pts_own hown3).later ((below1 w3 (.cells #[.int .i64 N, .slice A2 K.length c2] 30)).mono (Nat.le_refl _))).wide (by simp)⟩
    all_goals
      have hB : Below w2.heap.size w3 ((w3.setCell ⟨w2.heap.size, 0, none⟩ (.int .i64 N)).setCell ⟨w2.heap.size, 1, none⟩ (.slice A2 K.length c2)) := ((Below.refl _ w3).setCell (p := ⟨w2.heap.size, 0, none⟩) (Nat.le_refl _) _).setCell (p := ⟨w2.heap.size, 1, none⟩) (Nat.le_refl _) _
      have hlt9 := S0.lt
      have hown4 := HouLimpl.own_far hown3 w2.heap.size (by simp) (.int .i64 N) (.slice A2 K.length c2)
      exact ⟨A2, c2, w2.heap.size, rfl, rfl, S3_.from hlt9 hB, set_own (set_own HZ_ 0 (.int .i64 N)) 1 (.slice A2 K.length c2), pts_own hown4⟩
  rintro e a' w4 ⟨A2, cc, b5, rfl, rfl, S4, B5, P2⟩
  clear HF0 S0 c0 c1 c2
  obtain ⟨⟨d0, d1⟩, _⟩ := B5.two
  obtain ⟨i0, hi, hz0, hz1, hz2⟩ := info_parts infoI
  go_wp2_with fail
  refine (QD.out A2 _ cc rfl _ P2).mono ?_
  rintro e w5 ⟨g, rfl, hG, hg, hb5_⟩
  replace S4 := S4.later hb5_
  clear QD B5 P2 d0 d1 hb5_ hg
  have hgl := hG.lt
  have hlt5 := S4.lt
  obtain ⟨B, hB⟩ : ∃ B, w5.heap.size = B := ⟨_, rfl⟩
  rw [hB] at hgl hlt5
  have hsz : B ≤ w5.heap.size := Nat.le_of_eq hB.symm
  have HSB : Hid (∀ W W' : World, (LK w N A n cap ds x W ∧ Holds W g (icells D).toArray 3) → Below B W W' → (LK w N A n cap ds x W' ∧ Holds W' g (icells D).toArray 3)) := Lib.hid (fun W W' h hb => ⟨h.1.from hlt5 hb, (hb.block _ hgl).trans h.2⟩)
  have T0 : LK w N A n cap ds x w5 ∧ Holds w5 g (icells D).toArray 3 := ⟨S4, hG⟩
  have HZ0 : openTo D 0 = [] := rfl
  have HS : Hid (∀ k, openTo D (k + 1) = if 0 ≤ D.getD k 0 then openTo D k ++ [(k : Int)] else openTo D k) := Lib.hid (fun k => rfl)
  have HLen : Hid (∀ k, (openTo D k).length ≤ k) := Lib.hid (fun k => openTo_len D k)
  clear S4 hG
  generalize openTo D = nt at *
  go_wp2_with fail
  go_loopw [8, 22] (fun v q wr => ∃ k : Nat, k ≤ N ∧ q = .int .i64 k ∧ wr.ownsRow B 3 1 v (nt k).length (icells (nt k)) ∧ B ≤ wr.heap.size ∧ (LK w N A n cap ds x wr ∧ Holds wr g (icells D).toArray 3))
    (fun _ q _ => N - (intOf q).toNat)
  case atStart => exact ⟨0, Nat.zero_le _, rfl, by rw [HZ0]; exact World.ownsRow_nil _ _ _ _, hsz, T0⟩
  case round =>
    clear T0 hsz hB
    obtain ⟨k, hkn, rfl, hown, hsz, T0⟩ := hrel
    by_cases hlt : k < N
    rotate_left
    · obtain rfl : N = k := by omega
      have hown2 := Lib.hid hown
      obtain ⟨A1, c1, rfl⟩ := own_shape hown
      clear hown HS HLen
      go_wp2_with fail
      go_ret
      exact ⟨A1, c1, by rw [HE.out]; rfl, by rw [HE.out]; exact own_base hown2.out (show w.heap.size ≤ B by omega), T0.1.2.2.2⟩
    have hk1 : (k : Int) < (N : Int) := by omega
    have hk0 : (0 : Int) ≤ (k : Int) := by omega
    have HL := Lib.hid (HS.out k)
    have hlen := HLen.out k
    have ck := HouVspec.dist_cell T0.2 hDl hlt
    generalize hl0 : nt k = l0 at *
    obtain ⟨q, hm⟩ : ∃ q, l0.length = q := ⟨_, rfl⟩
    rw [hm] at hown hlen
    obtain ⟨Ao, co, rfl⟩ := own_shape hown
    have hq7 : q ≤ 7 := by omega
    obtain ⟨o, ho⟩ : ∃ o, D.getD k 0 = o := ⟨_, rfl⟩
    rw [ho] at HL ck
    have T1 := Lib.hid T0
    clear hl0 hlen HLen HS ho T0
    by_cases ho0 : 0 ≤ o
    rotate_left
    · have HL2 : Hid (nt (k + 1) = l0) := Lib.hid (by rw [HL.out, if_neg ho0])
      clear HL
      replace hown := Lib.hid hown
      go_wp2_with fail
      exact ⟨⟨k + 1, by omega, by go_num, by rw [HL2.out, hm]; exact hown.out, hsz, T1.out⟩, by simp [intOf]; omega⟩
    have HL2 : Hid (nt (k + 1) = l0 ++ [(k : Int)]) := Lib.hid (by rw [HL.out, if_pos ho0])
    clear HL
    go_wp2_with (at_builtin; refine wpList_append_own _ rfl _ _ 26 rfl (B) 3 i0 (.int .i64 0) 1 8 Try.underlying26 hi hz0 hz1 hz2 rfl (by decide) _ _ _ rfl (hown.alloc _) ⟨wr.heap.size, 0, none⟩ 1 1 [.int .i64 (k : Int)] rfl rfl ?c1 ?c2 ?c3 ?c4 ?c5 ?_)
    case c1 => (intro j u hj; match j, hj with | 0, hj => (simp at hj; subst hj; simp [Addr.add]))
    case c2 => (intro u hu; simp at hu; subst hu; rfl)
    case c3 => (unfold maxLen; omega)
    case c4 => omega
    case c5 => (simp; omega)
    intro v1_ wa_ ho_ hg_ _
    have HN : Hid (wa_.ownsRow B 3 1 v1_ (nt (k + 1)).length (icells (nt (k + 1))) ∧ B ≤ wa_.heap.size ∧ (LK w N A n cap ds x wa_ ∧ Holds wa_ g (icells D).toArray 3)) := Lib.hid (by
      have hb0 : Below B wr (wr.alloc (Obj.cells #[.int .i64 (k : Int)] 3)) := (below1 _ _).mono hsz
      have hb1 := hb0.grown hg_ (by simp; omega) (fun g hg => (hown.lt g hg).1)
      rw [HL2.out, icells_snoc, List.length_append, hm]
      exact ⟨ho_, Nat.le_trans hsz hb1.size, HSB.out _ _ T1.out hb1⟩)
    clear ho_ hg_ hown HL2 T1
    go_wp2_with fail
    first
      | exact ⟨⟨k + 1, by omega, by go_num, HN.out.1, HN.out.2.1, HN.out.2.2⟩, by simp [intOf]; omega⟩
      | (go_roundw <;> first | exact ⟨k + 1, by omega, by go_num, HN.out.1, HN.out.2.1, HN.out.2.2⟩ | (simp [intOf]; omega))

set_option maxRecDepth 100000 in
set_option maxHeartbeats 1600000 in
theorem hallsWith (H : Int) (A : Option Addr) (n cap : Nat) (s x : Int) (w : World) (ds : List (Int × Int)) (hl : ds.length = n) (hn : n ≤ 1048576) (hp : PtsAt w w.heap.size A ds) :
    Calls Try.prog 14 #[.agg #[.int .i64 H, .slice A n cap], .int .i64 s, .int .i64 x] w (GivesI 3 w (withL H ds s x)) := by
  obtain ⟨r, hr⟩ : ∃ r, withL H ds s x = r := ⟨_, rfl⟩
  have HR := Lib.hid hr
  rw [hr]
  clear hr
  have Q1 : Hid (∀ w hp, _) := Lib.hid fun w hp => HouXimpl.ringOk H A n cap x w ds hl hn hp
  cases cA : ringB H ds x
  · have E : r = [] := by rw [← HR.out]; exact with_no (by rw [cA]; rfl)
    subst E
    rw [cA] at Q1
    clear HR cA hl
    go_enter Try.func14, Try.ntmps14
    go_wp2_with fail
    have X0 := HouBox.boxH w H A n cap 30 (k := w.heap.size) (by simp)
    have b0 := PointOk.below1 w (Obj.cells #[.int .i64 H, .slice A n cap] 30)
    have HO : ∀ W W' : World, (HouBox.BoxH W (w.heap.size) H A n cap ∧ PtsAt W w.heap.size A ds ∧ Below w.heap.size w W) → Below W.heap.size W W' → (HouBox.BoxH W' (w.heap.size) H A n cap ∧ PtsAt W' w.heap.size A ds ∧ Below w.heap.size w W') := fun W W' ⟨h0, x0, hb⟩ h => ⟨h0.later h, x0.later (h.mono hb.size), hb.trans (h.mono hb.size)⟩
    have hz0_ : Hid (((w.alloc (Obj.cells #[.int .i64 H, .slice A n cap] 30))).heap.size = w.heap.size + 1) := Lib.hid (by simp)
    have Y0 : PtsAt ((w.alloc (Obj.cells #[.int .i64 H, .slice A n cap] 30))) w.heap.size A ds := hp.later b0
    generalize (w.alloc (Obj.cells #[.int .i64 H, .slice A n cap] 30)) = w0 at X0 Y0 b0 hz0_ ⊢
    have S0 := (⟨X0, Y0, b0⟩ : HouBox.BoxH w0 (w.heap.size) H A n cap ∧ PtsAt w0 w.heap.size A ds ∧ Below w.heap.size w w0)
    clear X0 Y0 b0
    obtain ⟨⟨_, _⟩, _, _⟩ := id S0
    refine (Q1.out _ (S0.2.1.wide S0.2.2.size)).mono ?_
    rintro e w1 ⟨rfl, hb_⟩
    replace S0 := HO _ _ S0 hb_
    clear hb_
    obtain ⟨⟨_, _⟩, _, _⟩ := id S0
    go_wp2_with fail
    go_ret
    exact ⟨none, 0, rfl, World.ownsRow_nil _ _ _ _, S0.2.2⟩
  rw [cA] at Q1
  have Q2 : Hid (∀ w, _) := Lib.hid fun w => HouWimpl.hasHall H A n cap s w
  have hrg : houseB H ds = true := by unfold ringB at cA; rw [Bool.and_eq_true] at cA; exact cA.1
  have hf := house_form hrg
  have hh1 := hf.h1
  cases hc : inH H s
  · have E : r = [] := by rw [← HR.out]; exact with_no (by rw [cA, hc]; rfl)
    subst E
    rw [hc] at Q2
    clear HR cA hc hl hf
    go_enter Try.func14, Try.ntmps14
    go_wp2_with fail
    have X0 := HouBox.boxH w H A n cap 30 (k := w.heap.size) (by simp)
    have b0 := PointOk.below1 w (Obj.cells #[.int .i64 H, .slice A n cap] 30)
    have HO : ∀ W W' : World, (HouBox.BoxH W (w.heap.size) H A n cap ∧ PtsAt W w.heap.size A ds ∧ Below w.heap.size w W) → Below W.heap.size W W' → (HouBox.BoxH W' (w.heap.size) H A n cap ∧ PtsAt W' w.heap.size A ds ∧ Below w.heap.size w W') := fun W W' ⟨h0, x0, hb⟩ h => ⟨h0.later h, x0.later (h.mono hb.size), hb.trans (h.mono hb.size)⟩
    have hz0_ : Hid (((w.alloc (Obj.cells #[.int .i64 H, .slice A n cap] 30))).heap.size = w.heap.size + 1) := Lib.hid (by simp)
    have Y0 : PtsAt ((w.alloc (Obj.cells #[.int .i64 H, .slice A n cap] 30))) w.heap.size A ds := hp.later b0
    generalize (w.alloc (Obj.cells #[.int .i64 H, .slice A n cap] 30)) = w0 at X0 Y0 b0 hz0_ ⊢
    have S0 := (⟨X0, Y0, b0⟩ : HouBox.BoxH w0 (w.heap.size) H A n cap ∧ PtsAt w0 w.heap.size A ds ∧ Below w.heap.size w w0)
    clear X0 Y0 b0
    obtain ⟨⟨_, _⟩, _, _⟩ := id S0
    refine (Q1.out _ (S0.2.1.wide S0.2.2.size)).mono ?_
    rintro e w1 ⟨rfl, hb_⟩
    replace S0 := HO _ _ S0 hb_
    clear hb_
    obtain ⟨⟨_, _⟩, _, _⟩ := id S0
    go_wp2_with fail
    refine (Q2.out _).mono ?_
    rintro e w2 ⟨rfl, hb_⟩
    replace S0 := HO _ _ S0 hb_
    clear hb_
    obtain ⟨⟨_, _⟩, _, _⟩ := id S0
    go_wp2_with fail
    go_ret
    exact ⟨none, 0, rfl, World.ownsRow_nil _ _ _ _, S0.2.2⟩
  rw [hc] at Q2
  have hs := inH_iff.1 hc
  obtain ⟨N, rfl⟩ := Int.eq_ofNat_of_zero_le (show 0 ≤ H by omega)
  obtain ⟨s, rfl⟩ := Int.eq_ofNat_of_zero_le hs.1
  have hsN : s < N := by omega
  have E : r = withN N ds s x := by rw [← HR.out]; exact with_yes (by rw [cA, hc]; rfl)
  have Q3 := Lib.hid fun w hp => hallsIn N A n cap s x w ds hl hf hsN hp
  subst E
  unfold GivesI at Q3
  generalize withN N ds s x = l at *
  clear HR cA hc hrg hf hs hl
  go_enter Try.func14, Try.ntmps14
  go_wp2_with fail
  have X0 := HouBox.boxH w N A n cap 30 (k := w.heap.size) (by simp)
  have b0 := PointOk.below1 w (Obj.cells #[.int .i64 N, .slice A n cap] 30)
  have HO : ∀ W W' : World, (HouBox.BoxH W (w.heap.size) N A n cap ∧ PtsAt W w.heap.size A ds ∧ Below w.heap.size w W) → Below W.heap.size W W' → (HouBox.BoxH W' (w.heap.size) N A n cap ∧ PtsAt W' w.heap.size A ds ∧ Below w.heap.size w W') := fun W W' ⟨h0, x0, hb⟩ h => ⟨h0.later h, x0.later (h.mono hb.size), hb.trans (h.mono hb.size)⟩
  have hz0_ : Hid (((w.alloc (Obj.cells #[.int .i64 N, .slice A n cap] 30))).heap.size = w.heap.size + 1) := Lib.hid (by simp)
  have Y0 : PtsAt ((w.alloc (Obj.cells #[.int .i64 N, .slice A n cap] 30))) w.heap.size A ds := hp.later b0
  generalize (w.alloc (Obj.cells #[.int .i64 N, .slice A n cap] 30)) = w0 at X0 Y0 b0 hz0_ ⊢
  have S0 := (⟨X0, Y0, b0⟩ : HouBox.BoxH w0 (w.heap.size) N A n cap ∧ PtsAt w0 w.heap.size A ds ∧ Below w.heap.size w w0)
  clear X0 Y0 b0
  obtain ⟨⟨_, _⟩, _, _⟩ := id S0
  refine (Q1.out _ (S0.2.1.wide S0.2.2.size)).mono ?_
  rintro e w1 ⟨rfl, hb_⟩
  replace S0 := HO _ _ S0 hb_
  clear hb_
  obtain ⟨⟨_, _⟩, _, _⟩ := id S0
  go_wp2_with fail
  refine (Q2.out _).mono ?_
  rintro e w2 ⟨rfl, hb_⟩
  replace S0 := HO _ _ S0 hb_
  clear hb_
  obtain ⟨⟨_, _⟩, _, _⟩ := id S0
  go_wp2_with fail
  refine (Q3.out _ (S0.2.1.wide S0.2.2.size)).mono ?_
  rintro e w5 ⟨A2, c2, rfl, H2, hb_⟩
  replace H2 := Lib.hid (own_base H2 (b' := w.heap.size) S0.2.2.size)
  replace S0 := HO _ _ S0 hb_
  clear hb_ Q3 Q1 Q2
  go_wp2_with fail
  go_ret
  exact ⟨A2, c2, rfl, H2.out, S0.2.2⟩
end Go.Proofs.Ytagokcbldkbdmaa.HouKimpl


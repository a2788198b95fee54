/-
  Slices of points are appended to rows of the call's own, empty ones too; slices.Concat of two of them; what is left of a slice behind an element.
-/
import Derived.Test.YthokeedmccfalaaConcat
import Derived.Test.YthokeedmccfalaaRoomRes
import Derived.Lib.AppendZerosOnto
import Derived.Lib.Walk
import Derived.Deep.RegionHeld3
import Derived.Deep.AppendLies
namespace Go.Proofs.Ythokeedmccfalaa.PtsRow
open Go.RowKit Own PointOk Pts Blk RoomRes

theorem append_pts (w : World) {ops : Array Oper} {rest : List Oper} {o : Oper} {a : Act} {Q : Exit → Act → World → Prop} (hgd : o.guard = none) (s x : Operand)
    (ho : o.op = .call { callee := .builtin .append, args := #[s, x], argTypes := #[35, 35] })
    (B : Nat) (v : Value) (n : Nat) (xs : List Value) (hs : a.eval s = v) (hown : w.ownsRow B 49 2 v n xs)
    (A2 : Option Addr) (m c : Nat) (zs : List (Int × Int)) (hz : zs.length = m) (hx : a.eval x = .slice A2 m c) (hq : PtsAt w w.heap.size A2 zs) (hN : n + m ≤ 1048576) (hB : B ≤ w.heap.size)
    (h : ∀ v' w', w'.ownsRow B 49 2 v' (n + m) (xs ++ cellsP zs) → w.grownBy w' v.ownBlock → wpList Try.prog ops Q rest (a.put o.dst v') w') : wpList Try.prog ops Q (o :: rest) a w := by
  obtain ⟨i0, hi, hz0, hz1, hz2⟩ := info_parts LawRoom.infoP
  obtain ⟨A0, c0, rfl⟩ := own_shape hown
  by_cases hm : m = 0
  · subst hm
    obtain rfl : zs = [] := List.length_eq_zero_iff.1 hz
    have hc : n ≤ c0 := by
      rcases hown.2 with ⟨h1, _⟩ | ⟨g', cap', cur, h1, _, _, h4, _⟩
      · injection h1 with _ h2 h3; omega
      · injection h1 with _ h2 h3; omega
    refine Lib.wpList_append_run w hgd s x _ _ ho _ _ hs hx _ _ (run_append_nothing w _ _ o.type _ i0 Try.underlying35 hi _ _ _ hc _ ?_) ?_
    · cases A2 with
      | none => exact Src.ofNil w Try.underlying35 _
      | some ad => exact Src.ofSlice w Try.underlying35 ad 0 c [] (by simp) (by simp) (by simp)
    · exact h _ _ (by simpa [cellsP] using hown) ⟨rfl, rfl, rfl, Nat.le_refl _, fun _ _ _ => rfl⟩
  · obtain ⟨ad, rfl⟩ : ∃ ad, A2 = some ad := by
      obtain ⟨ad, e, _⟩ := hq 0 (by omega)
      exact ⟨ad, e⟩
    refine wpList_append_lies w hgd s x _ ho B 49 i0 (.agg #[.int .i64 0, .int .i64 0]) 2 16 Try.underlying35 hi hz0 hz1 hz2 rfl (by decide) _ n xs hs hown ad m c (cellsP zs) hx (by rw [cellsP_length, hz]) (Concat.news hq) (Concat.one zs) (by omega) (by unfold maxLen; omega) (by omega) hB _ rfl ?_
    intro g cap w' ho' hg _ _
    exact h _ _ ho' hg

/-- append of a slice of points, an empty one too, at a step of a region that draws its order. -/
theorem step_append_pts (w : World) {ops : Array Oper} {o : Oper} {a : Act} {K : Act → World → Prop} {Q : Exit → Act → World → Prop} {E : Prop} (hgd : o.guard = none) (s x : Operand)
    (ho : o.op = .call { callee := .builtin .append, args := #[s, x], argTypes := #[35, 35] })
    (B : Nat) (v : Value) (n : Nat) (xs : List (Int × Int)) (hs : a.eval s = v) (hown : w.ownsRow B 49 2 v n (cellsP xs))
    (A2 : Option Addr) (m c : Nat) (zs : List (Int × Int)) (hz : zs.length = m) (hx : a.eval x = .slice A2 m c) (hq : PtsAt w w.heap.size A2 zs) (hN : n + m ≤ 1048576) (hB : B ≤ w.heap.size)
    (h : ∀ v' w', w'.ownsRow B 49 2 v' (n + m) (cellsP (xs ++ zs)) → w.grownBy w' v.ownBlock → K (a.put o.dst v') w') :
    if Region.wanted o (yielded ops a.tmps) = true then Oper.wp Try.prog o a w K Q else E := by
  have hw : Region.wanted o (yielded ops a.tmps) = true := by simp [Region.wanted, hgd]
  rw [if_pos hw]
  obtain ⟨i0, hi, hz0, hz1, hz2⟩ := info_parts LawRoom.infoP
  obtain ⟨A0, c0, rfl⟩ := own_shape hown
  by_cases hm : m = 0
  · subst hm
    obtain rfl : zs = [] := List.length_eq_zero_iff.1 hz
    have hc : n ≤ c0 := by
      rcases hown.2 with ⟨h1, _⟩ | ⟨g', cap', cur, h1, _, _, h4, _⟩
      · injection h1 with _ h2 h3; omega
      · injection h1 with _ h2 h3; omega
    refine Lib.wp_append_run w s x _ _ ho _ _ hs hx _ _ (run_append_nothing w _ _ o.type _ i0 Try.underlying35 hi _ _ _ hc _ ?_) ?_
    · cases A2 with
      | none => exact Src.ofNil w Try.underlying35 _
      | some ad => exact Src.ofSlice w Try.underlying35 ad 0 c [] (by simp) (by simp) (by simp)
    · exact h _ _ (by simpa using hown) ⟨rfl, rfl, rfl, Nat.le_refl _, fun _ _ _ => rfl⟩
  · obtain ⟨ad, rfl⟩ : ∃ ad, A2 = some ad := by
      obtain ⟨ad, e, _⟩ := hq 0 (by omega)
      exact ⟨ad, e⟩
    refine wp_append_lies w s x _ ho B 49 i0 _ 2 16 Try.underlying35 hi hz0 hz1 hz2 rfl (by decide) _ n (cellsP xs) hs hown ad m c (cellsP zs) hx (by rw [cellsP_length, hz]) (Concat.news hq) (Concat.one zs) (by omega) (by unfold maxLen; omega) (by omega) hB _ rfl ?_
    intro g cap w' ho' hg _ _
    exact h _ _ (by rw [cellsP_app]; exact ho') hg
set_option maxHeartbeats 4000000 in
set_option maxRecDepth 100000 in
theorem concat (V : Nat) (A1 A2 : Option Addr) (n1 c1 n2 c2 N : Nat) (ps qs : List (Int × Int)) (hl1 : ps.length = n1) (hl2 : qs.length = n2) (hN : n1 + n2 = N) (hN0 : 0 < N) (hn : N ≤ 1048576) (w : World)
    (hp : PtsAt w w.heap.size A1 ps) (hq : PtsAt w w.heap.size A2 qs) (hV : V < w.heap.size) (v0 : w.cell? ⟨V, 0, none⟩ = some (.slice A1 n1 c1)) (v1 : w.cell? ⟨V, 1, none⟩ = some (.slice A2 n2 c2)) (cc : Nat) :
    Calls Try.prog 72 #[.slice (some ⟨V, 0, none⟩) 2 cc] w fun e w' =>
      ∃ A c, e = .returned (.slice A N c) ∧ w'.ownsRow w.heap.size 49 2 (.slice A N c) N (cellsP (ps ++ qs)) ∧ Below w.heap.size w w' := by
  have u1 : IntKind.i64.wrap ((n1 : Int) + (n2 : Int)) = (N : Int) := by rw [show (n1 : Int) + n2 = N by omega]; exact IntWalk.i64_in _ (by omega)
  have u2 : IntKind.i64.wrap (n1 : Int) = (n1 : Int) := IntWalk.i64_in _ (by omega)
  have u3 : ¬ ((N : Int) < 0) := by omega
  have u4 : ¬ ((n1 : Int) < 0) := by omega
  go_enter Try.func72, Try.ntmps72
  go_wp2_with fail
  go_loopw [3, 11] (fun s i wr => ∃ k, k ≤ 2 ∧ i = .int .i64 ((k : Nat) : Int) ∧ s = .int .i64 (if k = 0 then 0 else if k = 1 then (n1 : Int) else (N : Int)) ∧ wr = w) (fun _ i _ => 2 - (intOf i).toNat)
  case atStart => exact ⟨0, by omega, rfl, rfl, rfl⟩
  case round =>
    obtain ⟨k, hk, rfl, rfl, rfl⟩ := hrel
    rcases (by omega : k = 0 ∨ k = 1 ∨ k = 2) with rfl | rfl | rfl
    · go_wp2_with fail
      exact ⟨⟨1, by omega, rfl, by simp⟩, by simp [intOf]⟩
    · go_wp2_with fail
      exact ⟨⟨2, by omega, rfl, by simp⟩, by simp [intOf]⟩
    · go_wp2_with fail
      refine (Concat.growOwn N hN0 hn _).mono ?_
      rintro e w1 ⟨cg, rfl, hown, _, hb⟩
      replace v0 := (hb.cell (p := ⟨V, 0, none⟩) hV).trans v0
      replace v1 := (hb.cell (p := ⟨V, 1, none⟩) hV).trans v1
      replace hp := hp.later hb
      replace hq := hq.later hb
      have hs1 := hb.size
      obtain ⟨B, hB⟩ : ∃ B, wr.heap.size = B := ⟨_, rfl⟩
      rw [hB] at hown hb hp hq hV hs1 ⊢
      replace hB := Lib.hid hB
      go_wp2_with fail
      go_loopw [6, 27] (fun v i wr2 => ∃ k, k ≤ 2 ∧ i = .int .i64 ((k : Nat) : Int) ∧
        (k = 0 ∧ wr2.ownsRow B 49 2 v 0 [] ∨ k = 1 ∧ wr2.ownsRow B 49 2 v n1 (cellsP ps) ∨ k = 2 ∧ wr2.ownsRow B 49 2 v N (cellsP (ps ++ qs))) ∧
        Below B w1 wr2) (fun _ i _ => 2 - (intOf i).toNat)
      case atStart => exact ⟨0, by omega, rfl, .inl ⟨rfl, hown⟩, Below.refl _ _⟩
      case round =>
        obtain ⟨k, hk, rfl, hh, hb2⟩ := hrel
        replace v0 := (hb2.cell (p := ⟨V, 0, none⟩) hV).trans v0
        replace v1 := (hb2.cell (p := ⟨V, 1, none⟩) hV).trans v1
        replace hp := hp.later hb2
        replace hq := hq.later hb2
        have hs2 := hb2.size
        rcases hh with ⟨rfl, ho⟩ | ⟨rfl, ho⟩ | ⟨rfl, ho⟩
        · have ho2 := Lib.hid ho
          have hp2 := Lib.hid (hp.wide (Nat.le_trans hs1 hs2))
          clear ho hp hq
          go_wp2_with (at_builtin; refine append_pts _ rfl _ _ rfl B _ 0 [] rfl ho2.out A1 n1 c1 ps hl1 rfl hp2.out (by omega) (by omega) ?_)
          intro v' w' h1 hg
          have hb3 := hb2.grown hg (by omega) (fun g hg2 => (ho2.out.lt g hg2).1)
          replace h1 := Lib.hid h1
          go_wp2_with fail
          exact ⟨⟨1, by omega, rfl, .inr (.inl ⟨rfl, h1.out⟩), hb3⟩, by simp [intOf]⟩
        · have ho2 := Lib.hid ho
          have hq2 := Lib.hid (hq.wide (Nat.le_trans hs1 hs2))
          clear ho hp hq
          go_wp2_with (at_builtin; refine append_pts _ rfl _ _ rfl B _ n1 (cellsP ps) rfl ho2.out A2 n2 c2 qs hl2 rfl hq2.out (by omega) (by omega) ?_)
          intro v' w' h1 hg
          have hb3 := hb2.grown hg (by omega) (fun g hg2 => (ho2.out.lt g hg2).1)
          rw [← cellsP_app] at h1
          replace h1 := Lib.hid h1
          go_wp2_with fail
          exact ⟨⟨2, by omega, rfl, .inr (.inr ⟨rfl, h1.out⟩), hb3⟩, by simp [intOf]⟩
        · obtain ⟨A3, c3, rfl⟩ := own_shape ho
          have ho2 := Lib.hid ho
          clear ho
          go_wp2_with fail
          go_ret
          have hB2 := hB.out
          subst hB2
          exact ⟨A3, c3, rfl, ho2.out, hb.trans hb2⟩

theorem pts_take {w : World} {b : Nat} {A : Option Addr} {ps : List (Int × Int)} (h : PtsAt w b A ps) (k : Nat) : PtsAt w b A (ps.take k) := by
  intro j hj
  simp at hj
  obtain ⟨ad2, e, h2, h3, h4⟩ := h j (by omega)
  exact ⟨ad2, e, h2, by rw [List.getElem_take]; exact h3, by rw [List.getElem_take]; exact h4⟩
/-- What is left of a slice behind its first elements, where the capacity may end there. -/
def dropA (B : Option Addr) (cb j : Nat) : Option Addr := if cb = j then B else B.map fun x => { block := x.block, off := x.off + j * 2 }
theorem pts_drop {w : World} {b : Nat} {A : Option Addr} {ps : List (Int × Int)} (h : PtsAt w b A ps) {cb j : Nat} (hj0 : 0 < j) (hcb : ps.length ≤ cb) : PtsAt w b (dropA A cb j) (ps.drop j) := by
  intro i hi
  rw [List.length_drop] at hi
  obtain ⟨ad, rfl, h2, h3, h4⟩ := h (j + i) (by omega)
  unfold dropA
  rw [if_neg (by omega)]
  have e : (⟨ad.block, ad.off + j * 2, none⟩ : Addr).add (i * 2) = ad.add ((j + i) * 2) := by
    unfold Addr.add
    by_cases hi0 : i = 0
    · subst hi0
      simp
      intro h; omega
    · rw [if_neg (by omega), if_neg (by omega)]
      simp [Nat.add_mul, Nat.add_assoc]
  refine ⟨_, rfl, h2, ?_⟩
  rw [List.getElem_drop, e]
  exact ⟨h3, h4⟩
end Go.Proofs.Ythokeedmccfalaa.PtsRow

/-
  slices.Concat of two lists of points, as the landed code reaches it: a new block that holds them one after the other.
-/
import Derived.Test.YthokeedmccfalaaGrow
import Derived.Deep.Upon
namespace Go.Proofs.Ythokeedmccfalaa.Concat
open Go.RowKit PointOk Blk Pts

theorem cellsP_append : ∀ (ps qs : List (Int × Int)), cellsP (ps ++ qs) = cellsP ps ++ cellsP qs
  | [], _ => rfl
  | p :: ps, qs => by simp [cellsP, cellsP_append ps qs]

/-- What a list of points in memory says of its cells. -/
theorem add_odd (ad : Addr) (k : Nat) : ad.add (k * 2 + 1) = ⟨(ad.add (k * 2)).block, (ad.add (k * 2)).off + 1, none⟩ := by
  unfold Addr.add
  by_cases h : k * 2 = 0
  · simp [h]
  · simp [h, Nat.add_assoc]
theorem news {w : World} {b : Nat} {ad : Addr} {ps : List (Int × Int)} (h : PtsAt w b (some ad) ps) : ∀ j u, (cellsP ps)[j]? = some u → w.cell? (ad.add j) = some u := by
  intro j u hj
  have hl := cellsP_length ps
  obtain ⟨hlt, _⟩ := List.getElem?_eq_some_iff.1 hj
  obtain ⟨k, hk⟩ : ∃ k, j = k * 2 ∨ j = k * 2 + 1 := ⟨j / 2, by omega⟩
  have hkl : k < ps.length := by omega
  obtain ⟨ad2, e, _, c0, c1⟩ := h k hkl
  injection e with e
  subst e
  obtain ⟨d0, d1⟩ := cellsP_at ps k hkl
  rcases hk with rfl | rfl
  · rw [d0] at hj
    injection hj with hj
    rw [← hj]
    exact c0
  · rw [d1] at hj
    injection hj with hj
    rw [← hj, add_odd]
    exact c1
theorem one : ∀ (ps : List (Int × Int)), ∀ u ∈ cellsP ps, u.oneCell' = true
  | [], u, h => by simp [cellsP] at h
  | p :: ps, u, h => by
    simp only [cellsP, List.mem_cons] at h
    rcases h with rfl | rfl | h
    · rfl
    · rfl
    · exact one ps u h

theorem owns_pts {w : World} {b g n cap : Nat} {T : TypeId} {ps : List (Int × Int)} (h : w.ownsRow b T 2 (.slice (some ⟨g, 0, none⟩) n cap) n (cellsP ps)) (hb : g < w.heap.size) : PtsAt w w.heap.size (some ⟨g, 0, none⟩) ps := by
  have hl := h.1
  rw [cellsP_length] at hl
  rcases h.2 with ⟨h', _⟩ | ⟨g', cap', cu, h', _, hg, _, _, _, ht⟩
  · cases h'
  · injection h' with h1 h2 h3
    injection h1 with h1
    injection h1 with h1
    subst h1
    intro j hj
    obtain ⟨e0, e1⟩ := cellsP_at ps j hj
    have c0 := cell_of_row w g (j * 2) _ _ _ hg
    have c1 := cell_of_row w g (j * 2 + 1) _ _ _ hg
    rw [← ht, List.getElem?_take, if_pos (by omega), Array.getElem?_toList] at e0 e1
    exact ⟨_, rfl, hb, by rw [add_head]; exact c0.trans e0, by rw [add_head]; exact c1.trans e1⟩

theorem growOwn (n : Nat) (h0 : 0 < n) (hn : n ≤ 1048576) (w : World) :
    Calls Try.prog 119 #[.slice none 0 0, .int .i64 n] w fun e w' =>
      ∃ cap, e = .returned (.slice (some ⟨w.heap.size, 0, none⟩) 0 cap) ∧ w'.ownsRow w.heap.size 49 2 (.slice (some ⟨w.heap.size, 0, none⟩) 0 cap) 0 [] ∧ w.heap.size < w'.heap.size ∧ Below w.heap.size w w' := by
  refine (Grow.growNil n h0 hn w).mono ?_
  rintro e w' ⟨cap, h1, h2, rfl, rfl⟩
  refine ⟨cap, rfl, ⟨rfl, .inr ⟨w.heap.size, cap, _, rfl, Nat.le_refl _, heap_alloc_new w _, Nat.zero_le _, by unfold maxLen; omega, ?_, by simp⟩⟩, by show w.heap.size < (w.alloc _).heap.size; simp, (below1 w _).trans ((Below.refl _ _).drew)⟩
  simp [Builtin.zeroCells]
  omega

set_option maxHeartbeats 4000000 in
set_option maxRecDepth 100000 in
theorem concat (V : Nat) (A1 A2 : Option Addr) (n1 c1 n2 c2 N : Nat) (ps qs : List (Int × Int)) (hl1 : ps.length = n1) (hl2 : qs.length = n2) (h0 : 0 < n1) (hN : n1 + n2 = N) (hn : N ≤ 1048576) (w : World)
    (hp : PtsAt w w.heap.size A1 ps) (hq : PtsAt w w.heap.size A2 qs) (hV : V < w.heap.size) (v0 : w.cell? ⟨V, 0, none⟩ = some (.slice A1 n1 c1)) (v1 : w.cell? ⟨V, 1, none⟩ = some (.slice A2 n2 c2)) (cc : Nat) :
    Calls Try.prog 72 #[.slice (some ⟨V, 0, none⟩) 2 cc] w fun e w' =>
      ∃ g cap, e = .returned (.slice (some ⟨g, 0, none⟩) N cap) ∧ w'.ownsRow w.heap.size 49 2 (.slice (some ⟨g, 0, none⟩) N cap) N (cellsP (ps ++ qs)) ∧ Below w.heap.size w w' := by
  obtain ⟨i0, hi, hz0, hz1, hz2⟩ := info_parts LawRoom.infoP
  have u1 : IntKind.i64.wrap ((n1 : Int) + (n2 : Int)) = (N : Int) := by rw [show (n1 : Int) + n2 = N by omega]; exact IntWalk.i64_in _ (by omega)
  have u2 : IntKind.i64.wrap (n1 : Int) = (n1 : Int) := IntWalk.i64_in _ (by omega)
  have u3 : ¬ ((N : Int) < 0) := by omega
  have u4 : ¬ ((n1 : Int) < 0) := by omega
  go_enter Try.func72, Try.ntmps72
  go_wp2_with fail
  go_loopw [3, 11] (fun s i wr => ∃ k, k ≤ 2 ∧ i = .int .i64 ((k : Nat) : Int) ∧ s = .int .i64 (if k = 0 then 0 else if k = 1 then (n1 : Int) else (N : Int)) ∧ wr = w) (fun _ i _ => 2 - (intOf i).toNat)
  case atStart => exact ⟨0, by omega, rfl, rfl, rfl⟩
  case round =>
    obtain ⟨k, hk, rfl, rfl, rfl⟩ := hrel
    rcases (by omega : k = 0 ∨ k = 1 ∨ k = 2) with rfl | rfl | rfl
    · go_wp2_with fail
      exact ⟨⟨1, by omega, rfl, by simp⟩, by simp [intOf]⟩
    · go_wp2_with fail
      exact ⟨⟨2, by omega, rfl, by simp⟩, by simp [intOf]⟩
    · have hN0 : 0 < N := by omega
      go_wp2_with fail
      refine (growOwn N hN0 hn _).mono ?_
      rintro e w1 ⟨cap0, rfl, hown, hlt, hb⟩
      have hcat := cellsP_append ps qs
      replace v0 := (hb.cell (p := ⟨V, 0, none⟩) hV).trans v0
      replace v1 := (hb.cell (p := ⟨V, 1, none⟩) hV).trans v1
      replace hp := hp.later hb
      replace hq := hq.later hb
      obtain ⟨B, hB⟩ : ∃ B, wr.heap.size = B := ⟨_, rfl⟩
      rw [hB] at hown hlt hb hp hq hV ⊢
      replace hB := Lib.hid hB
      go_wp2_with fail
      go_loopw [6, 27] (fun v i wr2 => ∃ k g cap, k ≤ 2 ∧ i = .int .i64 ((k : Nat) : Int) ∧ B ≤ g ∧ g < wr2.heap.size ∧
        (k = 0 ∧ v = .slice (some ⟨g, 0, none⟩) 0 cap ∧ wr2.ownsRow B 49 2 (.slice (some ⟨g, 0, none⟩) 0 cap) 0 [] ∨
         k = 1 ∧ v = .slice (some ⟨g, 0, none⟩) n1 cap ∧ wr2.ownsRow B 49 2 (.slice (some ⟨g, 0, none⟩) n1 cap) n1 (cellsP ps) ∨
         k = 2 ∧ v = .slice (some ⟨g, 0, none⟩) N cap ∧ wr2.ownsRow B 49 2 (.slice (some ⟨g, 0, none⟩) N cap) N (cellsP (ps ++ qs))) ∧
        Below B w1 wr2) (fun _ i _ => 2 - (intOf i).toNat)
      case atStart => exact ⟨0, B, cap0, by omega, rfl, Nat.le_refl _, hlt, .inl ⟨rfl, rfl, hown⟩, Below.refl _ _⟩
      case round =>
        obtain ⟨k, g, cap, hk, rfl, hg1, hg2, hh, hb2⟩ := hrel
        replace v0 := (hb2.cell (p := ⟨V, 0, none⟩) hV).trans v0
        replace v1 := (hb2.cell (p := ⟨V, 1, none⟩) hV).trans v1
        replace hp := hp.later hb2
        replace hq := hq.later hb2
        rcases hh with ⟨rfl, rfl, ho⟩ | ⟨rfl, rfl, ho⟩ | ⟨rfl, rfl, ho⟩
        · obtain ⟨ad, rfl⟩ : ∃ ad, A1 = some ad := by
            obtain ⟨ad, e, _⟩ := hp 0 (by omega)
            exact ⟨ad, e⟩
          have hnews := Lib.hid (news hp)
          have hlen : (cellsP ps).length = n1 * 2 := by rw [cellsP_length, hl1]
          have hone := one ps
          go_wp2_with (at_builtin; go_must (refine wpList_append_lies _ rfl _ _ _ rfl B 49 i0 _ 2 16 Try.underlying35 hi hz0 hz1 hz2 rfl (by omega) _ _ _ (by rfl) ho ad n1 c1 (cellsP ps) (by rfl) hlen hnews.out hone h0 (by unfold maxLen; omega) (by omega) (by omega) _ rfl ?_))
          intro g2 cap2 w2 ho2 hgr2 hg3 hg4
          try simp only [Nat.zero_add, List.nil_append] at ho2
          try simp only [Nat.zero_add]
          have hgB : B ≤ g2 := by
            rcases hg3 with h | h
            · simp [Value.ownBlock] at h; omega
            · omega
          have hb3 := hb2.grown hgr2 (by omega) (fun k hk => by simp [Value.ownBlock] at hk; omega)
          go_wp2_with fail
          refine ⟨⟨1, g2, cap2, by omega, rfl, hgB, hg4, .inr (.inl ⟨rfl, rfl, ho2⟩), hb3⟩, by simp [intOf]⟩
        · by_cases hz : n2 = 0
          · subst hz
            obtain rfl : qs = [] := List.length_eq_zero_iff.1 hl2
            obtain rfl : n1 = N := by omega
            have hc : n1 ≤ cap := by
              rcases ho.2 with ⟨h, _⟩ | ⟨g', cap', cur, h, _, _, h4, _⟩
              · cases h
              · injection h with _ _ h; omega
            have hrz : ∀ ty, (Builtin.append_ #[35, 35] ty #[.slice (some ⟨g, 0, none⟩) n1 cap, .slice A2 0 c2]).run Try.prog wr = .ok (.slice (some ⟨g, 0, none⟩) n1 cap) wr := fun ty => by
              refine run_append_nothing wr _ _ ty _ i0 Try.underlying35 hi _ _ _ hc _ ?_
              cases A2 with
              | none => exact Src.ofNil wr Try.underlying35 _
              | some ad => exact Src.ofSlice wr Try.underlying35 ad 0 c2 [] (by simp) (by simp) (by simp)
            go_wp2_with (at_builtin; refine Lib.wpList_append_run _ rfl _ _ _ _ rfl _ _ rfl rfl _ _ (hrz _) ?_)
            refine ⟨⟨2, g, cap, by omega, rfl, hg1, hg2, .inr (.inr ⟨rfl, rfl, by simpa using ho⟩), hb2⟩, by simp [intOf]⟩
          · obtain ⟨ad, rfl⟩ : ∃ ad, A2 = some ad := by
              obtain ⟨ad, e, _⟩ := hq 0 (by omega)
              exact ⟨ad, e⟩
            have hnews := Lib.hid (news hq)
            have hlen : (cellsP qs).length = n2 * 2 := by rw [cellsP_length, hl2]
            have hone := one qs
            have hn2 : 0 < n2 := by omega
            go_wp2_with (at_builtin; go_must (refine wpList_append_lies _ rfl _ _ _ rfl B 49 i0 _ 2 16 Try.underlying35 hi hz0 hz1 hz2 rfl (by omega) _ _ _ (by rfl) ho ad n2 c2 (cellsP qs) (by rfl) hlen hnews.out hone hn2 (by unfold maxLen; omega) (by omega) (by omega) _ rfl ?_))
            intro g2 cap2 w2 ho2 hgr2 hg3 hg4
            try rw [hN] at ho2
            try rw [hN]
            have hgB : B ≤ g2 := by
              rcases hg3 with h | h
              · simp [Value.ownBlock] at h; omega
              · omega
            have hb3 := hb2.grown hgr2 (by omega) (fun k hk => by simp [Value.ownBlock] at hk; omega)
            go_wp2_with fail
            refine ⟨⟨2, g2, cap2, by omega, rfl, hgB, hg4, .inr (.inr ⟨rfl, rfl, by rw [hcat]; exact ho2⟩), hb3⟩, by simp [intOf]⟩
        · go_wp2_with fail
          go_ret
          have hB2 := hB.out
          subst hB2
          exact ⟨g, cap, rfl, ho, hb.trans hb2⟩
end Go.Proofs.Ythokeedmccfalaa.Concat

/-
  Records that the model draws, as contracts: a text; a sealed record of at most seven entries.
-/
import Derived.Test.YtcfoleiooohbhaaDrawBig
import Derived.Test.YtcfoleiooohbhaaSealsMath
import Derived.Test.YtcfoleiooohbhaaApeSpec
import Derived.Test.YtcfoleiooohbhaaLawInt
namespace Go.Proofs.Ytcfoleiooohbhaa.DrawSeal
open Go.RowKit Draw PointOk Blk TupISI SealMath EntryMath ApeMath SealsMath
open Go.Proofs.Ytcfoleiooohbhaa.Own (own_shape own_base own_empty own_below kept_ne)
open LawInt (own_cellN)

theorem gob {w w' : World} (h : Below w.heap.size w w') (row : Option Nat) : w.grownBy w' row := ⟨h.os, h.tape, h.output, h.size, fun k hk _ => h.block k hk⟩
theorem own_ts {w : World} {b n c : Nat} {A : Option Addr} {T : TypeId} {ps : List Tu} (h : w.ownsRow b T 3 (.slice A n c) n (cellsT ps)) (hl : ps.length = n) : TsAt w w.heap.size A ps := by
  intro j hj
  obtain ⟨c0, c1, c2⟩ := cellsT_at ps j hj
  have hj3 : j * 3 + 2 < (cellsT ps).length := by rw [cellsT_length]; omega
  obtain ⟨g, hA, _, hg, h1, _⟩ := own_cellN h (by omega) (j := j * 3) (by omega) c0
  obtain ⟨g2, hA2, _, _, h2, _⟩ := own_cellN h (by omega) (j := j * 3 + 1) (by omega) c1
  obtain ⟨g3, hA3, _, _, h3, _⟩ := own_cellN h (by omega) (j := j * 3 + 2) (by omega) c2
  subst hA
  injection hA2 with hA2
  injection hA2 with hA2
  injection hA3 with hA3
  injection hA3 with hA3
  subst hA2 hA3
  exact ⟨⟨g, 0, none⟩, rfl, hg, by rw [Pts.add_head]; exact h1, by rw [Pts.add_head]; exact h2, by rw [Pts.add_head]; exact h3⟩
theorem own_cap {w : World} {b e sz n c : Nat} {A : Option Addr} {xs : List Value} (h : w.ownsRow b e sz (.slice A n c) n xs) : n ≤ c := by
  rcases h.2 with ⟨h1, _⟩ | ⟨g', cap', cur, h1, _, _, h4, _⟩
  · injection h1 with _ h2 h3; omega
  · injection h1 with _ h2 h3; omega

/-- A short text came back. -/
def PickP (w : World) (cb : Nat) (A : Option Addr) (n cap : Nat) (e : Ending) (w' : World) : Prop :=
  ∃ s : ByteArray, s.size ≤ 200 ∧ e = .returned (.string s) ∧ St w' cb A n cap ∧ w.grownBy w' (some cb)

set_option maxHeartbeats 400000 in
theorem pick (w : World) (cb : Nat) (A : Option Addr) (n cap : Nat) (hs : St w cb A n cap) (ad : Addr) (len c : Nat) (h0 : 0 < len) (hl : len ≤ 1000) (f : Nat → ByteArray) (hsz : ∀ j, j < len → (f j).size ≤ 200)
    (hb : ad.block < w.heap.size) (hne : ad.block ≠ cb) (hf : ∀ j, j < len → w.cell? (ad.add j) = some (.string (f j))) :
    Calls Try.prog 70 #[.pointer (some ⟨cb, 0, none⟩), .slice (some ad) len c] w (PickP w cb A n cap) := by
  have HF := Lib.hid hf
  have HNE := Lib.hid hne
  have HSZ := Lib.hid hsz
  clear hf hne hsz
  go_enter Try.func70, Try.ntmps70
  go_wp2_with fail
  refine (below _ cb A n cap hs _ (by omega)).mono ?_
  rintro e w1 ⟨x, ⟨hx0, hx1⟩, rfl, hs1, hg1⟩
  obtain ⟨j, rfl⟩ := Int.eq_ofNat_of_zero_le hx0
  have hj : j < len := by omega
  have hcell : w1.cell? (ad.add j) = some (.string (f j)) := by
    rw [hg1.cell_far _ (by rw [block_add]; exact hb) (by rw [block_add]; intro e; injection e with e; exact HNE.out e)]
    exact HF.out j hj
  have HJ := Lib.hid (HSZ.out j hj)
  generalize f j = T at hcell HJ
  go_wp2_with fail
  go_ret
  exact ⟨T, HJ.out, rfl, hs1, hg1⟩

def texts : List ByteArray := [⟨#[]⟩, ⟨#[100, 111, 111, 114]⟩, ⟨#[103, 108, 97, 115, 115]⟩, ⟨#[97]⟩, ⟨#[103, 117, 97, 114, 100, 32, 51, 32, 105, 110, 32, 104, 97, 108, 108, 32, 50]⟩]
theorem texts_size (j : Nat) (h : j < 5) : (texts.getD j ⟨#[]⟩).size ≤ 200 := by
  have : ∀ k : Fin 5, (texts.getD k.val ⟨#[]⟩).size ≤ 200 := by decide +kernel
  exact this ⟨j, h⟩

set_option maxRecDepth 100000 in
set_option maxHeartbeats 1600000 in
theorem text (w : World) (cb : Nat) (A : Option Addr) (n cap : Nat) (hs : St w cb A n cap) :
    Calls Try.prog 65 #[.pointer (some ⟨cb, 0, none⟩)] w (PickP w cb A n cap) := by
  have hcb := hs.lt
  go_enter Try.func65, Try.ntmps65
  go_wp2_with fail
  refine (pick _ cb A n cap (hs.alloc _) ⟨w.heap.size, 0, none⟩ 5 _ (by omega) (by omega) (fun j => texts.getD j ⟨#[]⟩) texts_size (by simp) (by show w.heap.size ≠ cb; omega) (fun j hj => ?_)).mono ?_
  · match j, hj with
    | 0, _ => simp [Addr.add]; rfl
    | 1, _ => simp [Addr.add]; rfl
    | 2, _ => simp [Addr.add]; rfl
    | 3, _ => simp [Addr.add]; rfl
    | 4, _ => simp [Addr.add]; rfl
  rintro e w1 ⟨s, h1, rfl, hs1, hg1⟩
  go_wp2_with fail
  go_ret
  have h0 : w.grownBy w (some cb) := World.grownBy.refl w _
  exact ⟨s, h1, rfl, hs1, grown_trans (grown_alloc h0 _) hg1⟩

/-- A drawn record. -/
def Rec (l : List Tu) : Prop := l.length ≤ 7 ∧ sealedB l = true ∧ momentI l ≤ 56 ∧ ∀ e ∈ l, e.2.1.size ≤ 200

set_option maxRecDepth 100000 in
set_option maxHeartbeats 3200000 in
theorem record (w : World) (cb : Nat) (A : Option Addr) (n cap : Nat) (hs : St w cb A n cap) :
    Calls Try.prog 50 #[.pointer (some ⟨cb, 0, none⟩)] w fun e w' => ∃ (l : List Tu) (A1 : Option Addr) (c1 : Nat), Rec l ∧ e = .returned (.slice A1 l.length c1) ∧ w'.ownsRow w.heap.size 57 3 (.slice A1 l.length c1) l.length (cellsT l) ∧ St w' cb A n cap ∧ w.grownBy w' (some cb) := by
  have hcb := hs.lt
  have HE := own_empty w 57 3
  go_enter Try.func50, Try.ntmps50
  go_wp2_with fail
  refine (below _ cb A n cap (hs.alloc _) 8 (by omega)).mono ?_
  rintro e w1 ⟨x, ⟨hx0, hx1⟩, rfl, hs1, hg1⟩
  obtain ⟨m, rfl⟩ := Int.eq_ofNat_of_zero_le hx0
  have hm7 : m ≤ 7 := by omega
  have HO := kept_ne HE hg1 (fun g hg => by injection hg with hg; subst hg; show w.heap.size ≠ cb; omega)
  have G1 : w.grownBy w1 (some cb) := grown_trans (grown_alloc (World.grownBy.refl w _) _) hg1
  clear HE hg1 hs hx0 hx1
  go_wp2_with fail
  go_loopw [3, 4, 6] (fun v t q wr => ∃ (k : Nat) (l : List Tu) (tm : Int) (A1 : Option Addr) (c1 : Nat), k ≤ m ∧ q = .int .i64 k ∧ t = .int .i64 tm ∧ v = .slice A1 k c1 ∧ Hid (l.length = k ∧ sealedB l = true ∧ momentI l ≤ tm ∧ 0 ≤ tm ∧ tm ≤ 8 * k ∧ ∀ e ∈ l, e.2.1.size ≤ 200) ∧ Hid (wr.ownsRow w.heap.size 57 3 (.slice A1 k c1) k (cellsT l)) ∧ St wr cb A n cap ∧ w.grownBy wr (some cb)) (fun _ _ q _ => m - (intOf q).toNat)
  case atStart => exact ⟨0, [], 0, some ⟨w.heap.size, 0, none⟩, 0, Nat.zero_le _, rfl, rfl, rfl, Lib.hid ⟨rfl, sealed_of (by simp) (fun k hk => absurd hk (by simp)), by decide, by omega, by omega, fun e he => by cases he⟩, Lib.hid HO, hs1, G1⟩
  case round =>
    clear HO hs1 G1
    obtain ⟨k, l, tm, A1, c1, hkm, rfl, rfl, rfl, hi, hown, hst, hgr⟩ := hrel
    by_cases hlt : k < m
    · have hk1 : (k : Int) < (m : Int) := by omega
      go_wp2_with fail
      refine (below _ cb A n cap hst 9 (by omega)).mono ?_
      rintro e w2 ⟨d, ⟨hd0, hd1⟩, rfl, hs2, hg2⟩
      have hO2 := Lib.hid (kept_ne hown.out hg2 (fun g hg => by have := (hown.out.lt g hg).1; omega))
      have hG2 := grown_trans hgr hg2
      have htm := hi.out.2.2.2
      have ut : IntKind.i64.wrap (tm + d) = tm + d := IntWalk.i64_in _ (by omega)
      clear hown hst hgr hg2
      go_wp2_with fail
      refine (text _ cb A n cap hs2).mono ?_
      rintro e w3 ⟨s, hsz, rfl, hs3, hg3⟩
      have hO3 := kept_ne hO2.out hg3 (fun g hg => by have := (hO2.out.lt g hg).1; omega)
      have hG3 := grown_trans hG2 hg3
      have hz3 := hG3.size
      clear hO2 hs2 hG2 hg3
      obtain ⟨g1, g2, g3, g4⟩ := grows (m := tm + d) (s := s) hi.out.2.1 (by have := hi.out.1; omega) (by have := hi.out.2.2.1; omega) (by omega) hsz
      have QA := Lib.hid (ApeSpec.appendEntry A1 k c1 (tm + d) s w3 l hi.out.1 (by omega) (own_ts hO3 hi.out.1) (own_cap hO3))
      rw [g1, apeL_yes g1] at QA
      have HI : Hid ((l ++ [(tm + d, s, sealI (lastI l) (tm + d) s)]).length = k + 1 ∧ sealedB (l ++ [(tm + d, s, sealI (lastI l) (tm + d) s)]) = true ∧ momentI (l ++ [(tm + d, s, sealI (lastI l) (tm + d) s)]) ≤ tm + d ∧ 0 ≤ tm + d ∧ tm + d ≤ 8 * ((k + 1 : Nat) : Int) ∧ ∀ e ∈ (l ++ [(tm + d, s, sealI (lastI l) (tm + d) s)]), e.2.1.size ≤ 200) := Lib.hid ⟨by rw [List.length_append, hi.out.1]; rfl, g2, by omega, by omega, by omega, fun e he => by
        rw [List.mem_append, List.mem_singleton] at he
        rcases he with he | rfl
        · exact hi.out.2.2.2.2.2 e he
        · exact hsz⟩
      clear g1 g2 g3 g4 hi hO3
      generalize l ++ [(tm + d, s, sealI (lastI l) (tm + d) s)] = l2 at *
      unfold GivesA at QA
      rw [HI.out.1] at QA
      go_wp2_with fail
      refine QA.out.mono ?_
      rintro e w4 ⟨A4, c4, rfl, hO4, hb4⟩
      have hO5 := Lib.hid (own_base hO4 (b' := w.heap.size) hz3)
      have hs4 := hs3.kept (gob hb4 none) (fun g e => by cases e)
      have hG4 := grown_trans hG3 (gob hb4 (some cb))
      clear hO4 hb4 hs3 hG3 QA
      go_wp2_with fail
      first
        | exact ⟨⟨k + 1, l2, tm + d, A4, c4, by omega, by go_num, rfl, rfl, HI, hO5, hs4, hG4⟩, by simp [intOf] <;> omega⟩
        | (go_roundw <;> first | exact ⟨k + 1, l2, tm + d, A4, c4, by omega, by go_num, rfl, rfl, HI, hO5, hs4, hG4⟩ | (simp [intOf] <;> omega))
    · obtain rfl : k = m := by omega
      have hR : Rec l := ⟨by have := hi.out.1; omega, hi.out.2.1, by have := hi.out.2.2; omega, hi.out.2.2.2.2.2⟩
      have hlk := hi.out.1
      go_wp2_with fail
      go_ret
      exact ⟨l, A1, c1, hR, by rw [hlk]; rfl, by rw [hlk]; exact hown.out, hst, hgr⟩

set_option maxHeartbeats 800000 in
theorem drawRecord (w : World) (A : Option Addr) (n cap : Nat) (hn : n ≤ 1048576) (hcode : Draw.Code w w.heap.size A n) :
    Calls Try.prog 21 #[.slice A n cap] w fun e w' => ∃ (l : List Tu) (A1 : Option Addr) (c1 : Nat), Rec l ∧ e = .returned (.slice A1 l.length c1) ∧ w'.ownsRow w.heap.size 57 3 (.slice A1 l.length c1) l.length (cellsT l) ∧ Below w.heap.size w w' := by
  go_enter Try.func21, Try.ntmps21
  go_wp2_with fail
  refine (newCur _ A n cap hn hcode).mono ?_
  rintro e w1 ⟨rfl, hs1, hb1⟩
  go_wp2_with fail
  refine (record _ _ A n cap hs1).mono ?_
  rintro e w2 ⟨l, A1, c1, hR, rfl, hO, hs2, hg2⟩
  have hb2 := hb1.grown hg2 hb1.size (fun k e => by injection e with e; omega)
  have hO2 := Lib.hid (own_base hO (b' := w.heap.size) hb1.size)
  clear hO
  go_wp2_with fail
  go_ret
  exact ⟨l, A1, c1, hR, rfl, hO2.out, hb2⟩
end Go.Proofs.Ytcfoleiooohbhaa.DrawSeal

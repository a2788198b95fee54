/-
  What the landed filtered does over doors with a test that is handed over; what the two tests of linked halls answer.
-/
import Derived.Test.YtcfoleiooohbhaaLawInt
import Derived.Test.YtcfoleiooohbhaaHouImpl
import Derived.Test.YtcfoleiooohbhaaHouLink
namespace Go.Proofs.Ytcfoleiooohbhaa.HouFilt
open Go.RowKit Go.Proofs.Ytcfoleiooohbhaa.Own Pts Blk HouMath HouMathB HouLink HouMem Ints HouBox
open PointOk (ret_bool ret_i64 below1 below2 below3)

def fdTo (f : Nat → Bool) (l : List (Int × Int)) : Nat → List (Int × Int)
  | 0 => []
  | k + 1 => if f k then fdTo f l k ++ [dr l k] else fdTo f l k
theorem fdTo_len (f : Nat → Bool) (l : List (Int × Int)) : ∀ k, (fdTo f l k).length ≤ k
  | 0 => Nat.le_refl _
  | k + 1 => by
    have h := fdTo_len f l k
    unfold fdTo
    split
    · rw [List.length_append]; simp only [List.length_cons, List.length_nil]; omega
    · omega
theorem fd_take (p : Int × Int → Bool) (l : List (Int × Int)) : ∀ k, k ≤ l.length → fdTo (fun j => p (dr l j)) l k = (l.take k).filter p
  | 0, _ => by simp [fdTo]
  | k + 1, h => by
    have e : l.take (k + 1) = l.take k ++ [dr l k] := by
      rw [List.take_add_one, dr_get (by omega)]
      simp [show k < l.length by omega]
    rw [e, List.filter_append, ← fd_take p l k (by omega)]
    show (if p (dr l k) = true then fdTo (fun j => p (dr l j)) l k ++ [dr l k] else fdTo (fun j => p (dr l j)) l k) = _
    by_cases hp : p (dr l k) = true
    · rw [if_pos hp]; simp [hp]
    · rw [if_neg hp]; simp [hp]
theorem fd_own (ds : List (Int × Int)) (zs : List Int) : fdTo (fun j => zs.contains (dr ds j).1 && zs.contains (dr ds j).2) ds ds.length = ownD ds zs := by
  have := fd_take (fun d => zs.contains d.1 && zs.contains d.2) ds ds.length (Nat.le_refl _)
  rw [List.take_of_length_le (Nat.le_refl _)] at this
  exact this
theorem fd_at {l : List (Int × Int)} {k : Nat} (h : k < l.length) : l[k]? = some (dr l k) := by rw [dr_get h]; exact List.getElem?_eq_getElem h
theorem infoP : (Try.prog.info? 83).map (fun i => (i.zero, i.size, i.bytes)) = some (some (.agg #[.int .i64 0, .int .i64 0]), 2, 16) := by kernel_rfl
theorem cellsP_app : ∀ (ps qs : List (Int × Int)), cellsP (ps ++ qs) = cellsP ps ++ cellsP qs
  | [], _ => rfl
  | p :: ps, qs => by simp [cellsP, cellsP_app ps qs]
theorem pts_own {w : World} {b e n c : Nat} {A : Option Addr} {ps : List (Int × Int)} (h : w.ownsRow b e 2 (.slice A n c) n (cellsP ps)) : PtsAt w w.heap.size A ps := by
  obtain ⟨A2, c2, e2, _, hp⟩ := LawInt.own_pts h
  injection e2 with e2 e3 e4
  subst e2
  exact hp

set_option maxRecDepth 100000 in
set_option maxHeartbeats 1600000 in
theorem filtered (F : FuncId) (cs : Array Value) (f : Nat → Bool) (Al : Option Addr) (m cl : Nat) (w : World) (l : List (Int × Int)) (hm : l.length = m) (hle : m ≤ 1048576) (hp : PtsAt w w.heap.size Al l) (eF : ∀ (args : Array Value) (w : World), (callFunc F args).run Try.prog w = .ok (.enter F args) w)
    (Q : ∀ (W : World) (k : Nat), k < m → Below w.heap.size w W → Calls Try.prog F (#[.agg #[.int .i64 (dr l k).1, .int .i64 (dr l k).2]] ++ cs) W fun e w' => e = .returned (.bool (f k)) ∧ Below W.heap.size W w') :
    Calls Try.prog 44 #[.slice Al m cl, .func (.func F) #[] cs] w (GivesC 83 2 w (fdTo f l m).length (cellsP (fdTo f l m))) := by
  obtain ⟨r, hr⟩ : ∃ r, fdTo f l m = r := ⟨_, rfl⟩
  have HR := Lib.hid hr
  rw [hr]
  clear hr
  obtain ⟨i0, hi, hz0, hz1, hz2⟩ := info_parts infoP
  have Q := Lib.hid Q
  go_enter Try.func44, Try.ntmps44
  go_wp2_with fail
  have HO : ∀ W W' : World, (PtsAt W w.heap.size Al l ∧ Below w.heap.size w W) → Below W.heap.size W W' → (PtsAt W' w.heap.size Al l ∧ Below w.heap.size w W') := fun W W' ⟨x0, hb⟩ h => ⟨x0.later (h.mono hb.size), hb.trans (h.mono hb.size)⟩
  have S0 : PtsAt w w.heap.size Al l ∧ Below w.heap.size w w := ⟨hp, Below.refl _ _⟩
  clear hp
  have HO2 : ∀ W W' : World, (PtsAt W w.heap.size Al l ∧ Below w.heap.size w W) → Below w.heap.size W W' → (PtsAt W' w.heap.size Al l ∧ Below w.heap.size w W') := fun W W' ⟨h0, hb⟩ h => ⟨h0.later h, hb.trans h⟩
  go_loopw [5, 10] (fun v q wr => ∃ k : Nat, k ≤ m ∧ q = .int .i64 k ∧ wr.ownsRow w.heap.size 83 2 v (fdTo f l k).length (cellsP (fdTo f l k)) ∧ (PtsAt wr w.heap.size Al l ∧ Below w.heap.size w wr))
    (fun _ q _ => m - (intOf q).toNat)
  case atStart => exact ⟨0, Nat.zero_le _, rfl, World.ownsRow_nil _ _ _ _, S0⟩
  case round =>
    clear S0
    obtain ⟨k, hkm, rfl, hown, S0⟩ := hrel
    obtain ⟨_, _⟩ := id S0
    by_cases hlt : k < m
    · have hk1 : (k : Int) < (m : Int) := by omega
      have hk0 : (0 : Int) ≤ (k : Int) := by omega
      have hcl := fdTo_len f l k
      have HS : Hid (fdTo f l (k + 1) = if f k then fdTo f l k ++ [dr l k] else fdTo f l k) := Lib.hid rfl
      have QK : Hid (∀ W hb, _) := Lib.hid fun W hb => Q.out W k hlt hb
      generalize fdTo f l k = l0 at *
      obtain ⟨mc, hmc⟩ : ∃ x, l0.length = x := ⟨_, rfl⟩
      rw [hmc] at hown hcl
      have p0 := fd_at (l := l) (k := k) (by omega)
      obtain ⟨x, y, hx⟩ : ∃ x y, dr l k = (x, y) := ⟨_, _, rfl⟩
      rw [hx] at p0 HS QK
      obtain ⟨ad, eA, bA, pA⟩ := S0.1.get p0
      subst eA
      obtain ⟨_, _⟩ := id pA
      obtain ⟨o, ho⟩ : ∃ o, f k = o := ⟨_, rfl⟩
      rw [ho] at QK HS
      have X3 := PointOk.box1 wr x y 83 (k := wr.heap.size) rfl
      have b1_ := below1 wr (Obj.cells #[.int .i64 x, .int .i64 y] 83)
      replace S0 := HO _ _ S0 b1_
      replace hown := own_below hown b1_
      obtain ⟨_, _⟩ := id X3
      obtain ⟨kb, hkb⟩ : ∃ K, wr.heap.size = K := ⟨_, rfl⟩
      rw [hkb] at X3
      replace hown := Lib.hid hown
      clear b1_ p0 hx ho pA Q HR
      go_wp2_with fail
      generalize wr.alloc (Obj.cells #[.int .i64 x, .int .i64 y] 83) = v1 at *
      try rw [hkb]
      clear hkb
      obtain ⟨_, _⟩ := id S0
      refine (QK.out _ S0.2).mono ?_
      rintro e w4 ⟨rfl, hb_⟩
      replace S0 := HO _ _ S0 hb_
      replace X3 := X3.later hb_
      replace hown := Lib.hid (own_below hown.out hb_)
      clear hb_ QK
      obtain ⟨_, _⟩ := id S0
      obtain ⟨_, _⟩ := X3
      cases o
      · have HS2 : Hid (fdTo f l (k + 1) = l0) := Lib.hid (by rw [HS.out]; rfl)
        clear HS
        go_wp2_with fail
        first
          | exact ⟨⟨k + 1, by omega, by go_num, by rw [HS2.out, hmc]; exact hown.out, S0⟩, by simp [intOf]; omega⟩
          | (go_roundw <;> first | exact ⟨k + 1, by omega, by go_num, by rw [HS2.out, hmc]; exact hown.out, S0⟩ | (simp [intOf]; omega))
      · have HS2 : Hid (fdTo f l (k + 1) = l0 ++ [(x, y)]) := Lib.hid (by rw [HS.out]; rfl)
        have hown2 := hown.out
        have hzB := S0.2.size
        clear HS
        go_wp2_with (at_builtin; refine wpList_append_own _ rfl _ _ 39 rfl w.heap.size 83 i0 (.agg #[.int .i64 0, .int .i64 0]) 2 16 Try.underlying39 hi hz0 hz1 hz2 rfl (by decide) _ _ _ rfl (hown2.alloc _) ⟨w4.heap.size, 0, none⟩ 1 1 [.int .i64 x, .int .i64 y] rfl rfl ?c1 ?c2 ?c3 ?c4 ?c5 ?_)
        case c1 => (intro a u ha; match a, ha with | 0, ha => (simp at ha; subst ha; simp [Addr.add]) | 1, ha => (simp at ha; subst ha; simp [Addr.add]))
        case c2 => (intro u hu; simp at hu; rcases hu with rfl | rfl <;> rfl)
        case c3 => (unfold maxLen; omega)
        case c4 => omega
        case c5 => (simp; omega)
        intro v1_ wa_ ho_ hg_ _
        have HN : Hid (wa_.ownsRow w.heap.size 83 2 v1_ (fdTo f l (k + 1)).length (cellsP (fdTo f l (k + 1))) ∧ (PtsAt wa_ w.heap.size (some ad) l ∧ Below w.heap.size w wa_)) := Lib.hid (by
          have hb0 : Below w.heap.size w4 (w4.alloc (Obj.cells #[.int .i64 x, .int .i64 y] 83)) := (below1 _ _).mono hzB
          have hb1 := hb0.grown hg_ (by simp; omega) (fun g hg => (hown2.lt g hg).1)
          rw [HS2.out, cellsP_app, List.length_append, hmc]
          exact ⟨ho_, HO2 _ _ S0 hb1⟩)
        clear ho_ hg_ hown hown2 HS2 S0
        go_wp2_with fail
        first
          | exact ⟨⟨k + 1, by omega, by go_num, HN.out.1, HN.out.2⟩, by simp [intOf]; omega⟩
          | (go_roundw <;> first | exact ⟨k + 1, by omega, by go_num, HN.out.1, HN.out.2⟩ | (simp [intOf]; omega))
    · obtain rfl : m = k := by omega
      rw [HR.out] at hown
      have hown2 := Lib.hid hown
      obtain ⟨A1, c1, rfl⟩ := own_shape hown
      clear hm hown HR
      go_wp2_with fail
      go_ret
      exact ⟨A1, c1, rfl, hown2.out, S0.2⟩


set_option maxRecDepth 100000 in
set_option maxHeartbeats 800000 in
/-- Are both ends of a door in the list? -/
theorem bothIn (d1 d2 : Int) (b : Nat) (B : Option Addr) (m cb : Nat) (zs : List Int) (hz : zs.length = m) (hm : m ≤ 1048576) (W : World) (hc : W.cell? ⟨b, 0, none⟩ = some (.slice B m cb)) (hb : b < W.heap.size) (hq : IntsAt W W.heap.size B zs) :
    Calls Try.prog 45 #[.agg #[.int .i64 d1, .int .i64 d2], .pointer (some ⟨b, 0, none⟩)] W fun e w' => e = .returned (.bool (zs.contains d1 && zs.contains d2)) ∧ Below W.heap.size W w' := by
  have Q := Lib.hid fun (x : Int) w hq => IntSl.contains B m cb x w zs hz hm hq
  obtain ⟨W0, hW0⟩ : ∃ W0, W.alloc (.cells #[.int .i64 d1, .int .i64 d2] 83) = W0 := ⟨_, rfl⟩
  have hb0 : Below W.heap.size W W0 := by rw [← hW0]; exact below1 _ _
  have B0 : Holds W0 W.heap.size #[.int .i64 d1, .int .i64 d2] 83 := by rw [← hW0]; exact Holds.new _ _ _
  have c0 := (hb0.cell (p := ⟨b, 0, none⟩) hb).trans hc
  obtain ⟨⟨c1, c2⟩, _⟩ := B0.two
  obtain ⟨r1, h1⟩ : ∃ r, zs.contains d1 = r := ⟨_, rfl⟩
  obtain ⟨r2, h2⟩ : ∃ r, zs.contains d2 = r := ⟨_, rfl⟩
  have Q1 := Lib.hid (Q.out d1)
  have Q2 := Lib.hid (Q.out d2)
  rw [h1] at Q1
  rw [h2] at Q2
  rw [h1, h2]
  clear Q h1 h2 hz hc
  go_enter Try.func45, Try.ntmps45
  go_wp2_with fail
  refine (Q1.out _ ((hq.later hb0).wide hb0.size)).mono ?_
  rintro e w1 ⟨rfl, hb1⟩
  have c3 := (hb1.cell (p := ⟨b, 0, none⟩) (Nat.lt_of_lt_of_le hb hb0.size)).trans c0
  have B1 := B0.later hb1
  obtain ⟨⟨c4, c5⟩, _⟩ := B1.two
  have hb2 := hb0.trans (hb1.mono hb0.size)
  cases r1
  · go_wp2_with fail
    go_ret
    exact ⟨rfl, hb2⟩
  · go_wp2_with fail
    refine (Q2.out _ ((hq.later hb2).wide hb2.size)).mono ?_
    rintro e w2 ⟨rfl, hb3⟩
    go_wp2_with fail
    go_ret
    exact ⟨ret_bool (by simp), hb2.trans (hb3.mono hb2.size)⟩

set_option maxRecDepth 100000 in
set_option maxHeartbeats 800000 in
/-- Is this hall not to be reached? -/
theorem notReached (z N b g : Nat) (D : List Int) (hD : D.length = N) (hz : z < N) (W : World) (hc : W.cell? ⟨b, 0, none⟩ = some (.slice (some ⟨g, 0, none⟩) N N)) (hG : Holds W g (icells D).toArray 3) :
    Calls Try.prog 48 #[.int .i64 z, .pointer (some ⟨b, 0, none⟩)] W fun e w' => e = .returned (.bool (decide (D.getD z 0 < 0))) ∧ Below W.heap.size W w' := by
  have cz := HouVspec.dist_cell hG hD hz
  have hz0 : (0 : Int) ≤ (z : Int) := by omega
  have hz1 : (z : Int) < (N : Int) := by omega
  obtain ⟨d, hd⟩ : ∃ d, D.getD z 0 = d := ⟨_, rfl⟩
  rw [hd] at cz ⊢
  clear hG hd hD
  go_enter Try.func48, Try.ntmps48
  go_wp2_with fail
  go_ret
  exact ⟨rfl, Below.refl _ _⟩
end Go.Proofs.Ytcfoleiooohbhaa.HouFilt

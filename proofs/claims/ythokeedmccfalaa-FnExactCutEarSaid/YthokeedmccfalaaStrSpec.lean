/-
  What the model's l10Straight does, as a contract: the corners without the straight ones, in a row of the caller's own or a new one.
-/
import Derived.Test.YthokeedmccfalaaRoomOkSpec
import Derived.Test.YthokeedmccfalaaStrMath
import Derived.Test.YthokeedmccfalaaCutMath
import Derived.Test.YthokeedmccfalaaPtsRow
namespace Go.Proofs.Ythokeedmccfalaa.StrSpec
open Go.RowKit Own PointMath WallMath RoomMath Pts Blk RoomRes StrMath
open PointOk (ret_bool ret_i64 below1 below2 below3)
def lenV : Value → Nat
  | .slice _ n _ => n
  | _ => 0

set_option maxRecDepth 100000 in
set_option maxHeartbeats 6400000 in
theorem l10Straight (A : Option Addr) (n cap B : Nat) (w : World) (ps : List (Int × Int)) (hl : ps.length = n) (hn : n ≤ 1000000) (hok : okAll ps = true) (hB : B ≤ w.heap.size) (hown : w.ownsRow B 49 2 (.slice A n cap) n (cellsP ps)) :
    Calls Try.prog 68 #[.slice A n cap] w fun e w' => ∃ A' c', e = .returned (.slice A' (modL ps).length c') ∧ w'.ownsRow B 49 2 (.slice A' (modL ps).length c') (modL ps).length (cellsP (modL ps)) ∧ Below w.heap.size w w' := by
  obtain ⟨r, hr⟩ : ∃ r, modL ps = r := ⟨_, rfl⟩
  have HR := Lib.hid hr
  rw [hr]
  clear hr
  replace hown := Lib.hid hown
  go_enter Try.func68, Try.ntmps68
  go_wp2_with fail
  go_loopw [0] (fun v wr => ∃ (m : Nat) (l : List (Int × Int)) (A1 : Option Addr) (c1 : Nat), v = .slice A1 m c1 ∧ Hid (wr.ownsRow B 49 2 (.slice A1 m c1) m (cellsP l)) ∧ Hid (l.length = m ∧ m ≤ n ∧ okAll l = true ∧ modL l = r) ∧ Below w.heap.size w wr) (fun v _ => lenV v)
  case atStart => exact ⟨n, ps, A, cap, rfl, hown, Lib.hid ⟨hl, Nat.le_refl _, hok, HR.out⟩, Below.refl _ _⟩
  case round =>
    clear hown hok
    obtain ⟨m, l, A1, c1, rfl, hown, hi, hbw⟩ := hrel
    obtain ⟨hlm, hmn, hol, hml⟩ := hi.out
    clear hi
    rename World => w1
    have PT := CutMath.own_ptsC hown.out hlm
    have um : IntKind.i64.wrap ((m : Int) - 1) = (m : Int) - 1 := IntWalk.i64_in _ (by omega)
    go_wp2_with fail
    have HO : ∀ W W' : World, (PtsAt W w1.heap.size A1 l ∧ Below w1.heap.size w1 W) → Below W.heap.size W W' → (PtsAt W' w1.heap.size A1 l ∧ Below w1.heap.size w1 W') := fun W W' ⟨x0, hb⟩ h => ⟨x0.later (h.mono hb.size), hb.trans (h.mono hb.size)⟩
    have S0 : PtsAt w1 w1.heap.size A1 l ∧ Below w1.heap.size w1 w1 := ⟨PT, Below.refl _ _⟩
    clear PT
    go_loopw [4, 5] (fun v4 v5 wr => ∃ (k : Nat) (v : Int), k ≤ m ∧ v5 = .int .i64 ((k : Int) - 1) ∧ v4 = .int .i64 v ∧ Hid (Look l k v) ∧ (PtsAt wr w1.heap.size A1 l ∧ Below w1.heap.size w1 wr)) (fun _ v5 _ => (intOf v5 + 1).toNat)
    case atStart => exact ⟨m, -1, Nat.le_refl _, rfl, rfl, Lib.hid (by rw [← hlm]; exact look_start l), S0⟩
    case round =>
      clear S0
      obtain ⟨k, v, hkm, rfl, rfl, hs, S0⟩ := hrel
      by_cases hk0 : k = 0
      · have HV : Hid (v = firstM l) := Lib.hid (by have := hs.out; rw [hk0] at this; exact look_end this)
        have hk1 : ¬ (0 : Int) ≤ (k : Int) - 1 := by omega
        by_cases hv : v < 0
        · skip
          have E : Hid (l = r) := Lib.hid (by rw [← hml, mod_end (by rw [← HV.out]; omega)])
          have hrl : Hid (r.length = m) := Lib.hid (by rw [← E.out, hlm])
          have hownZ := Lib.hid (own_below hown.out S0.2)
          rw [E.out] at hownZ
          have hbZ := Lib.hid (hbw.trans (S0.2.mono hbw.size))
          clear hown hml HR hol hlm hl S0
          go_wp2_with fail
          go_ret
          exact ⟨A1, c1, by rw [hrl.out]; rfl, by rw [hrl.out]; exact hownZ.out, hbZ.out⟩
        have h2m := first_yes (l := l) (k := v.toNat) (by rw [← HV.out]; omega)
        obtain ⟨x, rfl⟩ : ∃ x : Nat, v = (x : Int) := ⟨v.toNat, by omega⟩
        rw [Int.toNat_natCast] at h2m
        have hxm := str_lt h2m.2
        rw [hlm] at h2m hxm
        obtain ⟨ad, eA, _, _⟩ := S0.1.get (pt_at (ps := l) (k := 0) (by omega))
        subst eA
        have hc1 : m ≤ c1 := by
          rcases hown.out.2 with ⟨h1, _⟩ | ⟨g', cap', cur, h1, _, _, h4_, _⟩
          · injection h1 with _ h2 h3; omega
          · injection h1 with _ h2 h3; omega
        have hcl : (cut l x).length = m - 1 := by rw [cut_len (by omega), hlm]
        have HN : Hid ((cut l x).length = m - 1 ∧ m - 1 ≤ n ∧ okAll (cut l x) = true ∧ modL (cut l x) = r) := Lib.hid ⟨hcl, by omega, cut_ok x hol, by rw [← mod_step (by omega) h2m.2]; exact hml⟩
        have hbw5 := Lib.hid (hbw.trans (S0.2.mono hbw.size))
        have hB5 : B ≤ wr.heap.size := Nat.le_trans hB hbw5.out.size
        have PT := Lib.hid (PtsRow.pts_take (S0.1.wide S0.2.size) x)
        have PD := Lib.hid (PtsRow.pts_drop (cb := c1) (j := x + 1) (S0.1.wide S0.2.size) (by omega) (by omega))
        have hla : (l.take x).length = x := by rw [List.length_take]; omega
        have hlb : (l.drop (x + 1)).length = m - (x + 1) := by rw [List.length_drop, hlm]
        have hab : Hid (l.take x ++ l.drop (x + 1) = cut l x) := Lib.hid rfl
        clear S0 hown hml hol HR hbw hs HV h2m hcl hB hl hlm
        generalize l.take x = la at *
        generalize l.drop (x + 1) = lb at *
        have hkc : (x : Int) ≤ (c1 : Int) := by omega
        have hk2 : (x : Int) + 1 ≤ (m : Int) := by omega
        have hk4 : (0 : Int) ≤ (x : Int) + 1 := by omega
        have hk5 : x ≤ c1 := by omega
        have ux : IntKind.i64.wrap ((x : Int) + 1) = (x : Int) + 1 := IntWalk.i64_in _ (by omega)
        have hk8 : (x : Int) ≤ (m : Int) := by omega
        have hk9 : x ≤ m := by omega
        have hk6 : x + 1 ≤ m := by omega
        have hk7 : (m : Int) ≤ (c1 : Int) := by omega
        have hNc : Hid (x + (m - (x + 1)) = m - 1) := Lib.hid (by omega)
        rename World => w5
        obtain ⟨w6_, hw6⟩ : ∃ W, (w5.alloc (Obj.cells #[] 49)).drew = W := ⟨_, rfl⟩
        have hb6_ : Below w5.heap.size w5 w6_ := by rw [← hw6]; exact (below1 w5 _).trans (Below.refl _ _).drew
        have hE : Hid (w6_.ownsRow w5.heap.size 49 2 (.slice (some ⟨w5.heap.size, 0, none⟩) 0 0) 0 (cellsP [])) := Lib.hid (by rw [← hw6]; exact own_below (own_empty w5 49 2) (Below.refl _ _).drew)
        have HB6 : Hid (∀ w6, w6_.grownBy w6 (Value.slice (some ⟨w5.heap.size, 0, none⟩) 0 0).ownBlock → Below w5.heap.size w5 w6) := Lib.hid (fun w6 g6 => hb6_.grown g6 hb6_.size (fun g hg => (hE.out.lt g hg).1))
        have PT5 := Lib.hid ((PT.out.later hb6_).wide hb6_.size)
        have hsz5 := hb6_.size
        clear PT hb6_
        rw [← hw6] at hE HB6 PT5 hsz5
        clear hw6 w6_
        go_wp2_with fail
        by_cases hcase : c1 = x + 1
        · have hd : PtsRow.dropA (some ad) c1 (x + 1) = some ad := by unfold PtsRow.dropA; rw [if_pos hcase]
          have hT : (c1 = x + 1) = True := eq_true hcase
          rw [hd] at PD
          clear hd hcase
          go_region_held3 (fun _ => True) (exact True.intro) (first | (refine PtsRow.step_append_pts _ (by rfl) _ _ (by rfl) w5.heap.size _ 0 [] (by rfl) hE.out _ x c1 la hla (by rfl) PT5.out (by omega) hsz5 ?_; intro v6 w6 h6 g6; have h6' : w6.ownsRow w5.heap.size 49 2 v6 x (cellsP la) := (by simpa using h6); have hb6 := HB6.out w6 g6; have PD6 := (PD.out.later hb6).wide hb6.size; clear h6 g6; obtain ⟨A6, c6, rfl⟩ := own_shape h6') | (refine PtsRow.step_append_pts _ (by rfl) _ _ (by rfl) w5.heap.size _ x la (by rfl) h6' _ (m - (x + 1)) (c1 - (x + 1)) lb hlb (by rfl) PD6 (by omega) hb6.size ?_; intro v7 w7 h7 g7; have h7' : w7.ownsRow w5.heap.size 49 2 v7 (m - 1) (cellsP (la ++ lb)) := (by rw [hNc.out] at h7; exact h7); have hb7 := hb6.grown g7 hb6.size (fun g hg => (h6'.lt g hg).1); obtain ⟨A8, c8, rfl⟩ := own_shape h7'; clear h7 g7))
          have h7q := Lib.hid (own_base h7' hB5)
          rw [hab.out] at h7q
          have hbq := Lib.hid (hbw5.out.trans (hb7.mono hbw5.out.size))
          clear h7' h6' hb6 PD6 hb7
          go_wp2_with fail
          first
            | exact ⟨⟨m - 1, cut l x, A8, c8, rfl, h7q, HN, hbq.out⟩, by simp [lenV]; omega⟩
            | (go_roundw <;> first | exact ⟨m - 1, cut l x, A8, c8, rfl, h7q, HN, hbq.out⟩ | (simp [lenV]; omega))
        · have hd : PtsRow.dropA (some ad) c1 (x + 1) = some ⟨ad.block, ad.off + (x + 1) * 2, none⟩ := by simp [PtsRow.dropA, hcase]
          rw [hd] at PD
          clear hd
          go_region_held3 (fun _ => True) (exact True.intro) (first | (refine PtsRow.step_append_pts _ (by rfl) _ _ (by rfl) w5.heap.size _ 0 [] (by rfl) hE.out _ x c1 la hla (by rfl) PT5.out (by omega) hsz5 ?_; intro v6 w6 h6 g6; have h6' : w6.ownsRow w5.heap.size 49 2 v6 x (cellsP la) := (by simpa using h6); have hb6 := HB6.out w6 g6; have PD6 := (PD.out.later hb6).wide hb6.size; clear h6 g6; obtain ⟨A6, c6, rfl⟩ := own_shape h6') | (refine PtsRow.step_append_pts _ (by rfl) _ _ (by rfl) w5.heap.size _ x la (by rfl) h6' _ (m - (x + 1)) (c1 - (x + 1)) lb hlb (by rfl) PD6 (by omega) hb6.size ?_; intro v7 w7 h7 g7; have h7' : w7.ownsRow w5.heap.size 49 2 v7 (m - 1) (cellsP (la ++ lb)) := (by rw [hNc.out] at h7; exact h7); have hb7 := hb6.grown g7 hb6.size (fun g hg => (h6'.lt g hg).1); obtain ⟨A8, c8, rfl⟩ := own_shape h7'; clear h7 g7))
          have h7q := Lib.hid (own_base h7' hB5)
          rw [hab.out] at h7q
          have hbq := Lib.hid (hbw5.out.trans (hb7.mono hbw5.out.size))
          clear h7' h6' hb6 PD6 hb7
          go_wp2_with fail
          first
            | exact ⟨⟨m - 1, cut l x, A8, c8, rfl, h7q, HN, hbq.out⟩, by simp [lenV]; omega⟩
            | (go_roundw <;> first | exact ⟨m - 1, cut l x, A8, c8, rfl, h7q, HN, hbq.out⟩ | (simp [lenV]; omega))
      have hk1 : (0 : Int) ≤ (k : Int) - 1 := by omega
      by_cases h2 : 2 < m
      rotate_left
      · have HV : Hid (v = firstM l) := Lib.hid (look_short (by omega) hs.out)
        have hv : v < 0 := by rw [HV.out]; unfold firstM; rw [if_neg (by omega)]; decide
        have h2i : ¬ (2 : Int) < (m : Int) := by omega
        have E : Hid (l = r) := Lib.hid (by rw [← hml, mod_end (by rw [← HV.out]; omega)])
        have hrl : Hid (r.length = m) := Lib.hid (by rw [← E.out, hlm])
        have hownZ := Lib.hid (own_below hown.out S0.2)
        rw [E.out] at hownZ
        have hbZ := Lib.hid (hbw.trans (S0.2.mono hbw.size))
        clear hown hml HR hol hlm hl S0
        go_wp2_with fail
        go_ret
        exact ⟨A1, c1, by rw [hrl.out]; rfl, by rw [hrl.out]; exact hownZ.out, hbZ.out⟩
      obtain ⟨kk, rfl⟩ : ∃ kk, k = kk + 1 := ⟨k - 1, by omega⟩
      have hki : ((kk + 1 : Nat) : Int) - 1 = (kk : Int) := by omega
      rw [hki] at hk1 ⊢
      have hkk : kk < m := by omega
      have h2i : (2 : Int) < (m : Int) := by omega
      have HE : Hid (bendBack l kk = turnP (pt l ((kk + (m - 1)) % m)) (pt l kk) (pt l ((kk + 1) % m))) := Lib.hid (by unfold bendBack; rw [hlm])
      have e1 := succ_emod m kk
      have e1t : ((kk : Int) + 1).tmod (m : Int) = (((kk + 1) % m : Nat) : Int) := by rw [Int.tmod_eq_emod_of_nonneg (by omega)]; exact e1
      have e2 : ((kk : Int) + (m : Int) - 1) % (m : Int) = (((kk + (m - 1)) % m : Nat) : Int) := by
        rw [Int.natCast_emod, Int.natCast_add, show ((m - 1 : Nat) : Int) = (m : Int) - 1 by omega]; congr 1; omega
      have e2t : ((kk : Int) + (m : Int) - 1).tmod (m : Int) = (((kk + (m - 1)) % m : Nat) : Int) := by rw [Int.tmod_eq_emod_of_nonneg (by omega)]; exact e2
      have hm : (kk + 1) % m < m := Nat.mod_lt _ (by omega)
      have hm2 : (kk + (m - 1)) % m < m := Nat.mod_lt _ (by omega)
      have p0 := pt_at (ps := l) (k := kk) (by omega)
      have p1 := pt_at (ps := l) (k := (kk + 1) % m) (by omega)
      have p2 := pt_at (ps := l) (k := (kk + (m - 1)) % m) (by omega)
      have o0 := okP_sm (okAll_at hol (k := kk) (by omega))
      have o1 := okP_sm (okAll_at hol (k := (kk + 1) % m) (by omega))
      have o2 := okP_sm (okAll_at hol (k := (kk + (m - 1)) % m) (by omega))
      generalize (kk + 1) % m = m1 at *
      generalize (kk + (m - 1)) % m = m2 at *
      obtain ⟨ax, ay, ha⟩ : ∃ x y, pt l kk = (x, y) := ⟨_, _, rfl⟩
      obtain ⟨bx, bY, hbb⟩ : ∃ x y, pt l m1 = (x, y) := ⟨_, _, rfl⟩
      obtain ⟨cx, cy, hc⟩ : ∃ x y, pt l m2 = (x, y) := ⟨_, _, rfl⟩
      rw [ha] at p0 o0 HE
      rw [hbb] at p1 o1 HE
      rw [hc] at p2 o2 HE
      obtain ⟨ad, eA, bA, pA⟩ := S0.1.get p0
      obtain ⟨ad2, eA2, _, pB⟩ := S0.1.get p1
      rw [eA] at eA2
      injection eA2 with eA2
      subst eA2
      obtain ⟨ad2, eA2, _, pC⟩ := S0.1.get p2
      rw [eA] at eA2
      injection eA2 with eA2
      subst eA2
      subst eA
      obtain ⟨t, ht⟩ : ∃ t, turnI cx cy ax ay bx bY = t := ⟨_, rfl⟩
      have QT : Hid (∀ w, _) := Lib.hid fun w => PointSpec.l02Turn cx cy ax ay bx bY o2 o0 o1 w
      rw [ht] at QT
      have HT : Hid (bendBack l kk = t) := Lib.hid (by rw [HE.out, ← ht]; rfl)
      have hk3 : (kk : Int) < (m : Int) := by omega
      have hk0' : (0 : Int) ≤ (kk : Int) := by omega
      have hm1I : (m1 : Int) < (m : Int) := by omega
      have hm1I0 : (0 : Int) ≤ (m1 : Int) := by omega
      have hm2I : (m2 : Int) < (m : Int) := by omega
      have hm2I0 : (0 : Int) ≤ (m2 : Int) := by omega
      have hn0 : ¬ ((m : Int) = 0) := by omega
      have hn1 : ¬ (m = 0) := by omega
      have uk1 : IntKind.i64.wrap ((kk : Int) + 1) = (kk : Int) + 1 := IntWalk.i64_in _ (by omega)
      have uk2 : IntKind.i64.wrap ((kk : Int) + (m : Int)) = (kk : Int) + (m : Int) := IntWalk.i64_in _ (by omega)
      have uk3 : IntKind.i64.wrap ((kk : Int) + (m : Int) - 1) = (kk : Int) + (m : Int) - 1 := IntWalk.i64_in _ (by omega)
      have uk4 : IntKind.i64.wrap ((kk : Int) - 1) = (kk : Int) - 1 := IntWalk.i64_in _ (by omega)
      have HH : Hid (t = 0 → Look l kk (kk : Int)) := Lib.hid (fun h => look_hit (by omega) (by omega) (by rw [HT.out, h]))
      have HI : Hid (¬ t = 0 → Look l kk v) := Lib.hid (fun h => look_miss hs.out (by rw [HT.out]; exact h))
      have HO : ∀ W W' : World, (PtsAt W w1.heap.size (some ad) l ∧ PtAt W ad kk ax ay ∧ PtAt W ad m1 bx bY ∧ PtAt W ad m2 cx cy ∧ Below w1.heap.size w1 W) → Below W.heap.size W W' → (PtsAt W' w1.heap.size (some ad) l ∧ PtAt W' ad kk ax ay ∧ PtAt W' ad m1 bx bY ∧ PtAt W' ad m2 cx cy ∧ Below w1.heap.size w1 W') := fun W W' ⟨x0, x1, x2, x3, hb⟩ h => ⟨x0.later (h.mono hb.size), x1.later bA (h.mono hb.size), x2.later bA (h.mono hb.size), x3.later bA (h.mono hb.size), hb.trans (h.mono hb.size)⟩
      replace S0 : PtsAt wr w1.heap.size (some ad) l ∧ PtAt wr ad kk ax ay ∧ PtAt wr ad m1 bx bY ∧ PtAt wr ad m2 cx cy ∧ Below w1.heap.size w1 wr := ⟨S0.1, pA, pB, pC, S0.2⟩
      clear pA pB pC p0 p1 p2 o0 o1 o2 ht ha hbb hc HT HE hs hml hown hol HR hlm
      obtain ⟨_, ⟨_, _⟩, ⟨_, _⟩, ⟨_, _⟩, _⟩ := id S0
      by_cases h0 : t = 0
      · have HK := Lib.hid (HH.out h0)
        clear HH HI
        subst h0
        go_wp2_with fail
        refine Settle.region (fun W => PtsAt W w1.heap.size (some ad) l ∧ PtAt W ad kk ax ay ∧ PtAt W ad m1 bx bY ∧ PtAt W ad m2 cx cy ∧ Below w1.heap.size w1 W) (by kernel_rfl) (by kernel_rfl) (by kernel_rfl) (by kernel_rfl) (HO _ _ S0 ((Below.refl _ _).drew)) ?_
        clear S0
        repeat (first
          | (refine Settle.Settles.off (by rfl) ?_; simp only [Act.put, List.setIfInBounds_toArray, List.set_cons_zero, List.set_cons_succ])
          | (refine Settle.Settles.quiet (v := ?_) (by rfl) ?_ ?_
             rotate_left
             · (intro W hS; obtain ⟨_, ⟨_, _⟩, ⟨_, _⟩, ⟨_, _⟩, _⟩ := hS; go_simp; with_reducible rfl)
             simp only [Act.put, List.setIfInBounds_toArray, List.set_cons_zero, List.set_cons_succ])
          | (refine Settle.Settles.call (v := ?_) (f := ?_) (args := ?_) (by rfl) ?_ ?_ ?_
             rotate_left 3
             · (intro W; go_simp; refine ⟨?_, ?_⟩ <;> with_reducible rfl)
             · (intro W hS; first | (go_at_call 113; (with_reducible refine (QT.out _).mono ?_); rintro e W1 ⟨rfl, hb⟩; refine ⟨?_, HO _ _ hS hb⟩; with_reducible rfl))
             simp only [Act.put, List.setIfInBounds_toArray, List.set_cons_zero, List.set_cons_succ]))
        refine Settle.Settles.nil ?_
        intro wr S0
        obtain ⟨_, ⟨_, _⟩, ⟨_, _⟩, ⟨_, _⟩, _⟩ := id S0
        go_wp2_with fail
        exact ⟨⟨kk, (kk : Int), by omega, rfl, rfl, HK, S0.1, S0.2.2.2.2⟩, by simp [intOf] <;> omega⟩
      · have HK := Lib.hid (HI.out h0)
        have hb0 : (t == 0) = false := beq_eq_false_iff_ne.2 h0
        clear HH HI
        go_wp2_with fail
        refine Settle.region (fun W => PtsAt W w1.heap.size (some ad) l ∧ PtAt W ad kk ax ay ∧ PtAt W ad m1 bx bY ∧ PtAt W ad m2 cx cy ∧ Below w1.heap.size w1 W) (by kernel_rfl) (by kernel_rfl) (by kernel_rfl) (by kernel_rfl) (HO _ _ S0 ((Below.refl _ _).drew)) ?_
        clear S0
        repeat (first
          | (refine Settle.Settles.off (by rfl) ?_; simp only [Act.put, List.setIfInBounds_toArray, List.set_cons_zero, List.set_cons_succ])
          | (refine Settle.Settles.quiet (v := ?_) (by rfl) ?_ ?_
             rotate_left
             · (intro W hS; obtain ⟨_, ⟨_, _⟩, ⟨_, _⟩, ⟨_, _⟩, _⟩ := hS; go_simp; with_reducible rfl)
             simp only [Act.put, List.setIfInBounds_toArray, List.set_cons_zero, List.set_cons_succ])
          | (refine Settle.Settles.call (v := ?_) (f := ?_) (args := ?_) (by rfl) ?_ ?_ ?_
             rotate_left 3
             · (intro W; go_simp; refine ⟨?_, ?_⟩ <;> with_reducible rfl)
             · (intro W hS; first | (go_at_call 113; (with_reducible refine (QT.out _).mono ?_); rintro e W1 ⟨rfl, hb⟩; refine ⟨?_, HO _ _ hS hb⟩; with_reducible rfl))
             simp only [Act.put, List.setIfInBounds_toArray, List.set_cons_zero, List.set_cons_succ]))
        refine Settle.Settles.nil ?_
        intro wr S0
        obtain ⟨_, ⟨_, _⟩, ⟨_, _⟩, ⟨_, _⟩, _⟩ := id S0
        go_wp2_with fail
        exact ⟨⟨kk, v, by omega, rfl, rfl, HK, S0.1, S0.2.2.2.2⟩, by simp [intOf] <;> omega⟩
end Go.Proofs.Ythokeedmccfalaa.StrSpec


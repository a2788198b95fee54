/-
  The cursor of the drawn inputs: what each drawing function of the model leaves, as contracts: a number in its range, only the cursor's own block written.
-/
import Derived.Test.YtcfoleiooohbhaaChecked
import Derived.WalkKit
import Derived.ProofKit
import Derived.WalkSpells
import Derived.Deep.QuietTactic
import Derived.BigQuiet
import Derived.Deep.AppendLies
import Derived.Laws.Rows
import Derived.Lib.Hide
import Derived.Outline
namespace Go.Proofs.Ytcfoleiooohbhaa.Draw
open Go.RowKit

/-- The bytes that the cursor reads: slice A of n bytes, below block cb. -/
def Code (w : World) (cb : Nat) (A : Option Addr) (n : Nat) : Prop :=
  ∀ j, j < n → ∃ ad x, A = some ad ∧ ad.block < cb ∧ 0 ≤ x ∧ x ≤ 255 ∧ w.cell? (ad.add j) = some (.int .u8 x)
/-- The cursor's own block. -/
def Cur (w : World) (cb : Nat) (A : Option Addr) (n cap : Nat) (i : Nat) (h : Int) : Prop :=
  w.heap[cb]? = some (.cells #[.slice A n cap, .int .i64 (i : Int), .int .i64 h] 93 (0, 0))
def St (w : World) (cb : Nat) (A : Option Addr) (n cap : Nat) : Prop := n ≤ maxLen ∧ Code w cb A n ∧ ∃ i h, Cur w cb A n cap i h
/-- A number with P came back; the cursor stands; its block alone was written. -/
def IntP (w : World) (cb : Nat) (A : Option Addr) (n cap : Nat) (P : Int → Prop) (e : Ending) (w' : World) : Prop :=
  ∃ x : Int, P x ∧ e = .returned (.int .i64 x) ∧ St w' cb A n cap ∧ w.grownBy w' (some cb)

theorem block_add (a : Addr) (j : Nat) : (a.add j).block = a.block := by unfold Addr.add; split <;> rfl
theorem Cur.lt {w : World} {cb : Nat} {A : Option Addr} {n cap i : Nat} {h : Int} (hc : Cur w cb A n cap i h) : cb < w.heap.size := by
  rcases Nat.lt_or_ge cb w.heap.size with hl | hl
  · exact hl
  · unfold Cur at hc; rw [Array.getElem?_eq_none hl] at hc; cases hc
theorem Code.kept {w w' : World} {cb : Nat} {A : Option Addr} {n : Nat} (hc : Code w cb A n) (hl : cb ≤ w.heap.size) (hg : w.grownBy w' (some cb)) : Code w' cb A n := by
  intro j hj
  obtain ⟨ad, x, h1, h2, h3, h4, h5⟩ := hc j hj
  refine ⟨ad, x, h1, h2, h3, h4, ?_⟩
  rw [hg.cell_far _ (by rw [block_add]; omega) (by rw [block_add]; intro e; injection e; omega)]
  exact h5
theorem Code.at_ {w : World} {cb : Nat} {ad : Addr} {n j : Nat} (hc : Code w cb (some ad) n) (hj : j < n) : ∃ x : Int, ad.block < cb ∧ 0 ≤ x ∧ x ≤ 255 ∧ w.cell? (ad.add j) = some (.int .u8 x) := by
  obtain ⟨ad', x, h1, h2, h3, h4, h5⟩ := hc j hj
  injection h1 with h1
  subst h1
  exact ⟨x, h2, h3, h4, h5⟩
theorem grown_set {w w' : World} {cb : Nat} (h : w.grownBy w' (some cb)) (k : Nat) (v : Value) : w.grownBy (w'.setCell ⟨cb, k, none⟩ v) (some cb) :=
  ⟨h.os, h.tape, h.output, by simpa [World.setCell] using h.size, fun i hi hne => (Below.heap_setCell w' ⟨cb, k, none⟩ v i (by rintro rfl; exact hne rfl)).trans (h.block i hi hne)⟩
theorem grown_drewN {w w' : World} {row : Option Nat} (h : w.grownBy w' row) (k : Nat) : w.grownBy (w'.drewN k) row := ⟨h.os, h.tape, h.output, h.size, h.block⟩
theorem grown_trans {a b c : World} {row : Option Nat} (h : a.grownBy b row) (k : b.grownBy c row) : a.grownBy c row :=
  ⟨k.os.trans h.os, k.tape.trans h.tape, k.output.trans h.output, Nat.le_trans h.size k.size, fun i hi hne => (k.block i (Nat.lt_of_lt_of_le hi h.size) hne).trans (h.block i hi hne)⟩
theorem heap_set_own {w : World} {cb : Nat} {cs : Array Value} {t : TypeId} {fr : Nat × Nat} (h : w.heap[cb]? = some (.cells cs t fr)) (k : Nat) (v : Value) :
    (w.setCell ⟨cb, k, none⟩ v).heap[cb]? = some (.cells (cs.setIfInBounds k v) t fr) := by
  simp [World.setCell, Array.getElem?_modify, h]
theorem heap_drewN {w : World} (k b : Nat) : (w.drewN k).heap[b]? = w.heap[b]? := rfl

theorem and255 (y : Int) : 0 ≤ bits .and .i64 y 255 ∧ bits .and .i64 y 255 ≤ 255 := by
  have h1 : (BitVec.ofInt 64 y &&& 255#64).toNat ≤ 255 := by rw [BitVec.toNat_and]; exact Nat.and_le_right
  have e : bits .and .i64 y 255 = IntKind.i64.wrap (((BitVec.ofInt 64 y &&& 255#64).toNat : Nat) : Int) := rfl
  rw [e, IntWalk.i64_in _ (by omega)]
  omega

/-- What the walk wants of a cursor's world. -/
theorem Cur.facts {w : World} {cb : Nat} {A : Option Addr} {n cap i : Nat} {h : Int} (hc : Cur w cb A n cap i h) :
    w.cell? ⟨cb, 0, none⟩ = some (.slice A n cap) ∧ w.cell? ⟨cb, 1, none⟩ = some (.int .i64 (i : Int)) ∧ w.cell? ⟨cb, 2, none⟩ = some (.int .i64 h) ∧
      w.frozen? ⟨cb, 1, none⟩ = false ∧ w.frozen? ⟨cb, 2, none⟩ = false := by
  have c0 := cell_of_row w cb 0 _ _ _ hc
  have c1 := cell_of_row w cb 1 _ _ _ hc
  have c2 := cell_of_row w cb 2 _ _ _ hc
  unfold Cur at hc
  simp at c0 c1 c2
  exact ⟨c0, c1, c2, by simp [World.frozen?, hc], by simp [World.frozen?, hc]⟩
theorem Cur.set2 {w : World} {cb : Nat} {A : Option Addr} {n cap i : Nat} {h : Int} (hc : Cur w cb A n cap i h) (k : Int) : Cur (w.setCell ⟨cb, 2, none⟩ (.int .i64 k)) cb A n cap i k := by
  unfold Cur at hc ⊢
  rw [heap_set_own hc]; rfl
theorem Cur.set1 {w : World} {cb : Nat} {A : Option Addr} {n cap i : Nat} {h : Int} (hc : Cur w cb A n cap i h) (k : Nat) (v : Value) (hv : v = .int .i64 (k : Int)) : Cur (w.setCell ⟨cb, 1, none⟩ v) cb A n cap k h := by
  subst hv
  unfold Cur at hc ⊢
  rw [heap_set_own hc]; rfl
theorem Cur.drewN {w : World} {cb : Nat} {A : Option Addr} {n cap i : Nat} {h : Int} (hc : Cur w cb A n cap i h) (k : Nat) : Cur (w.drewN k) cb A n cap i h := hc

set_option maxRecDepth 100000 in
set_option maxHeartbeats 800000 in
theorem byte (w : World) (cb : Nat) (A : Option Addr) (n cap : Nat) (hs : St w cb A n cap) :
    Calls Try.prog 56 #[.pointer (some ⟨cb, 0, none⟩)] w (IntP w cb A n cap (fun x => 0 ≤ x ∧ x ≤ 255)) := by
  obtain ⟨hn, hcode, i, h, hcur⟩ := hs
  obtain ⟨c0, c1, c2, f1, f2⟩ := hcur.facts
  have HC := Lib.hid hcur
  have HCode := Lib.hid hcode
  have hlt := hcur.lt
  have HN := Lib.hid hn
  unfold maxLen at hn
  clear hcur hcode
  by_cases hi : i < n
  · obtain ⟨ad, x, rfl, hb, hx0, hx1, hcx⟩ := HCode.out i hi
    go_enter Try.func56, Try.ntmps56
    go_wp2_with fail
    generalize wrap64 (wrap64 (h * 6364136223846793005) + 1442695040888963407) = H
    have k1 : Cur (w.setCell ⟨cb, 2, none⟩ (.int .i64 H)) cb (some ad) n cap i H := HC.out.set2 H
    have g1 : w.grownBy (w.setCell ⟨cb, 2, none⟩ (.int .i64 H)) (some cb) := grown_set (World.grownBy.refl w _) 2 _
    have d1 := HCode.out.kept (by omega) g1
    clear c0 c1 c2 f1 f2 hcx
    generalize w.setCell ⟨cb, 2, none⟩ (.int .i64 H) = W1 at k1 g1 d1 ⊢
    obtain ⟨c0, c1, c2, f1, f2⟩ := k1.facts
    obtain ⟨x, _, hx0, hx1, hcx⟩ := d1.at_ hi
    have K1 := Lib.hid k1
    have G1 := Lib.hid g1
    have D1 := Lib.hid d1
    clear k1 g1 d1
    have hi1 : (i : Int) < (n : Int) := by omega
    go_quiet (fail)
    go_wp2_with fail
    go_quiet (fail)
    go_wp2_with fail
    go_quiet (fail)
    go_wp2_with fail
    go_ret
    have gg := grown_set G1.out 1 (.int .i64 ((i : Int) + 1))
    have dd := D1.out.kept (Nat.le_of_lt K1.out.lt) (grown_set (World.grownBy.refl W1 (some cb)) 1 (.int .i64 ((i : Int) + 1)))
    have kk := K1.out.set1 (i + 1) (.int .i64 ((i : Int) + 1)) (by simp)
    exact ⟨_, and255 _, rfl, ⟨HN.out, dd, _, _, kk⟩, ⟨gg.os, gg.tape, gg.output, gg.size, gg.block⟩⟩
  · go_enter Try.func56, Try.ntmps56
    go_wp2_with fail
    generalize wrap64 (wrap64 (h * 6364136223846793005) + 1442695040888963407) = H
    have k1 : Cur (w.setCell ⟨cb, 2, none⟩ (.int .i64 H)) cb A n cap i H := HC.out.set2 H
    have g1 : w.grownBy (w.setCell ⟨cb, 2, none⟩ (.int .i64 H)) (some cb) := grown_set (World.grownBy.refl w _) 2 _
    have d1 := HCode.out.kept (by omega) g1
    clear c0 c1 c2 f1 f2
    generalize w.setCell ⟨cb, 2, none⟩ (.int .i64 H) = W1 at k1 g1 d1 ⊢
    obtain ⟨c0, c1, c2, f1, f2⟩ := k1.facts
    have K1 := Lib.hid k1
    have G1 := Lib.hid g1
    have D1 := Lib.hid d1
    clear k1 g1 d1
    have hi1 : ¬ (i : Int) < (n : Int) := by omega
    go_quiet (fail)
    go_wp2_with fail
    go_quiet (fail)
    go_wp2_with fail
    go_ret
    exact ⟨_, and255 _, rfl, ⟨HN.out, D1.out, _, _, K1.out⟩, ⟨G1.out.os, G1.out.tape, G1.out.output, G1.out.size, G1.out.block⟩⟩

theorem St.lt {w : World} {cb : Nat} {A : Option Addr} {n cap : Nat} (hs : St w cb A n cap) : cb < w.heap.size := by
  obtain ⟨_, _, _, _, hc⟩ := hs
  exact hc.lt
theorem St.alloc {w : World} {cb : Nat} {A : Option Addr} {n cap : Nat} (hs : St w cb A n cap) (o : Obj) : St (w.alloc o) cb A n cap := by
  obtain ⟨hn, hcode, i, h, hc⟩ := hs
  have hl := hc.lt
  exact ⟨hn, hcode.kept (Nat.le_of_lt hl) (World.grownBy_alloc w o _), i, h, (Below.heap_alloc w o cb hl).trans hc⟩
theorem St.kept {w w' : World} {cb : Nat} {A : Option Addr} {n cap : Nat} {row : Option Nat} (hs : St w cb A n cap) (hg : w.grownBy w' row) (hr : ∀ g, row = some g → cb < g) : St w' cb A n cap := by
  obtain ⟨hn, hcode, i, h, hc⟩ := hs
  have hl := hc.lt
  refine ⟨hn, fun j hj => ?_, i, h, (hg.block cb hl (fun e => Nat.lt_irrefl _ (hr cb e.symm))).trans hc⟩
  obtain ⟨ad, x, h1, h2, h3, h4, h5⟩ := hcode j hj
  refine ⟨ad, x, h1, h2, h3, h4, ?_⟩
  rw [hg.cell_far _ (by rw [block_add]; omega) (by rw [block_add]; intro e; have := hr _ e.symm; omega)]
  exact h5
theorem grown_alloc {w w' : World} {row : Option Nat} (h : w.grownBy w' row) (o : Obj) : w.grownBy (w'.alloc o) row :=
  ⟨h.os, h.tape, h.output, Nat.le_trans h.size (by simp), fun i hi hne => (Below.heap_alloc w' o i (Nat.lt_of_lt_of_le hi h.size)).trans (h.block i hi hne)⟩

set_option maxRecDepth 100000 in
set_option maxHeartbeats 800000 in
theorem below (w : World) (cb : Nat) (A : Option Addr) (n cap : Nat) (hs : St w cb A n cap) (m : Int) (hm : 0 < m) :
    Calls Try.prog 37 #[.pointer (some ⟨cb, 0, none⟩), .int .i64 m] w (IntP w cb A n cap (fun x => 0 ≤ x ∧ x < m)) := by
  by_cases h : m ≤ 256
  · go_enter Try.func37, Try.ntmps37
    go_wp2_with fail
    refine (byte _ cb A n cap hs).mono ?_
    rintro e w1 ⟨x, ⟨hx0, hx1⟩, rfl, hs1, hg1⟩
    go_wp2_with fail
    go_ret
    exact ⟨_, ⟨Int.emod_nonneg _ (by omega), Int.emod_lt_of_pos _ hm⟩, rfl, hs1, hg1⟩
  · go_enter Try.func37, Try.ntmps37
    go_wp2_with fail
    refine (byte _ cb A n cap hs).mono ?_
    rintro e w1 ⟨x1, ⟨hx0, hx1⟩, rfl, hs1, hg1⟩
    go_wp2_with fail
    refine (byte _ cb A n cap hs1).mono ?_
    rintro e w2 ⟨x2, ⟨hy0, hy1⟩, rfl, hs2, hg2⟩
    go_wp2_with fail
    refine (byte _ cb A n cap hs2).mono ?_
    rintro e w3 ⟨x3, ⟨hz0, hz1⟩, rfl, hs3, hg3⟩
    go_wp2_with fail
    refine (byte _ cb A n cap hs3).mono ?_
    rintro e w4 ⟨x4, ⟨ht0, ht1⟩, rfl, hs4, hg4⟩
    go_wp2_with fail
    go_ret
    exact ⟨_, ⟨Int.emod_nonneg _ (by omega), Int.emod_lt_of_pos _ hm⟩, rfl, hs4, grown_trans (grown_trans (grown_trans hg1 hg2) hg3) hg4⟩

/-- A truth value came back; the cursor stands; its block alone was written. -/
def BoolP (w : World) (cb : Nat) (A : Option Addr) (n cap : Nat) (e : Ending) (w' : World) : Prop :=
  ∃ b : Bool, e = .returned (.bool b) ∧ St w' cb A n cap ∧ w.grownBy w' (some cb)

/-- A new cursor over the given bytes lies in a new block. -/
def NewP (w : World) (A : Option Addr) (n cap : Nat) (e : Ending) (w' : World) : Prop :=
  e = .returned (.pointer (some ⟨w.heap.size, 0, none⟩)) ∧ St w' w.heap.size A n cap ∧ Below w.heap.size w w'

set_option maxRecDepth 100000 in
set_option maxHeartbeats 400000 in
theorem newCur (w : World) (A : Option Addr) (n cap : Nat) (hn : n ≤ 1048576) (hcode : Code w w.heap.size A n) :
    Calls Try.prog 28 #[.slice A n cap] w (NewP w A n cap) := by
  have HCode := Lib.hid hcode
  clear hcode
  go_enter Try.func28, Try.ntmps28
  go_wp2_with fail
  go_loop [3, 4] (fun hh i => ∃ (k : Nat) (H : Int), k ≤ n ∧ i = .int .i64 k ∧ hh = .int .i64 H) (fun _ i => n - (intOf i).toNat)
  case atStart => exact ⟨0, _, Nat.zero_le _, rfl, rfl⟩
  case round =>
    obtain ⟨k, H, hk, rfl, rfl⟩ := hrel
    by_cases h1 : k < n
    · by_cases h2 : k < 4000
      · obtain ⟨ad, x, rfl, hb, hx0, hx1, hcx⟩ := HCode.out k h1
        go_wp2_with fail
        go_round
        case rel => exact ⟨k + 1, _, by omega, by go_num, rfl⟩
        case measure => simp [intOf]; omega
      · go_wp2_with fail
        go_ret
        have hn' : n ≤ maxLen := by unfold maxLen; omega
        exact ⟨rfl, ⟨hn', HCode.out.kept (Nat.le_refl _) (World.grownBy_alloc w _ _), 0, H, heap_alloc_new w _⟩, (Below.refl _ _).alloc (Nat.le_refl _) _⟩
    · go_wp2_with fail
      go_ret
      have hn' : n ≤ maxLen := by unfold maxLen; omega
      exact ⟨rfl, ⟨hn', HCode.out.kept (Nat.le_refl _) (World.grownBy_alloc w _ _), 0, H, heap_alloc_new w _⟩, (Below.refl _ _).alloc (Nat.le_refl _) _⟩
end Go.Proofs.Ytcfoleiooohbhaa.Draw

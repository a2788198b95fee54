/-
  slices.Sort of a row of integers of the call's own, as a contract: the row is sorted. A nil slice too.
-/
import Derived.Test.YtkcodmafakjkfaaGreatShelfSort
import Derived.Test.YtkcodmafakjkfaaGreatTrisPlain
import Derived.Test.YtkcodmafakjkfaaGreatGround
import Derived.Sort.OwnSortedInts
import Derived.Lib.OwnBridge
import Derived.WalkKit
namespace Go.Proofs.YtkcodmafakjkfaaGreat.SortI
open Go.RowKit Own TrisMath Go.Sort

theorem insertion_nil (w : World) : Calls Tryz.prog 145 #[.slice none 0 0, .int .i64 0, .int .i64 0] w fun e w' => e = .returned (.tuple #[]) ∧ w' = w := by
  go_enter Tryz.func145, Tryz.ntmps145
  go_wp2_with fail
  refine wp_loop_rounds 1 ?_
  rw [rounds_succ]
  go_wp2_with fail
  (try simp only [Exit.inBlock, Exit.then])
  first
    | exact bodyPost_end (results_none rfl _ _ _) rfl ⟨rfl, rfl⟩
    | exact bodyPost_ret (results_none rfl _ _ _) rfl ⟨rfl, rfl⟩
theorem pdq_nil (lim : Int) (w : World) : Calls Tryz.prog 129 #[.slice none 0 0, .int .i64 0, .int .i64 0, .int .i64 lim] w fun e w' => e = .returned (.tuple #[]) ∧ w' = w := by
  go_enter Tryz.func129, Tryz.ntmps129
  go_wp2_with fail
  refine wp_loop_rounds 1 ?_
  rw [rounds_succ]
  go_wp2_with fail
  refine (insertion_nil _).mono ?_
  rintro e w_ ⟨rfl, rfl⟩
  go_wp2_with fail
  (try simp only [Exit.inBlock, Exit.then])
  first
    | exact bodyPost_ret (results_none rfl _ _ _) rfl ⟨rfl, rfl⟩
    | exact bodyPost_end (results_none rfl _ _ _) rfl ⟨rfl, rfl⟩
theorem sort_nil (w : World) : Calls Tryz.prog 101 #[.slice none 0 0] w fun e w' => e = .returned (.tuple #[]) ∧ w' = w := by
  go_enter Tryz.func101, Tryz.ntmps101
  go_wp2_with fail
  refine (Tryz.bits_Len 0 _ (by omega) (by omega)).mono ?_
  rintro e w_ ⟨rfl, rfl⟩
  go_wp2_with fail
  refine (pdq_nil _ _).mono ?_
  rintro e w_ ⟨rfl, rfl⟩
  go_wp2_with fail
  (try simp only [Exit.inBlock, Exit.then])
  first
    | exact bodyPost_end (results_none rfl _ _ _) rfl ⟨rfl, rfl⟩
    | exact bodyPost_ret (results_none rfl _ _ _) rfl ⟨rfl, rfl⟩

theorem sort_own {w : World} {b n cap : Nat} {A : Option Addr} {l : List Int} (h : w.ownsRow b 3 1 (.slice A n cap) n (icells l)) (hn : n ≤ 1048576) :
    Calls Tryz.prog 101 #[.slice A n cap] w fun e w' => e = .returned (.tuple #[]) ∧ w'.ownsRow b 3 1 (.slice A n cap) n (icells (sorted l)) ∧ w.grownBy w' (Value.slice A n cap).ownBlock := by
  have hlen : l.length = n := by have := h.1; simpa [icells] using this
  by_cases hv : Value.slice A n cap = .slice none 0 0
  · injection hv with e1 e2 e3
    subst e1 e2 e3
    have hl : l = [] := List.length_eq_zero_iff.1 hlen
    subst hl
    refine (sort_nil w).mono ?_
    rintro e w' ⟨rfl, rfl⟩
    exact ⟨rfl, by have e1 : sorted [] = [] := List.length_eq_zero_iff.1 (by rw [sorted_length]; rfl)
                   rw [e1]; exact h, World.grownBy.refl _ _⟩
  · obtain ⟨g, c, e1, hb, hg, _, _, _, hH⟩ := Lib.holds_of_ownsRow (enc := Value.int .i64) (zs := l) h hv
    injection e1 with e1 _ e3
    subst e1 e3
    rcases h.2 with ⟨h0, _⟩ | ⟨g', cap', cur, e1, hbase, hc, h1, h2, h3, h4⟩
    · cases h0
    injection e1 with e1 _ e3
    injection e1 with e1
    injection e1 with e1
    subst e1 e3
    have hs := Tryz.slices_Sort_int g 0 cap l w hH hg (by omega)
    subst hlen
    refine hs.mono ?_
    rintro e w' ⟨rfl, nn, os, rfl⟩
    exact ⟨rfl, ownsRow_sortedI (ts := sorted l) (sorted_length l) hbase hc h1 h2 h3, grownBy_sortedI _⟩

end Go.Proofs.YtkcodmafakjkfaaGreat.SortI

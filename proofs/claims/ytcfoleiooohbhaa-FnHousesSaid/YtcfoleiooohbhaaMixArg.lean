/-
  Structs of mixed leaves (integers, booleans, strings, slices), also those of structs within, and slices of such structs, that come in: opened leaf by leaf. No program stands here.
-/
import Derived.Test.YtcfoleiooohbhaaGround
namespace Go.Proofs.Ytcfoleiooohbhaa.MixArg
open Go Go.ChangeShapes Go.WideShapes Go.Deep FlatArg

/-- The leaves of a type, in their order: whatever is no struct, of one cell. -/
def leavesB (P : Program) : Nat → TypeId → Option (List TypeId)
  | 0, _ => none
  | k + 1, t => match P.underlying t with
    | some (.struct fs) => if stepB P fs.toList 0 = some (P.cellsOf t) then (fs.toList.mapM fun f => leavesB P k f.type).map List.flatten else none
    | _ => if P.cellsOf t = 1 then some [t] else none

section
variable {H : Type} {enc : TypeId × Value → H} {P : Program} {w : World} {base : Nat} {spare : Nat → Bool} {held : Bool}

/-- Each cell can be read as a value of its leaf's type. -/
inductive Leaves (enc : TypeId × Value → H) (P : Program) (w : World) (base : Nat) (spare : Nat → Bool) (held : Bool) : List TypeId → List Value → Prop
  | nil : Leaves enc P w base spare held [] []
  | cons {T : TypeId} {v : Value} {Ts : List TypeId} {vs : List Value} {fuel : Nat} {x : DataW H × List MemPlace} (h : DataW.trod enc P w base spare held fuel T [v] = some x) (r : Leaves enc P w base spare held Ts vs) : Leaves enc P w base spare held (T :: Ts) (v :: vs)
theorem Leaves.app {A B : List TypeId} {a b : List Value} (ha : Leaves enc P w base spare held A a) (hb : Leaves enc P w base spare held B b) : Leaves enc P w base spare held (A ++ B) (a ++ b) := by
  induction ha with
  | nil => exact hb
  | cons h _ ih => exact .cons h ih
theorem step_le {P : Program} : ∀ {fs : List Field} {o e : Nat}, stepB P fs o = some e → o ≤ e
  | [], o, e, h => by simp only [stepB, Option.some.injEq] at h; omega
  | f :: fs, o, e, h => by
    unfold stepB at h
    split at h
    · have := step_le h; omega
    · cases h
theorem pieces {cs : List Value} : ∀ (fs : List Field) (o e : Nat) (Ks : List (List TypeId)), stepB P fs o = some e → cs.length = e → Ks.length = fs.length →
    (∀ i (h : i < fs.length) (h2 : i < Ks.length), Leaves enc P w base spare held Ks[i] ((cs.drop fs[i].offset).take (P.cellsOf fs[i].type))) → Leaves enc P w base spare held Ks.flatten (cs.drop o)
  | [], o, e, Ks, hs, hl, hk, _ => by
    simp only [stepB, Option.some.injEq] at hs
    obtain rfl : Ks = [] := List.length_eq_zero_iff.1 hk
    rw [List.drop_of_length_le (by omega)]
    exact .nil
  | f :: fs, o, e, [], hs, hl, hk, _ => by simp at hk
  | f :: fs, o, e, K :: Ks, hs, hl, hk, h => by
    unfold stepB at hs
    split at hs
    · rename_i ho
      have h1 := h 0 (by simp) (by simp)
      have h2 := pieces fs (o + P.cellsOf f.type) e Ks hs hl (by simpa using hk) (fun i hi hi2 => h (i + 1) (by simpa using hi) (by simpa using hi2))
      simp only [List.getElem_cons_zero] at h1
      rw [ho] at h1
      rw [← List.take_append_drop (P.cellsOf f.type) (cs.drop o), List.drop_drop]
      exact h1.app h2
    · cases hs
theorem mapM_some {α β : Type} {f : α → Option β} : ∀ {l : List α} {r : List β}, l.mapM f = some r → r.length = l.length ∧ ∀ i (h : i < l.length) (h2 : i < r.length), f l[i] = some r[i]
  | [], r, h => by
    simp at h
    subst h
    exact ⟨rfl, fun i hi => absurd hi (by simp)⟩
  | a :: l, r, h => by
    rw [List.mapM_cons] at h
    cases ha : f a with
    | none => rw [ha] at h; cases h
    | some b =>
      rw [ha] at h
      cases hl : l.mapM f with
      | none => simp [hl] at h
      | some q =>
        simp [hl] at h
        subst h
        obtain ⟨e, g⟩ := mapM_some hl
        refine ⟨by simp [e], fun i hi hi2 => ?_⟩
        cases i with
        | zero => simpa using ha
        | succ i => simpa using g i (by simpa using hi) (by simpa using hi2)
theorem leaves_trod : ∀ (k : Nat) {t : TypeId} {fuel : Nat} {cs : List Value} {ks : List TypeId} {x : DataW H × List MemPlace}, leavesB P k t = some ks → cs.length = P.cellsOf t → DataW.trod enc P w base spare held fuel t cs = some x → Leaves enc P w base spare held ks cs
  | 0, _, _, _, _, _, hf, _, _ => by simp [leavesB] at hf
  | k + 1, t, fuel, cs, ks, x, hf, hcs, h => by
    unfold leavesB at hf
    split at hf
    · rename_i fs hu
      split at hf
      · rename_i hstep
        cases hm : fs.toList.mapM fun f => leavesB P k f.type with
        | none => rw [hm] at hf; cases hf
        | some Ks =>
          rw [hm] at hf
          simp only [Option.map_some, Option.some.injEq] at hf
          subst hf
          obtain ⟨hkl, hk⟩ := mapM_some hm
          obtain ⟨xs, n, _, _, hl, hxl, hx⟩ := DataW.trod_struct hu h
          have hle : ∀ i (hi : i < fs.toList.length), fs.toList[i].offset + P.cellsOf fs.toList[i].type ≤ cs.length := by
            have aux : ∀ (l : List Field) (o e : Nat), stepB P l o = some e → ∀ i (hi : i < l.length), l[i].offset + P.cellsOf l[i].type ≤ e := by
              intro l
              induction l with
              | nil => intro o e _ i hi; simp at hi
              | cons f l ih =>
                intro o e hs i hi
                unfold stepB at hs
                split at hs
                · rename_i ho
                  cases i with
                  | zero =>
                    have := step_le hs
                    simp only [List.getElem_cons_zero]
                    omega
                  | succ i => simpa using ih _ _ hs i (by simpa using hi)
                · cases hs
            intro i hi
            have := aux fs.toList 0 _ hstep i hi
            omega
          have := pieces (P := P) (cs := cs) fs.toList 0 _ Ks hstep hl hkl (fun i hi hi2 => by
            have hi' : i < fs.size := by simpa using hi
            have e2 : fs[i]? = some fs.toList[i] := by
              rw [Array.getElem?_eq_getElem hi']
              simp
            have h3 := hx i _ e2
            rw [List.getElem?_eq_getElem (by omega)] at h3
            have := hle i hi
            exact leaves_trod k (hk i hi hi2) (by rw [List.length_take, List.length_drop]; omega) h3)
          simpa using this
      · cases hf
    · split at hf
      · rename_i h1
        simp only [Option.some.injEq] at hf
        subst hf
        rw [h1] at hcs
        match cs, hcs with
        | [v], _ => exact .cons h .nil
      · cases hf
theorem mix_open {r : Reach} {b0 k : Nat} {t : TypeId} {fs : Array Field} {v : Value} {d : DataW H} {p : List MemPlace} {ks : List TypeId} (hs : P.underlying t = some (.struct fs)) (hf : leavesB P k t = some ks)
    (hv : Value.okWide P w r b0 t v) (h : DataW.Trod enc P w base spare held t v d p) :
    ∃ cs : List Value, v = .agg cs.toArray ∧ Leaves enc P w base spare held ks cs := by
  obtain ⟨cs, rfl, hsz⟩ := okWide_struct hs hv
  obtain ⟨fuel, hfu⟩ := h
  exact ⟨cs.toList, by simp, leaves_trod k hf (by simpa [Value.cells] using hsz) hfu⟩
theorem mix_slice {ts te : TypeId} {k m : Nat} {fuel : Nat} {u : Value} {x : DataW H × List MemPlace} {ks : List TypeId} (hs : P.underlying ts = some (.slice te)) (hf : leavesB P k te = some ks) (hC : P.cellsOf te = m)
    (h : DataW.trod enc P w base spare held fuel ts [u] = some x) : ∃ (A : Option Addr) (n cap : Nat) (Z : Nat → List Value), u = .slice A n cap ∧ n ≤ maxLen ∧
      ∀ j, j < n → ∃ ad, A = some ad ∧ (Z j).length = m ∧ (∀ i, i < m → w.cell? (ad.add (j * m + i)) = (Z j)[i]?) ∧ Leaves enc P w base spare held ks (Z j) := by
  rcases open_slice hs h with ⟨hcs, _⟩ | ⟨a, l, c, q, n, D, Pl, hcs, _, hl, hm, hqq, _, hx⟩
  · simp at hcs
    subst hcs
    exact ⟨none, 0, 0, fun _ => [], rfl, Nat.zero_le _, fun j hj => absurd hj (by omega)⟩
  · simp at hcs
    subst hcs
    have hlq : l ≤ q := by rw [hqq]; split <;> omega
    have each : ∀ j, j < l → ∃ zs : List Value, zs.length = m ∧ (∀ i, i < m → w.cell? (a.add (j * m + i)) = zs[i]?) ∧ Leaves enc P w base spare held ks zs := by
      intro j hj
      obtain ⟨cs', h1, h2⟩ := hx j (by omega)
      rw [hC] at h1
      obtain ⟨_, hlen, hcell⟩ := World.cells?_some h1
      refine ⟨cs', hlen, fun i hi => ?_, leaves_trod k hf (by omega) h2⟩
      have := hcell i hi
      rw [add_add] at this
      exact this
    obtain ⟨Z, hZ⟩ := choose_lt each
    exact ⟨some a, l, c, Z, rfl, by omega, fun j hj => ⟨a, rfl, (hZ j hj).1, (hZ j hj).2.1, (hZ j hj).2.2⟩⟩
theorem leaf_int {T : TypeId} {fuel : Nat} {v : Value} {x : DataW H × List MemPlace} (hu : P.underlying T = some (.int .i64)) (h : DataW.trod enc P w base spare held fuel T [v] = some x) : ∃ z : Int, v = .int .i64 z ∧ (Lit.int .i64 z).wf = true := by
  obtain ⟨z, e, _, hw⟩ := DataW.trod_int hu h
  exact ⟨z, by simpa using e, hw⟩
theorem leaf_bool {T : TypeId} {fuel : Nat} {v : Value} {x : DataW H × List MemPlace} (hu : P.underlying T = some .bool) (h : DataW.trod enc P w base spare held fuel T [v] = some x) : ∃ z : Bool, v = .bool z := by
  obtain ⟨z, e, _⟩ := DataW.trod_bool hu h
  exact ⟨z, by simpa using e⟩
theorem leaf_string {T : TypeId} {fuel : Nat} {v : Value} {x : DataW H × List MemPlace} (hu : P.underlying T = some .string) (h : DataW.trod enc P w base spare held fuel T [v] = some x) : ∃ z : ByteArray, v = .string z ∧ z.size ≤ maxLen := by
  obtain ⟨z, e, _, hw⟩ := DataW.trod_string hu h
  exact ⟨z, by simpa using e, hw⟩
end
end Go.Proofs.Ytcfoleiooohbhaa.MixArg

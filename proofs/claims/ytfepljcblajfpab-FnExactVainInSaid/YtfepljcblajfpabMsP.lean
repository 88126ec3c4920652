/-
  What some rows miss, by the program: within at any good rows, newMissing; the model of MissedBy and VainIn. Conditions: good rows.
-/
import Derived.Test.YtfepljcblajfpabMsO
import Derived.Test.YtfepljcblajfpabPaG
namespace Go.Proofs.Ytfepljcblajfpab.W
open Go.ChangeShapes Go.WideShapes Go.ChangeAt Go.RowKit
open Go.Maps
set_option linter.unusedVariables false
set_option linter.unusedSimpArgs false

theorem within_all (D : List Int) (hd : goodD D = true) (A0 : List Pt) (R0 : List (List Pt)) (da : Option Addr) (dc MB : Nat) (hA : A0.length ≤ 40) (hR0 : ∀ b ∈ R0, b.length ≤ 40) (h8 : R0.length ≤ 8) : ∀ (f : Nat) (a : F) (R : List F) (vr vR : Value) (w : World), mea a R < f → WiIn D A0 R0 da dc MB a R vr vR w → Calls Try.prog 33 #[.agg #[.slice da D.length dc, .map (some MB)], vr, vR] w fun e w' => WiOut D a R w.heap.size w' e ∧ KM D A0 R0 w' MB ∧ Oth MB w w' := by
  intro f
  induction f with
  | zero => intro a R vr vR w h; exact absurd h (Nat.not_lt_zero _)
  | succ f ih =>
    intro a R vr vR w hf h
    by_cases hR : R = []
    · exact within_noR D hd A0 R0 da dc MB a R vr vR w h hR
    · cases a with
      | nil => exact within_noA D hd A0 R0 da dc MB .nil R vr vR w h hR rfl
      | cons x k r =>
        rcases good_kd h.wr.ok.1 with g | g
        · cases hn : R.any nam1 with
          | false => exact within_tl f D hd A0 R0 da dc MB _ R vr vR w h ih hf x k r rfl hR g.1 hn
          | true => exact within_any f D hd A0 R0 da dc MB _ R vr vR w h hA hR0 h8 ih hf x k r rfl hR g.1 hn
        · exact within_of f D hd A0 R0 da dc MB _ R vr vR w h hA hR0 h8 ih hf x k r rfl hR g.1

set_option maxRecDepth 20000 in
set_option maxHeartbeats 4000000 in
theorem newMissing_any (D : List Int) (da : Option Addr) (dc : Nat) (w : World) :
    Calls Try.prog 32 #[.agg #[.slice da D.length dc]] w fun e w' => ∃ MB, e = .returned (.agg #[.slice da D.length dc, .map (some MB)]) ∧ (∀ A0 R0, KM D A0 R0 w' MB) ∧ w.heap.size ≤ MB ∧ Below w.heap.size w w' := by
  go_enter Try.func32, Try.ntmps32
  have hmm := @run_makeMap Try.prog
  go_wp2_with fail
  obtain ⟨w1, hw1⟩ : ∃ w1, w1 = (w.alloc (.cells #[.slice da D.length dc] 31)).alloc (.cells #[.slice da D.length dc, .map (some (w.heap.size + 1 + 1))] 63) := ⟨_, rfl⟩
  have hs1 : w1.heap.size = w.heap.size + 1 + 1 := by rw [hw1]; simp
  have hb1 : Below w.heap.size w w1 := by
    rw [hw1]
    exact ((Below.refl _ _).alloc (Nat.le_refl _) _).alloc (by simp) _
  have hk : ∀ A0 R0, KM D A0 R0 (w1.alloc (.map #[] 0)) (w.heap.size + 1 + 1) := fun A0 R0 => by
    have := KM.made D A0 R0 w1
    rw [hs1] at this
    exact this
  have hb2 : Below w.heap.size w (w1.alloc (.map #[] 0)) := hb1.alloc (by omega) _
  refine bodyPost_ret (v := .agg #[.slice da D.length dc, .map (some (w.heap.size + 1 + 1))]) ?_ rfl ⟨_, rfl, ?_, ?_, ?_⟩
  · simp [results, Try.results32, go_sem]
  · rw [← hw1]; exact hk
  · omega
  · rw [← hw1]; exact hb2

/-- Rules as trees. -/
def trees (D : List Int) (L : List (List Pt)) : List F := L.map (fun l => (treeT D 40 l).getD .nil)
theorem rulesF_trees {D : List Int} : ∀ {L : List (List Pt)}, (rulesF D L).isSome = true → ∀ l ∈ L, ∃ a, treeT D 40 l = some a
  | [], _, l, h => by cases h
  | x :: L, h, l, hl => by
    rw [rulesF_cons, Bool.and_eq_true] at h
    rcases List.mem_cons.1 hl with rfl | hl
    · exact Option.isSome_iff_exists.1 h.1
    · exact rulesF_trees h.2 l hl
theorem goodR_facts {D : List Int} {L : List (List Pt)} (h : goodR D L = true) : goodD D = true ∧ L.length ≤ 8 ∧ ∀ l ∈ L, ∃ a, treeT D 40 l = some a := by
  unfold goodR ruT at h
  split at h
  · next hc => exact ⟨hc.1, hc.2, rulesF_trees h⟩
  · simp at h
theorem pof_le : ∀ a : F, pof a ≤ a.flat.length
  | .nil => Nat.le_refl _
  | .cons x k r => by
    have := pof_le k
    have := pof_le r
    simp only [pof, F.flat, List.length_cons, List.length_append]
    split <;> omega
theorem pofs_le {n : Nat} : ∀ {R : List F}, (∀ b ∈ R, b.flat.length ≤ n) → pofs R ≤ R.length * n
  | [], _ => by simp [pofs]
  | b :: R, h => by
    have h1 := pofs_le (R := R) (fun b hb => h b (by simp [hb]))
    have h2 := pof_le b
    have h3 := h b (by simp)
    rw [pofs, List.length_cons, Nat.succ_mul]
    omega
theorem trees_flat {D : List Int} {L : List (List Pt)} (h : ∀ l ∈ L, ∃ a, treeT D 40 l = some a) : (trees D L).map F.flat = L := by
  unfold trees
  rw [List.map_map]
  conv => rhs; rw [← List.map_id L]
  refine List.map_congr_left (fun l hl => ?_)
  obtain ⟨a, ha⟩ := h l hl
  simp only [Function.comp, ha, Option.getD_some, id]
  exact (treeT_flat ha).1.symm
theorem trees_mem {D : List Int} {L : List (List Pt)} (h : ∀ l ∈ L, ∃ a, treeT D 40 l = some a) {b : F} (hb : b ∈ trees D L) : b.ok D ∧ b.len = 1 ∧ b.flat.length ≤ 40 := by
  unfold trees at hb
  obtain ⟨l, hl, rfl⟩ := List.mem_map.1 hb
  obtain ⟨a, ha⟩ := h l hl
  rw [ha]
  obtain ⟨f1, f2, f3, f4⟩ := treeT_flat ha
  exact ⟨f2, f3, by simp only [Option.getD_some]; rw [← f1]; exact f4.1⟩
theorem trees_wr {D : List Int} {L : List (List Pt)} (h : ∀ l ∈ L, ∃ a, treeT D 40 l = some a) (h8 : L.length ≤ 8) {a : F} (ha : a.ok D) (hl : a.len = 1) (h40 : a.flat.length ≤ 40) : WR D a (trees D L) := by
  have h1 := pof_le a
  have h2 := pofs_le (n := 40) (fun b hb => (trees_mem h hb).2.2)
  have h3 : (trees D L).length = L.length := by simp [trees]
  rw [h3] at h2
  have h4 : L.length * 40 ≤ 8 * 40 := Nat.mul_le_mul_right _ h8
  refine ⟨ha, fun b hb => ?_, by omega, fun b hb => ?_, by omega⟩
  · obtain ⟨g1, g2, -⟩ := trees_mem h hb
    exact ⟨g1, by omega⟩
  · obtain ⟨-, -, g3⟩ := trees_mem h hb
    omega
/-- What no rule of these fits. -/
def missO (D : List Int) (L : List (List Pt)) : Option (List Pt) := if goodR D L = true then wn D (anys 1) (trees D L) else none
def missL (D : List Int) (L : List (List Pt)) : List Pt := (missO D L).getD []
/-- That a rule is in vain. -/
def vainA (D : List Int) (L : List (List Pt)) (i : Nat) : Bool := (wn D ((treeT D 40 (L.getD i [])).getD .nil) (trees D (L.take i))).isNone
def vainL (D : List Int) (L : List (List Pt)) (n : Nat) : List Int := ((List.range n).filter (vainA D L)).map (fun i : Nat => (i : Int))
theorem vainL_succ (D : List Int) (L : List (List Pt)) (n : Nat) : vainL D L (n + 1) = vainL D L n ++ if vainA D L n = true then [(n : Int)] else [] := by
  unfold vainL
  rw [List.range_succ, List.filter_append, List.map_append]
  congr 1
  by_cases h : vainA D L n = true
  · simp [h]
  · simp [h]
end Go.Proofs.Ytfepljcblajfpab.W

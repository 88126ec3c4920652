/-
  Types in the place of a type's variables, by the specification: l5Match at a variable. Conditions: as the theorem states.
-/
import Derived.Test.YtjffignbiabmaabTyE
namespace Go.Proofs.Ytjffignbiabmaab.Y
open Go.Proofs.Ytjffignbiabmaab.W
open Go.ChangeShapes Go.WideShapes Go.ChangeAt Go.RowKit
set_option linter.unusedVariables false

set_option maxRecDepth 20000 in
set_option maxHeartbeats 4000000 in
theorem l5Match_var (x : Cc) (m : Nat) (ka kb : F) (s1 s2 : Value) (H K : Nat) (σ : Sg) (w : World) (hx : (F.cons x ka .nil).ok) (hm : m < 31) (hl1 : ka.flat.length ≤ 60) (hHK : H ≠ K) (hT1 : KidT w (fun g => g ≠ H ∧ g ≠ K) ka s1) (hf2 : ∃ ad n c, s2 = .slice ad n c) (hST : ST w H K σ) :
    Calls Try.prog 79 #[.agg #[.int .i64 x.k, .int .i64 x.n, s1], .agg #[.int .i64 1, .int .i64 (m : Int), s2], .slice (some ⟨H, 0, none⟩) 31 31, .slice (some ⟨K, 0, none⟩) 31 31] w fun e w' => e = .returned (.bool (bind1 σ (m : Int) (x :: ka.flat)).isSome) ∧ Ot H K w w' ∧ ∀ σ', bind1 σ (m : Int) (x :: ka.flat) = some σ' → ST w' H K σ' := by
  obtain ⟨ad2, n2, c2, rfl⟩ := hf2
  have hHl := hST.ltH
  have hKl := hST.ltK
  have HST := hide hST
  have HT1 := hide hT1
  have hck := hST.2.2.1 m hm
  have hm31 : (m : Int) < 31 := by omega
  have hm0 : (0 : Int) ≤ (m : Int) := by omega
  cases hs : σ (m : Int) with
  | none =>
    rw [hs] at hck
    simp only [Option.isSome_none] at hck
    obtain ⟨⟨cur, hc1, hc2⟩, ⟨ck, hk1, hk2⟩, -, -⟩ := hST
    have HB : Hid (bind1 σ (m : Int) (x :: ka.flat) = some (upd σ (m : Int) (x :: ka.flat))) := hide (by unfold bind1; rw [hs])
    rw [HB.out]
    obtain ⟨ad1, c1, rfl⟩ := hT1.form
    obtain ⟨KL, hKL⟩ : ∃ KL, KL = ka.len := ⟨_, rfl⟩
    rw [← hKL] at HT1 ⊢
    clear hs hT1 hKL
    have HB2 : Hid (∀ o1 o2 : Obj, Below w.heap.size w ((w.alloc o1).alloc o2)) := hide (fun o1 o2 => ((Below.refl _ _).alloc (Nat.le_refl _) _).alloc (by simp) _)
    have zK : ∀ (i : Nat), w.frozen? ⟨K, i, none⟩ = false := fun i => unfrozen_of_blk hk1 i
    have zH : ∀ (i : Nat), w.frozen? ⟨H, i, none⟩ = false := fun i => unfrozen_of_blk hc1 i
    have hh : ∀ r, r < 3 → ∃ v, w.cell? ⟨H, m * 3 + r, none⟩ = some v := fun r hr => by
      rw [cell_of_blk hc1, Array.getElem?_eq_getElem (by omega)]; exact ⟨_, rfl⟩
    obtain ⟨v0, hv0⟩ := hh 0 (by omega)
    obtain ⟨v1, hv1⟩ := hh 1 (by omega)
    obtain ⟨v2, hv2⟩ := hh 2 (by omega)
    rw [Nat.add_zero] at hv0
    have n1 : ¬ w.heap.size = K := by omega
    have n2' : ¬ w.heap.size + 1 = K := by omega
    have n3 : ¬ w.heap.size = H := by omega
    have n4 : ¬ w.heap.size + 1 = H := by omega
    have n5 : ¬ K = H := fun e => hHK e.symm
    have n6 : ¬ H = K := hHK
    clear hh hc1 hk1
    go_enter Try.func79, Try.ntmps79
    go_wp2_with fail
    go_ret
    have hS4 := HST.out.put hHK hm x ka (.slice ad1 KL c1) hx hl1 HT1.out
    have hO4 : Ot H K w ((((w.setCell ⟨K, m, none⟩ (.bool true)).setCell ⟨H, m * 3, none⟩ (.int .i64 x.k)).setCell ⟨H, m * 3 + 1, none⟩ (.int .i64 x.n)).setCell ⟨H, m * 3 + 2, none⟩ (.slice ad1 KL c1)) := ((((Ot.refl H K w).setK _ _).setH _ _).setH _ _).setH _ _
    refine ⟨rfl, hO4.trans (Ot.ofBelow (((Below.refl _ _).alloc (Nat.le_refl _) _).alloc (by simp) _)), fun σ' h => ?_⟩
    simp only [Option.some.injEq] at h
    subst h
    exact hS4.below (((Below.refl _ _).alloc (Nat.le_refl _) _).alloc (by simp) _)
  | some v =>
    rw [hs] at hck
    simp only [Option.isSome_some] at hck
    obtain ⟨z, kz, sz, rfl, hzok, hzl, p0, p1, p2, hTz⟩ := hST.2.2.2 m hm v hs
    have HB : Hid (bind1 σ (m : Int) (x :: ka.flat) = if sameC (z :: kz.flat) (x :: ka.flat) = true then some σ else none) := hide (by unfold bind1; rw [hs])
    have HE : Hid ((bind1 σ (m : Int) (x :: ka.flat)).isSome = sameC (z :: kz.flat) (x :: ka.flat)) := hide (by rw [HB.out]; cases sameC (z :: kz.flat) (x :: ka.flat) <;> rfl)
    have HEx : Hid (∀ σ', bind1 σ (m : Int) (x :: ka.flat) = some σ' → σ' = σ) := hide (fun σ' h => by
      rw [HB.out] at h
      split at h
      · exact (Option.some.inj h).symm
      · cases h)
    rw [HE.out]
    have HC := hide (fun (w' : World) (hw' : Below w.heap.size w w') => l5Same_any kz z x ka sz s1 _ _ w' hzok hx hzl hl1 (hTz.below hw') (hT1.below hw'))
    obtain ⟨ad1, c1, rfl⟩ := hT1.form
    obtain ⟨zad, zc, rfl⟩ := hTz.form
    obtain ⟨KL, hKL⟩ : ∃ KL, KL = ka.len := ⟨_, rfl⟩
    obtain ⟨ZL, hZL⟩ : ∃ ZL, ZL = kz.len := ⟨_, rfl⟩
    obtain ⟨S1, hS1⟩ : ∃ S1, S1 = sameC (z :: kz.flat) (x :: ka.flat) := ⟨_, rfl⟩
    rw [← hKL] at HC ⊢
    rw [← hZL] at HC p2
    rw [← hS1] at HC ⊢
    have hfl : (F.cons z kz F.nil).ok := hzok
    clear hs hT1 hKL hZL hS1 HB HE hTz hx hfl
    go_enter Try.func79, Try.ntmps79
    go_wp2_with fail
    obtain ⟨w0, hw0⟩ : ∃ w0, w0 = (w.alloc (.cells #[.int .i64 x.k, .int .i64 x.n, .slice ad1 KL c1] 64)).alloc (.cells #[.int .i64 1, .int .i64 (m : Int), .slice ad2 n2 c2] 64) := ⟨_, rfl⟩
    have hB0 : Below w.heap.size w w0 := by rw [hw0]; exact ((Below.refl _ _).alloc (Nat.le_refl _) _).alloc (by simp) _
    have hb1 : w0.heap[w.heap.size]? = some (.cells #[.int .i64 x.k, .int .i64 x.n, .slice ad1 KL c1] 64) := by rw [hw0, heap_alloc_old _ _ (by simp)]; exact heap_alloc_new _ _
    have hb2 : w0.heap[w.heap.size + 1]? = some (.cells #[.int .i64 1, .int .i64 (m : Int), .slice ad2 n2 c2] 64) := by rw [hw0]; have := heap_alloc_new (w.alloc (.cells #[.int .i64 x.k, .int .i64 x.n, .slice ad1 KL c1] 64)) (.cells #[.int .i64 1, .int .i64 (m : Int), .slice ad2 n2 c2] 64); simpa using this
    have hsz0 : w0.heap.size = w.heap.size + 1 + 1 := by rw [hw0]; simp
    rw [← hw0]
    have a0 : w0.cell? ⟨w.heap.size, 0, none⟩ = some (.int .i64 x.k) := (cell_of_blk hb1 0).trans rfl
    have a1 : w0.cell? ⟨w.heap.size, 1, none⟩ = some (.int .i64 x.n) := (cell_of_blk hb1 1).trans rfl
    have a2 : w0.cell? ⟨w.heap.size, 2, none⟩ = some (.slice ad1 KL c1) := (cell_of_blk hb1 2).trans rfl
    have a4 : w0.cell? ⟨w.heap.size + 1, 1, none⟩ = some (.int .i64 (m : Int)) := (cell_of_blk hb2 1).trans rfl
    have m0 := (hB0.cell (p := ⟨H, m * 3, none⟩) hHl).trans p0
    have m1 := (hB0.cell (p := ⟨H, m * 3 + 1, none⟩) hHl).trans p1
    have m2 := (hB0.cell (p := ⟨H, m * 3 + 2, none⟩) hHl).trans p2
    have HB0 : Hid (Below w.heap.size w w0.drew) := hide (belowDrew hB0)
    clear hw0 hb1 hb2 hB0 p0 p1 p2 hck
    go_region_held3 (fun w' => w'.cell? ⟨w.heap.size, 0, none⟩ = some (.int .i64 x.k) ∧ w'.cell? ⟨w.heap.size, 1, none⟩ = some (.int .i64 x.n) ∧ w'.cell? ⟨w.heap.size, 2, none⟩ = some (.slice ad1 KL c1) ∧ w'.cell? ⟨w.heap.size + 1, 1, none⟩ = some (.int .i64 (m : Int)) ∧ w'.cell? ⟨H, m * 3, none⟩ = some (.int .i64 z.k) ∧ w'.cell? ⟨H, m * 3 + 1, none⟩ = some (.int .i64 z.n) ∧ w'.cell? ⟨H, m * 3 + 2, none⟩ = some (.slice zad ZL zc)) (go_keep)
      (first
        | (go_at_call 100; (with_reducible refine Calls.mono (HC.out _ HB0.out) ?_); rintro e wa ⟨rfl, hba⟩; have HBa := hide hba; (have fa0 := (hba.cell (p := ⟨w.heap.size, 0, none⟩) (show w.heap.size < w0.heap.size by omega)).trans a0; have fa1 := (hba.cell (p := ⟨w.heap.size, 1, none⟩) (show w.heap.size < w0.heap.size by omega)).trans a1; have fa2 := (hba.cell (p := ⟨w.heap.size, 2, none⟩) (show w.heap.size < w0.heap.size by omega)).trans a2; have fa3 := (hba.cell (p := ⟨w.heap.size + 1, 1, none⟩) (show w.heap.size + 1 < w0.heap.size by omega)).trans a4; have fa4 := (hba.cell (p := ⟨H, m * 3, none⟩) (show H < w0.heap.size by omega)).trans m0; have fa5 := (hba.cell (p := ⟨H, m * 3 + 1, none⟩) (show H < w0.heap.size by omega)).trans m1; have fa6 := (hba.cell (p := ⟨H, m * 3 + 2, none⟩) (show H < w0.heap.size by omega)).trans m2); clear hba))
    all_goals
      have hB5 : Below w.heap.size w wa := HB0.out.trans (HBa.out.mono HB0.out.size)
      clear a0 a1 a2 a4 m0 m1 m2 HC
      go_wp2_with fail
      go_ret
      refine ⟨rfl, Ot.ofBelow hB5, fun σ' h => ?_⟩
      rw [HEx.out σ' h]
      exact HST.out.below hB5
end Go.Proofs.Ytjffignbiabmaab.Y

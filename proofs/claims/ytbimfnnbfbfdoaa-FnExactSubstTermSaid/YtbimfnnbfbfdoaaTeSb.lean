/-
  The specification's SubstTerm, where l3Subst's contract is given. Conditions: at most 1048576 cells.
-/
import Derived.Test.YtbimfnnbfbfdoaaTeSu
namespace Go.Proofs.Ytbimfnnbfbfdoaa.W
open Go.ChangeShapes Go.WideShapes Go.ChangeAt Go.RowKit
set_option linter.unusedVariables false

theorem l3Tree_form (ad : Option Addr) (c : Nat) (l : List Cc) (w : World) (hl : l.length ≤ 1048576) (h : CRow w ad l) :
    Calls Try.prog 36 #[.slice ad l.length c] w fun e w' => ∃ k n sad sn sc, e = .returned (.tuple #[.agg #[.int .i64 k, .int .i64 n, .slice sad sn sc], .bool (goodT l)]) ∧ Below w.heap.size w w' := by
  refine (l3Tree_any ad c l w hl h).mono ?_
  rintro e w' ⟨hb, ho⟩
  unfold goodT
  cases ht : treeT l with
  | none =>
    rw [ht] at ho
    obtain ⟨k, n, sad, sn, sc, rfl⟩ := ho
    exact ⟨k, n, sad, sn, sc, rfl, hb⟩
  | some a =>
    rw [ht] at ho
    obtain ⟨x, k, s, -, rfl, hK⟩ := ho
    obtain ⟨sad, sc, rfl⟩ := hK.form
    exact ⟨x.k, x.n, sad, _, sc, rfl, hb⟩

set_option maxRecDepth 20000 in
set_option maxHeartbeats 2000000 in
theorem specSubst_bad (ad sad : Option Addr) (c sc : Nat) (l ls : List Cc) (K : Int) (w : World) (hl : l.length ≤ 1048576) (h : CRow w ad l) (hls : ls.length ≤ 1048576) (hs : CRow w sad ls) (hb : goodT l = false ∨ goodT ls = false ∨ inB K 0 99 = false) :
    Calls Try.prog 9 #[.slice ad l.length c, .int .i64 K, .slice sad ls.length sc] w fun e w' => RS w none e w' := by
  have HRS := hide hs
  have HC := hide (l3Tree_form ad c l w hl h)
  have HCS := hide (fun (w' : World) (hb : Below w.heap.size w w') => l3Tree_form sad sc ls w' hls (HRS.out.below hb))
  have Hf := hide (l1In_any K 0 99)
  obtain ⟨b1, hb1⟩ : ∃ b1, b1 = goodT l := ⟨_, rfl⟩
  obtain ⟨b2, hb2⟩ : ∃ b2, b2 = goodT ls := ⟨_, rfl⟩
  obtain ⟨b3, hb3⟩ : ∃ b3, b3 = inB K 0 99 := ⟨_, rfl⟩
  rw [← hb1] at HC hb
  rw [← hb2] at HCS hb
  rw [← hb3] at Hf hb
  clear h hs hb1 hb2 hb3
  go_enter Try.func9, Try.ntmps9
  go_wp2_with fail
  refine Calls.mono HC.out ?_
  rintro e w1 ⟨xk, xn, pad, pn, pc, rfl, hB1⟩
  clear HC
  go_wp2_with fail
  refine Calls.mono (HCS.out _ (hB1.alloc hB1.size _)) ?_
  rintro e w2 ⟨yk, yn, qad, qn, qc, rfl, hb2⟩
  have hB2 : Below w.heap.size w w2 := (hB1.alloc hB1.size _).trans (hb2.mono (hB1.alloc hB1.size _).size)
  clear HCS hb2
  cases b1 with
  | false =>
    clear hb
    go_wp2_with fail
    exact bodyPost_ret (v := .tuple #[.slice none 0 0, .bool false]) (by simp [results, Try.results9, go_sem]) rfl ⟨_, rfl, World.ownsRow_nil _ _ _ _, hB2.alloc hB2.size _⟩
  | true =>
    cases b2 with
    | false =>
      clear hb
      go_wp2_with fail
      exact bodyPost_ret (v := .tuple #[.slice none 0 0, .bool false]) (by simp [results, Try.results9, go_sem]) rfl ⟨_, rfl, World.ownsRow_nil _ _ _ _, hB2.alloc hB2.size _⟩
    | true =>
      obtain rfl : b3 = false := by
        rcases hb with h | h | h
        · cases h
        · cases h
        · exact h
      clear hb
      go_wp2_with fail
      refine (Hf.out _).mono ?_
      rintro e w3 ⟨rfl, hw3⟩
      obtain rfl := hw3.symm
      go_wp2_with fail
      exact bodyPost_ret (v := .tuple #[.slice none 0 0, .bool false]) (by simp [results, Try.results9, go_sem]) rfl ⟨_, rfl, World.ownsRow_nil _ _ _ _, hB2.alloc hB2.size _⟩

theorem specSubst_any (HPG : ∀ k, L3PGoal k) (ad sad : Option Addr) (c sc : Nat) (l ls : List Cc) (K : Int) (w : World) (hl : l.length ≤ 1048576) (h : CRow w ad l) (hls : ls.length ≤ 1048576) (hs : CRow w sad ls) :
    Calls Try.prog 9 #[.slice ad l.length c, .int .i64 K, .slice sad ls.length sc] w fun e w' => RS w (sbR l K ls) e w' := by
  cases ht : treeT l with
  | none =>
    have hr : sbR l K ls = none := by unfold sbR; rw [ht]
    rw [hr]
    exact specSubst_bad ad sad c sc l ls K w hl h hls hs (.inl (by unfold goodT; rw [ht]; rfl))
  | some a =>
    obtain ⟨x, k, rfl⟩ := F.len_1 (treeT_flat ht).2.2.1
    cases hts : treeT ls with
    | none =>
      have hr : sbR l K ls = none := by unfold sbR; rw [ht, hts]
      rw [hr]
      exact specSubst_bad ad sad c sc l ls K w hl h hls hs (.inr (.inl (by unfold goodT; rw [hts]; rfl)))
    | some b =>
      obtain ⟨sx, sk, rfl⟩ := F.len_1 (treeT_flat hts).2.2.1
      cases hk : inB K 0 99 with
      | false =>
        have hr : sbR l K ls = none := by unfold sbR; rw [ht, hts]; simp only; rw [hk]; simp
        rw [hr]
        exact specSubst_bad ad sad c sc l ls K w hl h hls hs (.inr (.inr hk))
      | true =>
        have h5 : 0 ≤ K ∧ K ≤ 99 := by simpa [inB] using hk
        obtain ⟨Kn, rfl⟩ := Int.eq_ofNat_of_zero_le h5.1
        exact specSubst_good HPG ad sad c sc l ls Kn x sx k sk w hl h hls hs ht hts (by omega)
end Go.Proofs.Ytbimfnnbfbfdoaa.W

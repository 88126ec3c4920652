/-
  The specification's DevelopTerm. Conditions: at most 1048576 cells.
-/
import Derived.Test.YtbimfnnbfbfdoabTeDs
import Derived.Test.YtbimfnnbfbfdoabTeDp
import Derived.Test.YtbimfnnbfbfdoabTeT
namespace Go.Proofs.Ytbimfnnbfbfdoab.W
open Go.ChangeShapes Go.WideShapes Go.ChangeAt Go.RowKit
set_option linter.unusedVariables false

set_option maxRecDepth 20000 in
set_option maxHeartbeats 4000000 in
theorem specDevelop_any (ad : Option Addr) (c : Nat) (l : List Cc) (w : World) (hl : l.length ≤ 1048576) (h : CRow w ad l) :
    Calls Try.prog 10 #[.slice ad l.length c] w fun e w' => RS w (dvR l) e w' := by
  have HC := hide (l3Tree_any ad c l w hl h)
  cases ht : treeT l with
  | none =>
    have hr : dvR l = none := by unfold dvR; rw [ht]
    rw [hr]
    rw [ht] at HC
    clear h ht hr
    go_enter Try.func10, Try.ntmps10
    go_wp2_with fail
    refine Calls.mono HC.out ?_
    rintro e w1 ⟨hb1, k, n, sad, sn, sc, rfl⟩
    clear HC
    go_wp2_with fail
    exact bodyPost_ret (v := .tuple #[.slice none 0 0, .bool false]) (by simp [results, Try.results10, go_sem]) rfl ⟨_, rfl, World.ownsRow_nil _ _ _ _, hb1.alloc hb1.size _⟩
  | some t =>
    obtain ⟨x, k, rfl⟩ := F.len_1 (treeT_flat ht).2.2.1
    have hr : dvR l = (dv x k).map (fun p => p.1 :: p.2.flat) := by unfold dvR; rw [ht]
    rw [ht] at HC
    obtain ⟨e1, ho, -, e4, -⟩ := treeT_flat ht
    obtain ⟨g1, l1, o1, -⟩ := ho
    have hok : okT x k := ⟨g1, l1, o1⟩
    have hk6 : k.flat.length + 1 ≤ 600 := by rw [e1] at e4; simpa [F.flat] using e4
    rw [hr]
    have HP6 := hide (fun p hv => dv_600 hok hk6 (p := p) hv)
    have HDv := hide (fun (s : Value) (P : Nat → Prop) (w' : World) (hT : KidT w' P k s) => l4Develop_any k x s P w' hok hk6 hT)
    obtain ⟨D, hD⟩ : ∃ D, D = dv x k := ⟨_, rfl⟩
    rw [← hD] at HDv HP6 ⊢
    clear ht hr h e1 e4 g1 l1 o1 hok hD
    go_enter Try.func10, Try.ntmps10
    go_wp2_with fail
    refine Calls.mono HC.out ?_
    rintro e w1 ⟨hb1, x', k', s, hxe, rfl, hT⟩
    simp only [F.cons.injEq, and_true] at hxe
    obtain ⟨rfl, rfl⟩ := hxe
    obtain ⟨sad, sc, rfl⟩ := hT.form
    have HS1 := hide (fun o : Obj => HDv.out _ _ (w1.alloc o) (hT.below ((Below.refl _ _).alloc (Nat.le_refl _) o)))
    obtain ⟨KN, hKN⟩ : ∃ KN, KN = k.len := ⟨_, rfl⟩
    rw [← hKN] at HS1 ⊢
    clear HC hT hKN HDv
    go_wp2_with fail
    refine Calls.mono (HS1.out _) ?_
    rintro e w2 ⟨hto, hb2⟩
    have hB2 : Below w.heap.size w w2 := (hb1.alloc hb1.size _).trans (hb2.mono (by have := hb1.size; simp; omega))
    clear HS1 hb2
    cases D with
    | none =>
      obtain rfl : e = .returned (.tuple #[.agg #[.int .i64 0, .int .i64 0, .slice none 0 0], .bool false]) := hto
      go_wp2_with fail
      exact bodyPost_ret (v := .tuple #[.slice none 0 0, .bool false]) (by simp [results, Try.results10, go_sem]) rfl ⟨_, rfl, World.ownsRow_nil _ _ _ _, hB2.alloc hB2.size _⟩
    | some p =>
      obtain ⟨s2, rfl, hK2⟩ : ∃ s', e = .returned (.tuple #[.agg #[.int .i64 p.1.k, .int .i64 p.1.n, s'], .bool true]) ∧ KidT w2 _ p.2 s' := hto
      have hp6 := HP6.out p rfl
      obtain ⟨pad, pc, hpf⟩ := hK2.form
      subst hpf
      have HTe := hide (fun o : Obj => l3Tell_any p.1 p.2 (.slice pad p.2.len pc) _ (w2.alloc o) (by omega) (hK2.below ((Below.refl _ _).alloc (Nat.le_refl _) o)))
      obtain ⟨PN, hPN⟩ : ∃ PN, PN = p.2.len := ⟨_, rfl⟩
      rw [← hPN] at HTe ⊢
      clear hK2 hPN HP6
      go_wp2_with fail
      refine Calls.mono (HTe.out _) ?_
      rintro e w3 ⟨s3, rfl, ho3, hb3⟩
      have hB3 : Below w.heap.size w w3 := (hB2.alloc hB2.size _).trans (hb3.mono (by have := hB2.size; simp; omega))
      have HO3 := hide (iOwn_lower ho3 (show w.heap.size ≤ _ by have := hB2.size; simp; omega))
      obtain ⟨fa, fc, rfl⟩ := iOwn_form ho3
      obtain ⟨GN, hGN⟩ : ∃ GN, GN = (gd (p.1 :: p.2.flat)).length := ⟨_, rfl⟩
      rw [← hGN] at HO3 ⊢
      have HGN := hide hGN
      obtain ⟨GB, hGB⟩ : ∃ GB, GB = goodT (p.1 :: p.2.flat) := ⟨_, rfl⟩
      rw [← hGB]
      have HGB := hide hGB
      clear ho3 hb3 hGN hGB HTe
      go_wp2_with fail
      refine bodyPost_ret (v := .tuple #[.slice fa GN fc, .bool GB]) (by simp [results, Try.results10, go_sem]) rfl ⟨.slice fa GN fc, by rw [HGB.out]; rfl, ?_, hB3⟩
      show w3.ownsRow _ _ 2 _ (gd (p.1 :: p.2.flat)).length (cv (gd (p.1 :: p.2.flat)))
      rw [← HGN.out]
      exact HO3.out
end Go.Proofs.Ytbimfnnbfbfdoab.W

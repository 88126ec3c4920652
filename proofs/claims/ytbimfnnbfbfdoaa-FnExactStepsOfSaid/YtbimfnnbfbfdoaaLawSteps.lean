/-
  Proved: whatever the row of cells, the memory and the schedule, the law FnExactStepsOf returns true, and the row reads afterwards as it read before: StepsOf of the program tells what the specification's tells, in memory of its own. No conditions.
-/
import Derived.Test.YtbimfnnbfbfdoaaTeSr
import Derived.Test.YtbimfnnbfbfdoaaCeK
import Derived.Test.YtbimfnnbfbfdoaaCeO
import Derived.Lib.SmallJoins
import Derived.ChangeOld
import Derived.Below
namespace Go.Proofs.Ytbimfnnbfbfdoaa.fnExactStepsOf
open Go.ChangeShapes Go.WideShapes Go.ChangeAt Go.RowKit
open Go.Proofs.Ytbimfnnbfbfdoaa.W Go.Joins
set_option linter.unusedVariables false

theorem own : ownKnob Try.prog.godebug = none := by kernel_rfl
theorem laidOut : laidOutB Try.prog = true := by kernel_rfl

theorem stR_len (l : List Cc) : ((stR l).getD []).length ≤ 600 ∧ ∀ m ∈ (stR l).getD [], m.length ≤ 600 := by
  unfold stR
  cases ht : treeT l with
  | none => simp
  | some t =>
    obtain ⟨x, k, rfl⟩ := F.len_1 (treeT_flat ht).2.2.1
    obtain ⟨e1, ho, -, e4, -⟩ := treeT_flat ht
    simp only
    cases hc : coll ((sh x k).map fun q => tgd q.2) with
    | none => simp
    | some L =>
      have h1 := coll_len hc
      have h2 := sh_len (x := x) (k := k) ⟨ho.1, ho.2.1, ho.2.2.1⟩
      have h3 : k.flat.length + 1 ≤ 600 := by rw [e1] at e4; simpa [F.flat] using e4
      unfold shv at h2
      simp only [List.length_map] at h1 h2
      refine ⟨by simp; omega, fun m hm => ?_⟩
      simp only [Option.getD_some] at hm
      obtain ⟨q, -, hq⟩ := List.mem_map.1 (coll_mem hc m hm)
      unfold tgd at hq
      split at hq
      · cases hq
      · split at hq
        · rename_i hg
          simp only [Option.some.injEq] at hq
          subst hq
          unfold goodT treeT at hg
          split at hg
          · omega
          · simp at hg
        · cases hq

set_option maxHeartbeats 2000000 in
theorem walk (ad : Option Addr) (c : Nat) (l : List Cc) (w : World) (hl : l.length ≤ maxLen) (h : CRow w ad l) :
    Calls Try.prog 6 #[.slice ad l.length c] w fun e w' => e = .returned (.bool true) ∧ Below w.heap.size w w' := by
  have HR := hide h
  clear h
  go_enter Try.func6, Try.ntmps6
  go_wp2_with fail
  refine (szCellS_any _ _ _ _ hl).mono ?_
  rintro e w1 ⟨r, rfl, hr, hw⟩
  obtain rfl := hw.symm
  clear hl
  by_cases hneg : r < 0
  · clear hr
    go_wp2_with fail
    go_ret
    exact ⟨rfl, Below.refl _ _⟩
  · have hl : l.length ≤ 1048576 := by
      rcases hr with h | h
      · exact absurd h hneg
      · exact h.2.2
    clear hr
    go_wp2_with fail
    refine (toCellS_any _ _ _ _ hl HR.out).mono ?_
    rintro e w2 ⟨rfl, hr2, hB2⟩
    obtain ⟨hfl, hf6⟩ := stR_len l
    have HS := hide (fun (ad : Option Addr) (c : Nat) (w : World) (h : CRow w ad l) => specSteps_any ad c l w hl h)
    have HP := hide (fun (ad : Option Addr) (c : Nat) (w : World) (hc : l.length ≤ c) (h : CRow w ad l) => implSteps_any ad c l w hl hc h)
    obtain ⟨FL, hFL⟩ : ∃ FL, FL = (stR l).getD [] := ⟨_, rfl⟩
    obtain ⟨OK, hOK⟩ : ∃ OK, OK = (stR l).isSome := ⟨_, rfl⟩
    unfold RT at HS HP
    rw [← hFL, ← hOK] at HS HP
    rw [← hFL] at hfl hf6
    have HF6 := hide hf6
    clear hFL hOK hf6
    go_wp2_with fail
    refine (HS.out _ _ _ hr2.row).mono ?_
    rintro e w3 ⟨s1, rfl, hs1, hb3⟩
    have hB3 : Below w.heap.size w w3 := hB2.trans (hb3.mono hB2.size)
    have HS1 := hide hs1
    obtain ⟨sa, sc, rfl⟩ := hs1.form
    obtain ⟨FN, hFN⟩ : ∃ FN, FN = FL.length := ⟨_, rfl⟩
    rw [← hFN] at HS1 ⊢
    have HFN := hide hFN
    clear hb3 hr2 hB2 hs1 hFN
    go_wp2_with fail
    refine (toCellS_any _ _ _ _ hl (HR.out.below hB3)).mono ?_
    rintro e w4 ⟨rfl, hr4, hb4⟩
    have hsz4 : w3.heap.size < w4.heap.size := by obtain ⟨cur, hh, -⟩ := hr4; exact (Array.getElem?_eq_some_iff.1 hh).1
    have HX4 := hide hr4
    have h34 : Below w3.heap.size w3 w4 := hb4
    have hwx := hB3.size
    clear hb4 hr4
    go_wp2_with fail
    refine (HP.out _ _ _ (Nat.le_refl _) HX4.out.row).mono ?_
    rintro e w5 ⟨g0, rfl, ho5, hb5⟩
    have HO5 := hide ho5
    have HX5 := hide (HX4.out.below hb5)
    have h35 : Below w3.heap.size w3 w5 := h34.trans (hb5.mono (by omega))
    have h45 := hb5.size
    obtain ⟨ga, gc, rfl⟩ := ho5.form
    have hFN2 := HFN.out
    rw [← hFN2] at HO5 ⊢
    clear ho5 hb5 HX4 h34 hFN2
    have hfl' : FL.length ≤ 600 := hfl
    go_wp2_with fail
    refine (eqCellSS_same _ _ _ _ FL _ hfl HF6.out HO5.out (HS1.out.keep (fun k _ hk => h35.block k hk))).mono ?_
    rintro e w6 ⟨rfl, hb6⟩
    have HO6 := hide (HO5.out.keep (fun k _ hk => hb6.block k hk))
    have HX6 := hide (HX5.out.below hb6)
    have h36 : Below w3.heap.size w3 w6 := h35.trans (hb6.mono (by omega))
    have h46 := Nat.le_trans h45 hb6.size
    clear hb6 HO5 HX5 h35 h45
    go_wp2_with fail
    refine (toCellS_any _ _ _ _ hl (HR.out.below (hB3.trans (h36.mono hwx)))).mono ?_
    rintro e w7 ⟨rfl, hr7, hb7⟩
    have HO7 := hide (HO6.out.keep (fun k _ hk => hb7.block k hk))
    have HX7 := hide (HX6.out.below hb7)
    have h37 : Below w3.heap.size w3 w7 := h36.trans (hb7.mono (by omega))
    have h47 := Nat.le_trans h46 hb7.size
    clear hb7 HO6 HX6 h36 h46
    go_wp2_with fail
    refine (eqCellS_row _ _ _ _ _ _ hl HX7.out.row hr7.row).mono ?_
    rintro e w8 ⟨rfl, hb8⟩
    have HO8 := hide (HO7.out.keep (fun k _ hk => hb8.block k hk))
    obtain ⟨xs, hx8⟩ := (HX7.out.below hb8).own (base := w3.heap.size) (Nat.le_refl _) hl
    have HX8 := hide hx8
    have h38 : Below w3.heap.size w3 w8 := h37.trans (hb8.mono (by omega))
    have h48 := Nat.le_trans h47 hb8.size
    clear hb8 HO7 HX7 hr7 hx8 h37 h47
    go_wp2_with fail
    refine (markCellS_any _ _ _ _ _ hl HX8.out).mono ?_
    rintro e w9 ⟨rfl, -, hg9⟩
    have HO9 := hide (HO8.out.keep (fun k hk1 hk2 => hg9.block k hk2 (fun e => by simp only [Value.ownBlock, Option.some.injEq] at e; omega)))
    have h39 : Below w3.heap.size w3 w9 := h38.grown hg9 (by omega) (fun k hk => by simp only [Value.ownBlock, Option.some.injEq] at hk; omega)
    have h49 := Nat.le_trans h48 hg9.size
    clear hg9 HO8 HX8 h38 h48
    have hk9 : ¬ ((1 + l.length * 2 : Nat) : Int) < 0 := by omega
    obtain ⟨K9, hK9⟩ : ∃ K9, K9 = 1 + l.length * 2 := ⟨_, rfl⟩
    rw [← hK9] at hk9 ⊢
    clear hK9
    go_wp2_with fail
    refine (eqCellSS_same _ _ _ _ FL _ hfl HF6.out HO9.out (HS1.out.keep (fun k _ hk => h39.block k hk))).mono ?_
    rintro e w10 ⟨rfl, hb10⟩
    have HO10 := hide (HO9.out.keep (fun k _ hk => hb10.block k hk))
    have h310 : Below w3.heap.size w3 w10 := h39.trans (hb10.mono (by omega))
    have h410 := Nat.le_trans h49 hb10.size
    clear hb10 HO9 h39 h49
    go_wp2_with fail
    refine (markCellSS_any _ _ FL _ h410 hfl HF6.out HO10.out).mono ?_
    rintro e w11 ⟨rfl, hm11, hb11⟩
    have h311 : Below w3.heap.size w3 w11 := h310.trans (hb11.mono (by omega))
    have HM11 := hide hm11
    have hpf := pf_le HF6.out FL.length (Nat.le_refl _)
    clear hm11 hb11 HO10 h310
    obtain ⟨M, hM⟩ : ∃ M, M = 1 + pf FL FL.length * 2 := ⟨_, rfl⟩
    have hM0 : ¬ ((M : Nat) : Int) < 0 := by omega
    have HH := hide (fun (w : World) (h : MM w (.slice ga FN gc) FL) => heldCellSS_any _ FL w hfl HF6.out h)
    rw [← hM] at HH ⊢
    clear hM hpf
    go_wp2_with fail
    refine (HH.out _ HM11.out).mono ?_
    rintro e w12 ⟨rfl, hb12⟩
    have HM12 := hide (HM11.out.below hb12)
    have hsz := h311.size
    have h312 : Below w3.heap.size w3 w12 := h311.trans (hb12.mono (by omega))
    clear hb12 HM11 h311 hsz
    go_wp2_with fail
    refine (toCellS_any _ _ _ _ hl (HR.out.below (hB3.trans (h312.mono hwx)))).mono ?_
    rintro e w13 ⟨rfl, hr13, hb13⟩
    have HM13 := hide (HM12.out.below hb13)
    have hsz := h312.size
    have h313 : Below w3.heap.size w3 w13 := h312.trans (hb13.mono (by omega))
    clear hb13 HM12 h312 hsz
    go_wp2_with fail
    refine (HP.out _ _ _ (Nat.le_refl _) hr13.row).mono ?_
    rintro e w14 ⟨h0, rfl, ho14, hb14⟩
    have HO14 := hide ho14
    have HM14 := hide (HM13.out.below hb14)
    have hsz := h313.size
    have h314 : Below w3.heap.size w3 w14 := h313.trans (hb14.mono (by omega))
    obtain ⟨ha, hc', rfl⟩ := ho14.form
    have hFN2 := HFN.out
    rw [← hFN2] at HO14 ⊢
    clear hb14 HM13 ho14 hr13 h313 hsz hFN2
    go_wp2_with fail
    refine (eqCellSS_same _ _ _ _ FL _ hfl HF6.out HO14.out (HS1.out.keep (fun k _ hk => h314.block k hk))).mono ?_
    rintro e w15 ⟨rfl, hb15⟩
    have HM15 := hide (HM14.out.below hb15)
    have hsz := h314.size
    have h315 : Below w3.heap.size w3 w15 := h314.trans (hb15.mono (by omega))
    clear hb15 HM14 HO14 h314 hsz
    go_wp2_with fail
    refine (HH.out _ HM15.out).mono ?_
    rintro e w16 ⟨rfl, hb16⟩
    have hsz := h315.size
    have h316 : Below w3.heap.size w3 w16 := h315.trans (hb16.mono (by omega))
    clear hb16
    go_wp2_with fail
    go_ret
    exact ⟨rfl, hB3.trans (h316.mono hwx)⟩

set_option maxRecDepth 100000 in
theorem lifted (os : Os) (started : os.Started) (H : Type) (enc : TypeId × Value → H) :
    ReturnsInHanded {} Try.checked os 6 .any (Rows.fnExactStepsOfSpec.pre6 enc Try.prog Try.f6 Rows.fnExactStepsOfRow.domain false) (Rows.fnExactStepsOfSpec.post enc Try.prog Try.f6 false true false false) := by
  refine returnsInHanded_of_change (C := Try.checked) own started (by kernel_rfl) Try.func6
    (ChangeSpec.witness6 (enc := enc) (C := Try.checked) false ⟨#[], #[.slice none 0 0], []⟩ 8 (by kernel_rfl) (by kernel_rfl) (by kernel_rfl) (by kernel_rfl)) ?_
  intro W base args ds gs before hval0 hW hcnd _
  have hval : ∀ (j : Nat) t v, Try.f6.params[j]? = some t → args[j]? = some v → Value.okWide Try.prog W .any base t v := hval0
  have hW' := hW
  obtain ⟨p, q, hA0, hV, rfl, hfz, hnd⟩ := hW
  have hA : DataW.TrodAll enc Try.prog W 0 (fun _ => true) true Try.f6.params.toList args.toList ds p := hA0
  rw [Try.params6] at hA hval
  obtain ⟨v0, d0, hargs, rfl, h0⟩ := trodAll_one hA
  obtain rfl : args = #[v0] := by cases args; simp_all
  obtain ⟨rfl, rfl⟩ := trodVars_none hV
  have k0 := h0
  have lt0 : ∀ x ∈ p, x.block < W.heap.size := by obtain ⟨m, hm⟩ := k0; exact DataW.trod_lt m _ _ _ hm
  obtain ⟨ad, len, cap, rfl⟩ := okWide_slice Try.underlying45 (hval 0 45 v0 rfl rfl)
  obtain ⟨fuel, hf⟩ := h0
  obtain ⟨l, rfl, hl, hR⟩ := open_cells hf
  clear hA0 hval0
  refine (walk ad cap l W hl hR).mono fun e W' ⟨he, bel⟩ => ?_
  subst he
  exact ⟨_, rfl, _, _, _, [], p, [], hW', trodAll_mk1 (shut_bool Try.underlying4 _), trodAll_mk1 (Below.trod laidOut (by kernel_rfl) (of_decide_eq_true (by kernel_rfl)) k0 bel lt0), rfl, bel.frame _, fun h => by cases h⟩

theorem over : Rows.fnExactStepsOfRow.holds Try.pinned (OpenSpec.ofChange Rows.fnExactStepsOfSpec) :=
  OpenClaim.holds_of_wide 6 Try.f6 rfl rfl rfl rfl rfl rfl rfl ⟨rfl, rfl, rfl, rfl, rfl⟩ rfl rfl rfl rfl rfl (by kernel_rfl) Try.func6 (by kernel_rfl)
    (of_decide_eq_true (by kernel_rfl)) (by unfold Func.isWrapper; first | (rw [if_pos (by decide +kernel)]; kernel_rfl) | (rw [if_neg (by decide +kernel)]; exact ⟨rfl, rfl⟩))
    (fun os started H enc _ => lifted os started H enc)
end Go.Proofs.Ytbimfnnbfbfdoaa.fnExactStepsOf

namespace Go.Proofs.Ytbimfnnbfbfdoaa
theorem fnExactStepsOf_holds : Rows.FnExactStepsOfSaid := fnExactStepsOf.over
#print axioms fnExactStepsOf_holds
end Go.Proofs.Ytbimfnnbfbfdoaa

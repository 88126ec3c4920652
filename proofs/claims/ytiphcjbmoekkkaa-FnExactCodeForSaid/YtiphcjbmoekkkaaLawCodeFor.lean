/-
  Proved: whatever the row of cells, the memory and the schedule, the law FnExactCodeFor returns true, and the row reads afterwards as it read before: CodeFor of the program tells what the specification's tells, in memory of its own. No conditions.
-/
import Derived.Test.YtiphcjbmoekkkaaPlY
import Derived.Test.YtiphcjbmoekkkaaPlK
import Derived.Test.YtiphcjbmoekkkaaPlO
import Derived.Lib.SmallJoins
import Derived.ChangeOld
import Derived.Below
namespace Go.Proofs.Ytiphcjbmoekkkaa.fnExactCodeFor
open Go.ChangeShapes Go.WideShapes Go.ChangeAt Go.RowKit
open Go.Proofs.Ytiphcjbmoekkkaa.W Go.Proofs.Ytiphcjbmoekkkaa.L Go.Joins
set_option linter.unusedVariables false

theorem own : ownKnob Try.prog.godebug = none := by kernel_rfl
theorem laidOut : laidOutB Try.prog = true := by kernel_rfl

set_option maxRecDepth 20000 in
set_option maxHeartbeats 4000000 in
theorem walk (ad : Option Addr) (c : Nat) (l : List Cc) (w : World) (hl : l.length ≤ maxLen) (h : CRow w ad l) :
    Calls Try.prog 5 #[.slice ad l.length c] w fun e w' => e = .returned (.bool true) ∧ Below w.heap.size w w' := by
  have HR := hide h
  clear h
  go_enter Try.func5, Try.ntmps5
  go_wp2_with fail
  refine (szCellS_any _ _ _ _ hl).mono ?_
  rintro e w1 ⟨r, rfl, hr, hw⟩
  obtain rfl := hw.symm
  clear hl
  by_cases hneg : r < 0
  · clear hr
    go_wp2_with fail
    go_ret
    exact ⟨rfl, Below.refl _ _⟩
  · obtain ⟨-, -, hl⟩ := hr.resolve_left hneg
    clear hr
    have hB : Below w.heap.size w w := Below.refl _ _
    have HT0 := hide (fun (w' : World) (hb : Below w.heap.size w w') => toCellS_any ad c l w' hl (HR.out.below hb))
    have HS := hide (fun (a : Option Addr) (k : Nat) (w' : World) (h0 : CRow w' a l) => specCodeFor_any a k l w' hl h0)
    have HI := hide (fun (b k : Nat) (w' : World) (hk : l.length ≤ k) (h0 : CRow w' (some ⟨b, 0, none⟩) l) => implCodeFor_any b 0 k l w' hl hk h0)
    have hfl : (cfL l).length ≤ 1048576 := cfL_len l
    obtain ⟨FL, hFL⟩ : ∃ FL, FL = cfL l := ⟨_, rfl⟩
    obtain ⟨FN, hFN⟩ : ∃ FN, FN = cfN l := ⟨_, rfl⟩
    obtain ⟨OK, hOK⟩ : ∃ OK, OK = goodT l := ⟨_, rfl⟩
    rw [← hFL, ← hFN, ← hOK] at HS HI
    rw [← hFL] at hfl
    clear hFL hFN hOK HR
    go_wp2_with fail
    refine Calls.mono (HT0.out _ hB) ?_
    rintro e w2 ⟨rfl, hx, hbc⟩
    have HX := hide hx
    clear hx
    replace hB := hB.trans (hbc.mono hB.size)
    clear hbc
    go_wp2_with fail
    refine Calls.mono (HS.out _ _ _ HX.out.row) ?_
    rintro e w3 ⟨vs, rfl, hos, hbc⟩
    have HSr := hide hos
    have HSx := hide (fun k hk => (hos.lt k hk).2)
    obtain ⟨sa, sc, rfl⟩ := own_form hos
    clear hos HX HS
    replace hB := hB.trans (hbc.mono hB.size)
    clear hbc
    have hWs := hB.size
    go_wp2_with fail
    refine Calls.mono (HT0.out _ hB) ?_
    rintro e w4 ⟨rfl, hx, hbc⟩
    have HX := hide hx
    have hXl : w3.heap.size < w4.heap.size := by obtain ⟨cur, hh, -⟩ := hx; exact (Array.getElem?_eq_some_iff.1 hh).1
    clear hx
    replace HSr := hide (tOwn_keep HSr.out (fun k _ hk => hbc.block k hk))
    replace hB := hB.trans (hbc.mono hB.size)
    clear hbc
    obtain ⟨XB, hXB⟩ : ∃ XB, XB = w3.heap.size := ⟨_, rfl⟩
    rw [← hXB] at HX HSx hXl hWs ⊢
    have hXw : w.heap.size ≤ XB := hWs
    clear hXB hWs
    obtain ⟨QH, hQH⟩ : ∃ QH, QH = w4.heap.size := ⟨_, rfl⟩
    rw [← hQH] at hXl
    have HQH := hide hQH
    clear hQH
    go_wp2_with fail
    refine Calls.mono (HI.out _ _ _ (Nat.le_refl _) HX.out.row) ?_
    rintro e w5 ⟨vg, rfl, hog, hbc⟩
    rw [← HQH.out] at hog
    have HGr := hide hog
    have HGx := hide (fun k hk => (hog.lt k hk).1)
    obtain ⟨ga, gc, rfl⟩ := own_form hog
    clear hog HQH
    replace HSr := hide (tOwn_keep HSr.out (fun k _ hk => hbc.block k hk))
    replace HX := hide (HX.out.below hbc)
    replace hB := hB.trans (hbc.mono hB.size)
    clear hbc
    go_wp2_with fail
    refine Calls.mono (eqOwnD _ _ _ _ FL _ hfl HGr.out HSr.out) ?_
    rintro e w6 ⟨rfl, hbc⟩
    replace HSr := hide (tOwn_keep HSr.out (fun k _ hk => hbc.block k hk))
    replace HGr := hide (tOwn_keep HGr.out (fun k _ hk => hbc.block k hk))
    replace HX := hide (HX.out.below hbc)
    replace hB := hB.trans (hbc.mono hB.size)
    clear hbc
    go_wp2_with fail
    refine Calls.mono (HT0.out _ hB) ?_
    rintro e w7 ⟨rfl, hx2, hbc⟩
    have HX2 := hide hx2
    clear hx2
    replace HSr := hide (tOwn_keep HSr.out (fun k _ hk => hbc.block k hk))
    replace HGr := hide (tOwn_keep HGr.out (fun k _ hk => hbc.block k hk))
    replace HX := hide (HX.out.below hbc)
    replace hB := hB.trans (hbc.mono hB.size)
    clear hbc
    go_wp2_with fail
    refine Calls.mono (eqCellS_row _ _ _ _ l _ hl HX.out.row HX2.out.row) ?_
    rintro e w8 ⟨rfl, hbc⟩
    clear HX2
    replace HSr := hide (tOwn_keep HSr.out (fun k _ hk => hbc.block k hk))
    replace HGr := hide (tOwn_keep HGr.out (fun k _ hk => hbc.block k hk))
    replace HX := hide (HX.out.below hbc)
    replace hB := hB.trans (hbc.mono hB.size)
    clear hbc
    obtain ⟨xs, hx8⟩ := HX.out.own (base := XB) (Nat.le_refl _) hl
    have HX8 := hide hx8
    clear hx8
    go_wp2_with fail
    refine Calls.mono (markCellS_any _ _ _ _ _ hl HX8.out) ?_
    rintro e w9 ⟨rfl, -, hgr⟩
    replace HSr := hide (own_grown HSr.out hgr (fun k hk e => by have h1 := HSx.out k hk; simp only [Value.ownBlock, Option.some.injEq] at e; omega))
    replace HGr := hide (own_grown HGr.out hgr (fun k hk e => by have h1 := HGx.out k hk; simp only [Value.ownBlock, Option.some.injEq] at e; omega))
    replace hB := hB.grown hgr hB.size (fun k hk => by simp only [Value.ownBlock, Option.some.injEq] at hk; omega)
    clear hgr HX HX8
    obtain ⟨K9, hK9⟩ : ∃ K9, K9 = 1 + l.length * 2 := ⟨_, rfl⟩
    rw [← hK9]
    have hk9 : K9 ≤ 100000000 := by omega
    have hk2 : ¬ ((K9 : Nat) : Int) < 0 := by omega
    clear hK9
    go_wp2_with fail
    refine Calls.mono (eqOwnD _ _ _ _ FL _ hfl HGr.out HSr.out) ?_
    rintro e w10 ⟨rfl, hbc⟩
    replace HSr := hide (tOwn_keep HSr.out (fun k _ hk => hbc.block k hk))
    replace HGr := hide (tOwn_keep HGr.out (fun k _ hk => hbc.block k hk))
    replace hB := hB.trans (hbc.mono hB.size)
    clear hbc
    have HH := hide (fun (w : World) (h : RMk Cd.mv w (.slice ga FL.length gc) 74 5 1 FL.length) => heldCodeS_any _ FL.length 1 w hfl (by omega) h)
    have HMk := hide (fun (w : World) (b : Nat) (xs : List Value) (h : w.ownsRow b 74 5 (.slice ga FL.length gc) FL.length xs) => markCodeS_any _ b FL.length 1 xs w hfl (by omega) h)
    obtain ⟨M, hM⟩ : ∃ M, M = 1 + FL.length * 5 := ⟨_, rfl⟩
    rw [← hM] at HH HMk
    have e1 : ((1 : Nat) : Int) = 1 := rfl
    simp only [e1] at HH HMk
    clear hM hk2 hk9 e1
    go_wp2_with fail
    refine Calls.mono (HMk.out _ _ _ HGr.out) ?_
    rintro e w11 ⟨rfl, hmk, hgr⟩
    have HK := hide hmk
    replace HSr := hide (own_grown HSr.out hgr (fun k hk e => by have h1 := HSx.out k hk; have h2 := HGx.out k e; omega))
    replace hB := hB.grown hgr hB.size (fun k hk => by have h2 := HGx.out k hk; omega)
    clear hmk hgr HGr HMk
    go_wp2_with fail
    refine Calls.mono (HH.out _ HK.out) ?_
    rintro e w12 ⟨rfl, hbc⟩
    replace HSr := hide (tOwn_keep HSr.out (fun k _ hk => hbc.block k hk))
    replace HK := hide (HK.out.below hbc)
    replace hB := hB.trans (hbc.mono hB.size)
    clear hbc
    go_wp2_with fail
    refine Calls.mono (HT0.out _ hB) ?_
    rintro e w13 ⟨rfl, hx, hbc⟩
    have HX := hide hx
    clear hx
    replace HSr := hide (tOwn_keep HSr.out (fun k _ hk => hbc.block k hk))
    replace HK := hide (HK.out.below hbc)
    replace hB := hB.trans (hbc.mono hB.size)
    clear hbc
    go_wp2_with fail
    refine Calls.mono (HI.out _ _ _ (Nat.le_refl _) HX.out.row) ?_
    rintro e w14 ⟨vh, rfl, hoh, hbc⟩
    have HGr := hide hoh
    obtain ⟨ha, hc, rfl⟩ := own_form hoh
    clear hoh HX
    replace HSr := hide (tOwn_keep HSr.out (fun k _ hk => hbc.block k hk))
    replace HK := hide (HK.out.below hbc)
    replace hB := hB.trans (hbc.mono hB.size)
    clear hbc
    go_wp2_with fail
    refine Calls.mono (eqOwnD _ _ _ _ FL _ hfl HGr.out HSr.out) ?_
    rintro e w15 ⟨rfl, hbc⟩
    clear HGr HSr
    replace HK := hide (HK.out.below hbc)
    replace hB := hB.trans (hbc.mono hB.size)
    clear hbc
    go_wp2_with fail
    refine Calls.mono (HH.out _ HK.out) ?_
    rintro e w16 ⟨rfl, hbc⟩
    replace hB := hB.trans (hbc.mono hB.size)
    clear hbc
    go_wp2_with fail
    go_ret
    exact ⟨rfl, hB⟩

set_option maxRecDepth 100000 in
theorem lifted (os : Os) (started : os.Started) (H : Type) (enc : TypeId × Value → H) :
    ReturnsInHanded {} Try.checked os 5 .any (Rows.fnExactCodeForSpec.pre6 enc Try.prog Try.f5 Rows.fnExactCodeForRow.domain false) (Rows.fnExactCodeForSpec.post enc Try.prog Try.f5 false true false false) := by
  refine returnsInHanded_of_change (C := Try.checked) own started (by kernel_rfl) Try.func5
    (ChangeSpec.witness6 (enc := enc) (C := Try.checked) false ⟨#[], #[.slice none 0 0], []⟩ 8 (by kernel_rfl) (by kernel_rfl) (by kernel_rfl) (by kernel_rfl)) ?_
  intro W base args ds gs before hval0 hW hcnd _
  have hval : ∀ (j : Nat) t v, Try.f5.params[j]? = some t → args[j]? = some v → Value.okWide Try.prog W .any base t v := hval0
  have hW' := hW
  obtain ⟨p, q, hA0, hV, rfl, hfz, hnd⟩ := hW
  have hA : DataW.TrodAll enc Try.prog W 0 (fun _ => true) true Try.f5.params.toList args.toList ds p := hA0
  rw [Try.params5] at hA hval
  obtain ⟨v0, d0, hargs, rfl, h0⟩ := trodAll_one hA
  obtain rfl : args = #[v0] := by cases args; simp_all
  obtain ⟨rfl, rfl⟩ := trodVars_none hV
  have k0 := h0
  have lt0 : ∀ x ∈ p, x.block < W.heap.size := by obtain ⟨m, hm⟩ := k0; exact DataW.trod_lt m _ _ _ hm
  obtain ⟨ad, len, cap, rfl⟩ := okWide_slice Try.underlying22 (hval 0 22 v0 rfl rfl)
  obtain ⟨fuel, hf⟩ := h0
  obtain ⟨l, rfl, hl, hR⟩ := open_cells hf
  clear hA0 hval0
  refine (walk ad cap l W hl hR).mono fun e W' ⟨he, bel⟩ => ?_
  subst he
  exact ⟨_, rfl, _, _, _, [], p, [], hW', trodAll_mk1 (shut_bool Try.underlying4 _), trodAll_mk1 (Below.trod laidOut (by kernel_rfl) (of_decide_eq_true (by kernel_rfl)) k0 bel lt0), rfl, bel.frame _, fun h => by cases h⟩

theorem over : Rows.fnExactCodeForRow.holds Try.pinned (OpenSpec.ofChange Rows.fnExactCodeForSpec) :=
  OpenClaim.holds_of_wide 5 Try.f5 rfl rfl rfl rfl rfl rfl rfl ⟨rfl, rfl, rfl, rfl, rfl⟩ rfl rfl rfl rfl rfl (by kernel_rfl) Try.func5 (by kernel_rfl)
    (of_decide_eq_true (by kernel_rfl)) (by unfold Func.isWrapper; first | (rw [if_pos (by decide +kernel)]; kernel_rfl) | (rw [if_neg (by decide +kernel)]; exact ⟨rfl, rfl⟩))
    (fun os started H enc _ => lifted os started H enc)
end Go.Proofs.Ytiphcjbmoekkkaa.fnExactCodeFor

namespace Go.Proofs.Ytiphcjbmoekkkaa
theorem fnExactCodeFor_holds : Rows.FnExactCodeForSaid := fnExactCodeFor.over
#print axioms fnExactCodeFor_holds
end Go.Proofs.Ytiphcjbmoekkkaa

/-
  Proved: whatever the row of cells, the truths, the memory and the schedule, the law FnExactCodeBy returns true, and the rows read afterwards as they read before: CodeBy of the program tells what the specification's tells, in memory of its own. No conditions.
-/
import Derived.Test.YtiphcjbmoekkkaaPlQ
import Derived.Test.YtiphcjbmoekkkaaPlK
import Derived.Test.YtiphcjbmoekkkaaPlO
import Derived.Lib.SmallJoins
import Derived.ChangeOld
import Derived.Below
namespace Go.Proofs.Ytiphcjbmoekkkaa.fnExactCodeBy
open Go.ChangeShapes Go.WideShapes Go.ChangeAt Go.RowKit
open Go.Proofs.Ytiphcjbmoekkkaa.W Go.Proofs.Ytiphcjbmoekkkaa.L Go.Joins
set_option linter.unusedVariables false

theorem own : ownKnob Try.prog.godebug = none := by kernel_rfl
theorem laidOut : laidOutB Try.prog = true := by kernel_rfl

set_option maxRecDepth 20000 in
set_option maxHeartbeats 4000000 in
theorem walk (ad : Option Addr) (c : Nat) (l : List Cc) (qa : Option Addr) (qc : Nat) (rs : List Bool) (w : World) (hl : l.length ≤ maxLen) (h : CRow w ad l) (hq0 : rs.length ≤ maxLen) (hq : ORow w qa rs) :
    Calls Try.prog 6 #[.slice ad l.length c, .slice qa rs.length qc] w fun e w' => e = .returned (.bool true) ∧ Below w.heap.size w w' := by
  have HR := hide h
  have HQ := hide hq
  have hq2 : (rs.length : Int) ≤ 9223372036854775807 := by unfold maxLen at hq0; omega
  clear hq hq0
  clear h
  by_cases hrb : rs.length ≤ 1048576
  case neg =>
    have hrb2 : (1048576 : Int) < (rs.length : Int) := by omega
    go_enter Try.func6, Try.ntmps6
    go_wp2_with fail
    go_ret
    exact ⟨rfl, Below.refl _ _⟩
  have hrb2 : ¬ (1048576 : Int) < (rs.length : Int) := by omega
  go_enter Try.func6, Try.ntmps6
  go_wp2_with fail
  refine (szCellS_any _ _ _ _ hl).mono ?_
  rintro e w1 ⟨r, rfl, hr, hw⟩
  obtain rfl := hw.symm
  clear hl
  by_cases hneg : r < 0
  · clear hr
    go_wp2_with fail
    go_ret
    exact ⟨rfl, Below.refl _ _⟩
  · obtain ⟨-, -, hl⟩ := hr.resolve_left hneg
    clear hr
    have hB : Below w.heap.size w w := Below.refl _ _
    have HT0 := hide (fun (w' : World) (hb : Below w.heap.size w w') => toCellS_any ad c l w' hl (HR.out.below hb))
    have HT1 := hide (fun (w' : World) (hb : Below w.heap.size w w') => toBoolS_any qa qc rs w' hrb (HQ.out.below hb))
    have HS := hide (fun (a : Option Addr) (k : Nat) (q : Option Addr) (qk : Nat) (w' : World) (h0 : CRow w' a l) (h1 : ORow w' q rs) => specCodeBy_any a k l q qk rs w' hl h0 hrb h1)
    have HI := hide (fun (b k : Nat) (q : Option Addr) (qk : Nat) (w' : World) (hk : l.length ≤ k) (h0 : CRow w' (some ⟨b, 0, none⟩) l) (h1 : ORow w' q rs) => implCodeBy_any b 0 k l q qk rs w' hl hk h0 hrb h1)
    have hfl : (cbL l rs).length ≤ 1048576 := cbL_len l rs
    obtain ⟨FL, hFL⟩ : ∃ FL, FL = cbL l rs := ⟨_, rfl⟩
    obtain ⟨FN, hFN⟩ : ∃ FN, FN = cbN l rs := ⟨_, rfl⟩
    obtain ⟨OK, hOK⟩ : ∃ OK, OK = okB l rs := ⟨_, rfl⟩
    rw [← hFL, ← hFN, ← hOK] at HS HI
    rw [← hFL] at hfl
    clear hFL hFN hOK HR HQ
    go_wp2_with fail
    refine Calls.mono (HT0.out _ hB) ?_
    rintro e w2 ⟨rfl, hx, hbc⟩
    have HX := hide hx
    clear hx
    replace hB := hB.trans (hbc.mono hB.size)
    clear hbc
    go_wp2_with fail
    refine Calls.mono (HT1.out _ hB) ?_
    rintro e w3 ⟨rfl, hxq, hbc⟩
    have HXq := hide hxq
    clear hxq
    replace HX := hide (HX.out.below hbc)
    replace hB := hB.trans (hbc.mono hB.size)
    clear hbc
    go_wp2_with fail
    refine Calls.mono (HS.out _ _ _ _ _ HX.out.row HXq.out.row) ?_
    rintro e w4 ⟨vs, rfl, hos, hbc⟩
    have HSr := hide hos
    have HSx := hide (fun k hk => (hos.lt k hk).2)
    obtain ⟨sa, sc, rfl⟩ := own_form hos
    clear hos HX HXq HS
    replace hB := hB.trans (hbc.mono hB.size)
    clear hbc
    have hWs := hB.size
    go_wp2_with fail
    refine Calls.mono (HT0.out _ hB) ?_
    rintro e w5 ⟨rfl, hx, hbc⟩
    have HX := hide hx
    have hXl : w4.heap.size < w5.heap.size := by obtain ⟨cur, hh, -⟩ := hx; exact (Array.getElem?_eq_some_iff.1 hh).1
    clear hx
    replace HSr := hide (tOwn_keep HSr.out (fun k _ hk => hbc.block k hk))
    replace hB := hB.trans (hbc.mono hB.size)
    clear hbc
    obtain ⟨XB, hXB⟩ : ∃ XB, XB = w4.heap.size := ⟨_, rfl⟩
    rw [← hXB] at HX HSx hXl hWs ⊢
    have hXw : w.heap.size ≤ XB := hWs
    clear hXB hWs
    go_wp2_with fail
    refine Calls.mono (HT1.out _ hB) ?_
    rintro e w6 ⟨rfl, hxq, hbc⟩
    have HXq := hide hxq
    clear hxq
    replace HSr := hide (tOwn_keep HSr.out (fun k _ hk => hbc.block k hk))
    replace HX := hide (HX.out.below hbc)
    replace hB := hB.trans (hbc.mono hB.size)
    clear hbc
    obtain ⟨QB, hQB⟩ : ∃ QB, QB = w5.heap.size := ⟨_, rfl⟩
    rw [← hQB] at HXq hXl ⊢
    have hQl : QB < w6.heap.size := HXq.out.lt
    clear hQB
    obtain ⟨QH, hQH⟩ : ∃ QH, QH = w6.heap.size := ⟨_, rfl⟩
    rw [← hQH] at hQl
    have HQH := hide hQH
    clear hQH
    go_wp2_with fail
    refine Calls.mono (HI.out _ _ _ _ _ (Nat.le_refl _) HX.out.row HXq.out.row) ?_
    rintro e w7 ⟨vg, rfl, hog, hbc⟩
    rw [← HQH.out] at hog
    have HGr := hide hog
    have HGx := hide (fun k hk => (hog.lt k hk).1)
    obtain ⟨ga, gc, rfl⟩ := own_form hog
    clear hog HQH
    replace HSr := hide (tOwn_keep HSr.out (fun k _ hk => hbc.block k hk))
    replace HX := hide (HX.out.below hbc)
    replace HXq := hide (HXq.out.below hbc)
    replace hB := hB.trans (hbc.mono hB.size)
    clear hbc
    go_wp2_with fail
    refine Calls.mono (eqOwnD _ _ _ _ FL _ hfl HGr.out HSr.out) ?_
    rintro e w8 ⟨rfl, hbc⟩
    replace HSr := hide (tOwn_keep HSr.out (fun k _ hk => hbc.block k hk))
    replace HGr := hide (tOwn_keep HGr.out (fun k _ hk => hbc.block k hk))
    replace HX := hide (HX.out.below hbc)
    replace HXq := hide (HXq.out.below hbc)
    replace hB := hB.trans (hbc.mono hB.size)
    clear hbc
    go_wp2_with fail
    refine Calls.mono (HT0.out _ hB) ?_
    rintro e w9 ⟨rfl, hx2, hbc⟩
    have HX2 := hide hx2
    clear hx2
    replace HSr := hide (tOwn_keep HSr.out (fun k _ hk => hbc.block k hk))
    replace HGr := hide (tOwn_keep HGr.out (fun k _ hk => hbc.block k hk))
    replace HX := hide (HX.out.below hbc)
    replace HXq := hide (HXq.out.below hbc)
    replace hB := hB.trans (hbc.mono hB.size)
    clear hbc
    go_wp2_with fail
    refine Calls.mono (eqCellS_row _ _ _ _ l _ hl HX.out.row HX2.out.row) ?_
    rintro e w10 ⟨rfl, hbc⟩
    clear HX2
    replace HSr := hide (tOwn_keep HSr.out (fun k _ hk => hbc.block k hk))
    replace HGr := hide (tOwn_keep HGr.out (fun k _ hk => hbc.block k hk))
    replace HX := hide (HX.out.below hbc)
    replace HXq := hide (HXq.out.below hbc)
    replace hB := hB.trans (hbc.mono hB.size)
    clear hbc
    go_wp2_with fail
    refine Calls.mono (HT1.out _ hB) ?_
    rintro e w11 ⟨rfl, hx2, hbc⟩
    have HX2 := hide hx2
    clear hx2
    replace HSr := hide (tOwn_keep HSr.out (fun k _ hk => hbc.block k hk))
    replace HGr := hide (tOwn_keep HGr.out (fun k _ hk => hbc.block k hk))
    replace HX := hide (HX.out.below hbc)
    replace HXq := hide (HXq.out.below hbc)
    replace hB := hB.trans (hbc.mono hB.size)
    clear hbc
    go_wp2_with fail
    refine Calls.mono (eqBoolS_row _ _ _ _ rs _ hrb HXq.out.row HX2.out.row) ?_
    rintro e w12 ⟨rfl, hbc⟩
    clear HX2
    replace HSr := hide (tOwn_keep HSr.out (fun k _ hk => hbc.block k hk))
    replace HGr := hide (tOwn_keep HGr.out (fun k _ hk => hbc.block k hk))
    replace HX := hide (HX.out.below hbc)
    replace HXq := hide (HXq.out.below hbc)
    replace hB := hB.trans (hbc.mono hB.size)
    clear hbc
    obtain ⟨xs, hx8⟩ := HX.out.own (base := XB) (Nat.le_refl _) hl
    have HX8 := hide hx8
    clear hx8
    go_wp2_with fail
    refine Calls.mono (markCellS_any _ _ _ _ _ hl HX8.out) ?_
    rintro e w13 ⟨rfl, -, hgr⟩
    replace HSr := hide (own_grown HSr.out hgr (fun k hk e => by have h1 := HSx.out k hk; simp only [Value.ownBlock, Option.some.injEq] at e; omega))
    replace HGr := hide (own_grown HGr.out hgr (fun k hk e => by have h1 := HGx.out k hk; simp only [Value.ownBlock, Option.some.injEq] at e; omega))
    replace HXq := hide (HXq.out.grown hgr (fun e => by simp only [Value.ownBlock, Option.some.injEq] at e; omega))
    replace hB := hB.grown hgr hB.size (fun k hk => by simp only [Value.ownBlock, Option.some.injEq] at hk; omega)
    clear hgr HX HX8
    obtain ⟨K9, hK9⟩ : ∃ K9, K9 = 1 + l.length * 2 := ⟨_, rfl⟩
    rw [← hK9]
    have hk9 : K9 ≤ 100000000 := by omega
    have hk2 : ¬ ((K9 : Nat) : Int) < 0 := by omega
    clear hK9
    obtain ⟨ys, hx9⟩ := HXq.out.own (base := QB) (Nat.le_refl _) hrb
    have HX9 := hide hx9
    clear hx9 hk2
    go_wp2_with fail
    refine Calls.mono (markBoolS_any _ _ _ _ _ _ hrb hk9 HX9.out) ?_
    rintro e w14 ⟨rfl, hgr⟩
    replace HSr := hide (own_grown HSr.out hgr (fun k hk e => by have h1 := HSx.out k hk; simp only [Value.ownBlock, Option.some.injEq] at e; omega))
    replace HGr := hide (own_grown HGr.out hgr (fun k hk e => by have h1 := HGx.out k hk; simp only [Value.ownBlock, Option.some.injEq] at e; omega))
    replace hB := hB.grown hgr hB.size (fun k hk => by simp only [Value.ownBlock, Option.some.injEq] at hk; omega)
    clear hgr HXq HX9
    obtain ⟨K2, hK2⟩ : ∃ K2, K2 = K9 + rs.length := ⟨_, rfl⟩
    rw [← hK2]
    have hk2 : ¬ ((K2 : Nat) : Int) < 0 := by omega
    clear hK2
    go_wp2_with fail
    refine Calls.mono (eqOwnD _ _ _ _ FL _ hfl HGr.out HSr.out) ?_
    rintro e w15 ⟨rfl, hbc⟩
    replace HSr := hide (tOwn_keep HSr.out (fun k _ hk => hbc.block k hk))
    replace HGr := hide (tOwn_keep HGr.out (fun k _ hk => hbc.block k hk))
    replace hB := hB.trans (hbc.mono hB.size)
    clear hbc
    have HH := hide (fun (w : World) (h : RMk Cd.mv w (.slice ga FL.length gc) 74 5 1 FL.length) => heldCodeS_any _ FL.length 1 w hfl (by omega) h)
    have HMk := hide (fun (w : World) (b : Nat) (xs : List Value) (h : w.ownsRow b 74 5 (.slice ga FL.length gc) FL.length xs) => markCodeS_any _ b FL.length 1 xs w hfl (by omega) h)
    obtain ⟨M, hM⟩ : ∃ M, M = 1 + FL.length * 5 := ⟨_, rfl⟩
    rw [← hM] at HH HMk
    have e1 : ((1 : Nat) : Int) = 1 := rfl
    simp only [e1] at HH HMk
    clear hM hk2 hk9 e1
    go_wp2_with fail
    refine Calls.mono (HMk.out _ _ _ HGr.out) ?_
    rintro e w16 ⟨rfl, hmk, hgr⟩
    have HK := hide hmk
    replace HSr := hide (own_grown HSr.out hgr (fun k hk e => by have h1 := HSx.out k hk; have h2 := HGx.out k e; omega))
    replace hB := hB.grown hgr hB.size (fun k hk => by have h2 := HGx.out k hk; omega)
    clear hmk hgr HGr HMk
    go_wp2_with fail
    refine Calls.mono (HH.out _ HK.out) ?_
    rintro e w17 ⟨rfl, hbc⟩
    replace HSr := hide (tOwn_keep HSr.out (fun k _ hk => hbc.block k hk))
    replace HK := hide (HK.out.below hbc)
    replace hB := hB.trans (hbc.mono hB.size)
    clear hbc
    go_wp2_with fail
    refine Calls.mono (HT0.out _ hB) ?_
    rintro e w18 ⟨rfl, hx, hbc⟩
    have HX := hide hx
    clear hx
    replace HSr := hide (tOwn_keep HSr.out (fun k _ hk => hbc.block k hk))
    replace HK := hide (HK.out.below hbc)
    replace hB := hB.trans (hbc.mono hB.size)
    clear hbc
    go_wp2_with fail
    refine Calls.mono (HT1.out _ hB) ?_
    rintro e w19 ⟨rfl, hxq, hbc⟩
    have HXq := hide hxq
    clear hxq
    replace HSr := hide (tOwn_keep HSr.out (fun k _ hk => hbc.block k hk))
    replace HK := hide (HK.out.below hbc)
    replace HX := hide (HX.out.below hbc)
    replace hB := hB.trans (hbc.mono hB.size)
    clear hbc
    go_wp2_with fail
    refine Calls.mono (HI.out _ _ _ _ _ (Nat.le_refl _) HX.out.row HXq.out.row) ?_
    rintro e w20 ⟨vh, rfl, hoh, hbc⟩
    have HGr := hide hoh
    obtain ⟨ha, hc, rfl⟩ := own_form hoh
    clear hoh HX HXq
    replace HSr := hide (tOwn_keep HSr.out (fun k _ hk => hbc.block k hk))
    replace HK := hide (HK.out.below hbc)
    replace hB := hB.trans (hbc.mono hB.size)
    clear hbc
    go_wp2_with fail
    refine Calls.mono (eqOwnD _ _ _ _ FL _ hfl HGr.out HSr.out) ?_
    rintro e w21 ⟨rfl, hbc⟩
    clear HGr HSr
    replace HK := hide (HK.out.below hbc)
    replace hB := hB.trans (hbc.mono hB.size)
    clear hbc
    go_wp2_with fail
    refine Calls.mono (HH.out _ HK.out) ?_
    rintro e w22 ⟨rfl, hbc⟩
    replace hB := hB.trans (hbc.mono hB.size)
    clear hbc
    go_wp2_with fail
    go_ret
    exact ⟨rfl, hB⟩

set_option maxRecDepth 100000 in
theorem lifted (os : Os) (started : os.Started) (H : Type) (enc : TypeId × Value → H) :
    ReturnsInHanded {} Try.checked os 6 .any (Rows.fnExactCodeBySpec.pre6 enc Try.prog Try.f6 Rows.fnExactCodeByRow.domain false) (Rows.fnExactCodeBySpec.post enc Try.prog Try.f6 false true false false) := by
  refine returnsInHanded_of_change (C := Try.checked) own started (by kernel_rfl) Try.func6
    (ChangeSpec.witness6 (enc := enc) (C := Try.checked) false ⟨#[], #[.slice none 0 0, .slice none 0 0], []⟩ 8 (by kernel_rfl) (by kernel_rfl) (by kernel_rfl) (by kernel_rfl)) ?_
  intro W base args ds gs before hval0 hW hcnd _
  have hval : ∀ (j : Nat) t v, Try.f6.params[j]? = some t → args[j]? = some v → Value.okWide Try.prog W .any base t v := hval0
  have hW' := hW
  obtain ⟨p, q, hA0, hV, rfl, hfz, hnd⟩ := hW
  have hA : DataW.TrodAll enc Try.prog W 0 (fun _ => true) true Try.f6.params.toList args.toList ds p := hA0
  rw [Try.params6] at hA hval
  obtain ⟨v0, vs0, d0, ds0, p0, q0, hargs, rfl, rfl, h0, r0⟩ := trodAll_cons hA
  obtain ⟨v1, vs1, d1, ds1, p1, q1, rfl, rfl, rfl, h1, r1⟩ := trodAll_cons r0
  obtain ⟨rfl, rfl, rfl⟩ := trodAll_nil r1
  obtain rfl : args = #[v0, v1] := by cases args; simp_all
  obtain ⟨rfl, rfl⟩ := trodVars_none hV
  have k0 := h0
  have k1' := h1
  have lt0 : ∀ x ∈ p0, x.block < W.heap.size := by obtain ⟨m, hm⟩ := k0; exact DataW.trod_lt m _ _ _ hm
  have lt1 : ∀ x ∈ p1, x.block < W.heap.size := by obtain ⟨m, hm⟩ := k1'; exact DataW.trod_lt m _ _ _ hm
  obtain ⟨qa, qm, qc, rfl⟩ := okWide_slice Try.underlying37 (hval 1 37 v1 rfl rfl)
  obtain ⟨fuel1, hf1⟩ := h1
  obtain ⟨rs, rfl, nq, hq⟩ := open_bools hf1
  obtain ⟨ad, len, cap, rfl⟩ := okWide_slice Try.underlying22 (hval 0 22 v0 rfl rfl)
  obtain ⟨fuel, hf⟩ := h0
  obtain ⟨l, rfl, hl, hR⟩ := open_cells hf
  clear hA0 hval0
  refine (walk ad cap l qa qc rs W hl hR nq hq).mono fun e W' ⟨he, bel⟩ => ?_
  subst he
  exact ⟨_, rfl, _, _, _, [], _, [], hW', trodAll_mk1 (shut_bool Try.underlying4 _), (trodAll_cons_mk (Below.trod laidOut (by kernel_rfl) (of_decide_eq_true (by kernel_rfl)) k0 bel lt0) (trodAll_cons_mk (Below.trod laidOut (by kernel_rfl) (of_decide_eq_true (by kernel_rfl)) k1' bel lt1) trodAll_mk0)), rfl, bel.frame _, fun h => by cases h⟩

theorem over : Rows.fnExactCodeByRow.holds Try.pinned (OpenSpec.ofChange Rows.fnExactCodeBySpec) :=
  OpenClaim.holds_of_wide 6 Try.f6 rfl rfl rfl rfl rfl rfl rfl ⟨rfl, rfl, rfl, rfl, rfl⟩ rfl rfl rfl rfl rfl (by kernel_rfl) Try.func6 (by kernel_rfl)
    (of_decide_eq_true (by kernel_rfl)) (by unfold Func.isWrapper; first | (rw [if_pos (by decide +kernel)]; kernel_rfl) | (rw [if_neg (by decide +kernel)]; exact ⟨rfl, rfl⟩))
    (fun os started H enc _ => lifted os started H enc)
end Go.Proofs.Ytiphcjbmoekkkaa.fnExactCodeBy

namespace Go.Proofs.Ytiphcjbmoekkkaa
theorem fnExactCodeBy_holds : Rows.FnExactCodeBySaid := fnExactCodeBy.over
#print axioms fnExactCodeBy_holds
end Go.Proofs.Ytiphcjbmoekkkaa

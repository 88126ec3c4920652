/-
  Proved: whatever the rows of cells, the memory and the schedule, the law FnExactThenComp returns true, and the rows read afterwards as they read before: ThenComp of the program tells what the specification's tells, in memory of its own. No conditions.
-/
import Derived.Test.YtlicfmjkoopmnaaCoV
import Derived.Test.YtlicfmjkoopmnaaCoQ
import Derived.Test.YtlicfmjkoopmnaaRwG
import Derived.Test.YtlicfmjkoopmnaaCoK
import Derived.Test.YtlicfmjkoopmnaaCoO
import Derived.Lib.SmallJoins
import Derived.ChangeOld
import Derived.Below
namespace Go.Proofs.Ytlicfmjkoopmnaa.fnExactThenComp
open Go.ChangeShapes Go.WideShapes Go.ChangeAt Go.RowKit
open Go.Proofs.Ytlicfmjkoopmnaa.W Go.Proofs.Ytlicfmjkoopmnaa.C Go.Joins
set_option linter.unusedVariables false

theorem own : ownKnob Try.prog.godebug = none := by kernel_rfl
theorem laidOut : laidOutB Try.prog = true := by kernel_rfl

theorem eqOwn (v1 v2 : Value) (b1 b2 : Nat) (L : List Cc) (w : World) (hl : L.length ≤ 1048576) (h1 : w.ownsRow b1 66 2 v1 L.length (cv L)) (h2 : w.ownsRow b2 66 2 v2 L.length (cv L)) :
    Calls Try.prog 13 #[v1, v2] w fun e w' => e = .returned (.bool true) ∧ Below w.heap.size w w' := by
  obtain ⟨a1, c1, rfl, -, r1⟩ := cOwn_row h1
  obtain ⟨a2, c2, rfl, -, r2⟩ := cOwn_row h2
  exact eqCellS_row a1 a2 c1 c2 L w hl r1 r2
set_option maxRecDepth 20000 in
set_option maxHeartbeats 4000000 in
theorem walk (ad : Option Addr) (c : Nat) (l : List Cc) (qa : Option Addr) (qc : Nat) (L : List (List Cc)) (w : World) (hl : l.length ≤ maxLen) (h : CRow w ad l) (nq : QFit L) (hq : QRow w qa L) :
    Calls Try.prog 6 #[.slice ad l.length c, .slice qa L.length qc] w fun e w' => e = .returned (.bool true) ∧ Below w.heap.size w w' := by
  have HR := hide h
  have HQ := hide hq
  have NQ := hide nq
  clear h hq nq
  go_enter Try.func6, Try.ntmps6
  go_wp2_with fail
  refine (szCellS_any _ _ _ _ hl).mono ?_
  rintro e w1 ⟨r, rfl, hr, hw⟩
  obtain rfl := hw.symm
  clear hl
  by_cases hneg : r < 0
  · clear hr
    go_wp2_with fail
    go_ret
    exact ⟨rfl, Below.refl _ _⟩
  obtain ⟨r0, r1, hl⟩ := hr.resolve_left hneg
  clear hr
  have r2 : r ≤ 1048576 := by omega
  go_wp2_with fail
  refine (szCompSS_any qa qc L r w NQ.out HQ.out (Below.refl _ _) r0 r2).mono ?_
  rintro e w2 ⟨r', rfl, hr, hbc⟩
  have hB := hbc
  clear hbc hneg r0 r1 r2
  by_cases hneg : r' < 0
  · clear hr
    go_wp2_with fail
    go_ret
    exact ⟨rfl, hB⟩
  · have hQF := hr.resolve_left hneg
    have HQF := hide hQF
    clear hr hQF
    have HT0 := hide (fun (w' : World) (hb : Below w.heap.size w w') => toCellS_any ad c l w' hl (HR.out.below hb))
    have HT1 := hide (fun (w' : World) (hb : Below w.heap.size w w') => toCompSS_any qa qc L w' HQF.out (HQ.out.below hb))
    have HS := hide (fun (a : Option Addr) (k : Nat) (q : Option Addr) (qk : Nat) (w' : World) (h0 : CRow w' a l) (h1 : QRow w' q L) => specThen_any a k l q qk L w' hl h0 HQF.out h1)
    have HI := hide (fun (a : Option Addr) (k : Nat) (q : Option Addr) (qk : Nat) (w' : World) (h0 : CRow w' a l) (h1 : QRow w' q L) => implThen_any a k l q qk L w' hl h0 HQF.out h1)
    have hfl := thL_len l L
    have HEq := hide (fun (v1 v2 : Value) (w' : World) (h1 : QV w' v1 L) (h2 : QV w' v2 L) => eqCompSS_v v1 v2 L w' h1 h2)
    have HQv : Hid (∀ (w' : World) (g : Nat), QBlk w' g L → QV w' (.slice (some ⟨g, 0, none⟩) L.length L.length) L) := hide (fun w' g h => ⟨_, _, rfl, h.row, HQF.out, Nat.le_refl _⟩)
    obtain ⟨FL, hFL⟩ : ∃ FL, FL = thL l L := ⟨_, rfl⟩
    obtain ⟨OK, hOK⟩ : ∃ OK, OK = thB l L := ⟨_, rfl⟩
    unfold RU2 at HS HI
    rw [← hFL, ← hOK] at HS HI
    rw [← hFL] at hfl
    clear hFL hOK HR HQ NQ
    go_wp2_with fail
    refine Calls.mono (HT0.out _ hB) ?_
    rintro e w3 ⟨rfl, hx, hbc⟩
    have HX := hide hx
    clear hx
    replace hB := hB.trans (hbc.mono hB.size)
    clear hbc
    go_wp2_with fail
    refine Calls.mono (HT1.out _ hB) ?_
    rintro e w4 ⟨rfl, hxq, hbc⟩
    have HXq := hide hxq
    clear hxq
    replace HX := hide (HX.out.below hbc)
    replace hB := hB.trans (hbc.mono hB.size)
    clear hbc
    go_wp2_with fail
    refine Calls.mono (HS.out _ _ _ _ _ HX.out.row HXq.out.row) ?_
    rintro e w5 ⟨vs, rfl, hos, hbc⟩
    have HSr := hide hos
    have HSx := hide (fun k hk => (hos.lt k hk).2)
    obtain ⟨sa, sc, rfl⟩ := iOwn_form hos
    clear hos HX HXq HS
    replace hB := hB.trans (hbc.mono hB.size)
    clear hbc
    have hWs := hB.size
    go_wp2_with fail
    refine Calls.mono (HT0.out _ hB) ?_
    rintro e w6 ⟨rfl, hx, hbc⟩
    have HX := hide hx
    have hXl := hx.lt
    clear hx
    replace HSr := hide (tOwn_keep HSr.out (fun k _ hk => hbc.block k hk))
    replace hB := hB.trans (hbc.mono hB.size)
    clear hbc
    obtain ⟨XB, hXB⟩ : ∃ XB, XB = w5.heap.size := ⟨_, rfl⟩
    rw [← hXB] at HX HSx hXl hWs ⊢
    have hXw : w.heap.size ≤ XB := hWs
    clear hXB hWs
    go_wp2_with fail
    refine Calls.mono (HT1.out _ hB) ?_
    rintro e w7 ⟨rfl, hxq, hbc⟩
    have HXq := hide hxq
    have HQm := hide (hxq.qm (lo := w6.heap.size) (Nat.le_refl _))
    clear hxq
    replace HSr := hide (tOwn_keep HSr.out (fun k _ hk => hbc.block k hk))
    replace HX := hide (HX.out.below hbc)
    replace hB := hB.trans (hbc.mono hB.size)
    clear hbc
    obtain ⟨QB, hQB⟩ : ∃ QB, QB = w6.heap.size := ⟨_, rfl⟩
    obtain ⟨QH, hQH⟩ : ∃ QH, QH = w7.heap.size := ⟨_, rfl⟩
    rw [← hQB] at HXq HQm hXl ⊢
    rw [← hQH] at HQm
    have hQl : QB < QH := by rw [hQH]; obtain ⟨cur, hh, -⟩ := HXq.out; exact (Array.getElem?_eq_some_iff.1 hh).1
    have HQH := hide hQH
    clear hQH hQB
    go_wp2_with fail
    refine Calls.mono (HI.out _ _ _ _ _ HX.out.row HXq.out.row) ?_
    rintro e w8 ⟨vg, rfl, hog, hbc⟩
    rw [← HQH.out] at hog
    have HGr := hide hog
    have HGx := hide (fun k hk => (hog.lt k hk).1)
    obtain ⟨ga, gc, rfl⟩ := iOwn_form hog
    clear hog HQH
    replace HSr := hide (tOwn_keep HSr.out (fun k _ hk => hbc.block k hk))
    replace HX := hide (HX.out.below hbc)
    replace HXq := hide (HXq.out.below hbc)
    replace HQm := hide (HQm.out.below hbc)
    replace hB := hB.trans (hbc.mono hB.size)
    clear hbc
    go_wp2_with fail
    refine Calls.mono (eqOwn _ _ _ _ FL _ hfl HGr.out HSr.out) ?_
    rintro e w9 ⟨rfl, hbc⟩
    replace HSr := hide (tOwn_keep HSr.out (fun k _ hk => hbc.block k hk))
    replace HGr := hide (tOwn_keep HGr.out (fun k _ hk => hbc.block k hk))
    replace HX := hide (HX.out.below hbc)
    replace HXq := hide (HXq.out.below hbc)
    replace HQm := hide (HQm.out.below hbc)
    replace hB := hB.trans (hbc.mono hB.size)
    clear hbc
    go_wp2_with fail
    refine Calls.mono (HT0.out _ hB) ?_
    rintro e w10 ⟨rfl, hx2, hbc⟩
    have HX2 := hide hx2
    clear hx2
    replace HSr := hide (tOwn_keep HSr.out (fun k _ hk => hbc.block k hk))
    replace HGr := hide (tOwn_keep HGr.out (fun k _ hk => hbc.block k hk))
    replace HX := hide (HX.out.below hbc)
    replace HXq := hide (HXq.out.below hbc)
    replace HQm := hide (HQm.out.below hbc)
    replace hB := hB.trans (hbc.mono hB.size)
    clear hbc
    go_wp2_with fail
    refine Calls.mono (eqCellS_row _ _ _ _ l _ hl HX.out.row HX2.out.row) ?_
    rintro e w11 ⟨rfl, hbc⟩
    clear HX2
    replace HSr := hide (tOwn_keep HSr.out (fun k _ hk => hbc.block k hk))
    replace HGr := hide (tOwn_keep HGr.out (fun k _ hk => hbc.block k hk))
    replace HX := hide (HX.out.below hbc)
    replace HXq := hide (HXq.out.below hbc)
    replace HQm := hide (HQm.out.below hbc)
    replace hB := hB.trans (hbc.mono hB.size)
    clear hbc
    go_wp2_with fail
    refine Calls.mono (HT1.out _ hB) ?_
    rintro e w12 ⟨rfl, hx2, hbc⟩
    have HX2 := hide hx2
    clear hx2
    replace HSr := hide (tOwn_keep HSr.out (fun k _ hk => hbc.block k hk))
    replace HGr := hide (tOwn_keep HGr.out (fun k _ hk => hbc.block k hk))
    replace HX := hide (HX.out.below hbc)
    replace HXq := hide (HXq.out.below hbc)
    replace HQm := hide (HQm.out.below hbc)
    replace hB := hB.trans (hbc.mono hB.size)
    clear hbc
    go_wp2_with fail
    refine Calls.mono (HEq.out _ _ _ (HQv.out _ _ HXq.out) (HQv.out _ _ HX2.out)) ?_
    rintro e w13 ⟨rfl, hbc⟩
    clear HX2 HXq HEq HQv
    replace HSr := hide (tOwn_keep HSr.out (fun k _ hk => hbc.block k hk))
    replace HGr := hide (tOwn_keep HGr.out (fun k _ hk => hbc.block k hk))
    replace HX := hide (HX.out.below hbc)
    replace HQm := hide (HQm.out.below hbc)
    replace hB := hB.trans (hbc.mono hB.size)
    clear hbc
    obtain ⟨xs, hx8⟩ := HX.out.own (base := XB) (Nat.le_refl _) hl
    have HX8 := hide hx8
    clear hx8
    go_wp2_with fail
    refine Calls.mono (markCellS_any _ _ _ _ _ hl HX8.out) ?_
    rintro e w14 ⟨rfl, -, hgr⟩
    replace HSr := hide (iOwn_grown HSr.out hgr (fun k hk e => by have h1 := HSx.out k hk; simp only [Value.ownBlock, Option.some.injEq] at e; omega))
    replace HGr := hide (iOwn_grown HGr.out hgr (fun k hk e => by have h1 := HGx.out k hk; simp only [Value.ownBlock, Option.some.injEq] at e; omega))
    replace HQm := hide (HQm.out.keep (fun k h1 h2 => hgr.block k h2 (fun e => by simp only [Value.ownBlock, Option.some.injEq] at e; omega)))
    replace hB := hB.grown hgr hB.size (fun k hk => by simp only [Value.ownBlock, Option.some.injEq] at hk; omega)
    clear hgr HX HX8
    obtain ⟨K9, hK9⟩ : ∃ K9, K9 = 1 + l.length * 2 := ⟨_, rfl⟩
    rw [← hK9]
    have hk9 : K9 ≤ 100000000 := by omega
    clear hK9
    go_wp2_with fail
    refine Calls.mono (markCompSS_w QB QB QH L.length K9 L _ HQF.out hk9 HQm.out) ?_
    rintro e w15 ⟨⟨K2, rfl⟩, hO⟩
    replace HSr := hide (own_same HSr.out (w' := w15) (fun k h1 h2 h3 => hO.block k h3 (.inl (by have h4 := HSx.out k h1; omega))))
    replace HGr := hide (tOwn_keep HGr.out (w' := w15) (fun k h1 h2 => hO.block k h2 (.inr h1)))
    replace hB := hB.trans (hO.below hB.size (by omega))
    clear hO HQm
    have hk2 : ¬ ((K2 : Nat) : Int) < 0 := by omega
    go_wp2_with fail
    refine Calls.mono (eqOwn _ _ _ _ FL _ hfl HGr.out HSr.out) ?_
    rintro e w16 ⟨rfl, hbc⟩
    replace HSr := hide (tOwn_keep HSr.out (fun k _ hk => hbc.block k hk))
    replace HGr := hide (tOwn_keep HGr.out (fun k _ hk => hbc.block k hk))
    replace hB := hB.trans (hbc.mono hB.size)
    clear hbc
    have HH := hide (fun (w : World) (h : IMk w (.slice ga FL.length gc) 66 2 1 FL.length) => heldCellS_any _ FL.length w hfl h)
    have HMk := hide (fun (w : World) (b : Nat) (xs : List Value) (h : w.ownsRow b 66 2 (.slice ga FL.length gc) FL.length xs) => markCellS_any _ b FL.length xs w hfl h)
    obtain ⟨M, hM⟩ : ∃ M, M = 1 + FL.length * 2 := ⟨_, rfl⟩
    rw [← hM] at HH HMk
    clear hM hk2 hk9
    go_wp2_with fail
    refine Calls.mono (HMk.out _ _ _ HGr.out) ?_
    rintro e w17 ⟨rfl, hmk, hgr⟩
    have HK := hide hmk
    replace HSr := hide (iOwn_grown HSr.out hgr (fun k hk e => by have h1 := HSx.out k hk; have h2 := HGx.out k e; omega))
    replace hB := hB.grown hgr hB.size (fun k hk => by have h2 := HGx.out k hk; omega)
    clear hmk hgr HGr HMk
    go_wp2_with fail
    refine Calls.mono (HH.out _ HK.out) ?_
    rintro e w18 ⟨rfl, hbc⟩
    replace HSr := hide (tOwn_keep HSr.out (fun k _ hk => hbc.block k hk))
    replace HK := hide (HK.out.below hbc)
    replace hB := hB.trans (hbc.mono hB.size)
    clear hbc
    go_wp2_with fail
    refine Calls.mono (HT0.out _ hB) ?_
    rintro e w19 ⟨rfl, hx, hbc⟩
    have HX := hide hx
    clear hx
    replace HSr := hide (tOwn_keep HSr.out (fun k _ hk => hbc.block k hk))
    replace HK := hide (HK.out.below hbc)
    replace hB := hB.trans (hbc.mono hB.size)
    clear hbc
    go_wp2_with fail
    refine Calls.mono (HT1.out _ hB) ?_
    rintro e w20 ⟨rfl, hxq, hbc⟩
    have HXq := hide hxq
    clear hxq
    replace HSr := hide (tOwn_keep HSr.out (fun k _ hk => hbc.block k hk))
    replace HK := hide (HK.out.below hbc)
    replace HX := hide (HX.out.below hbc)
    replace hB := hB.trans (hbc.mono hB.size)
    clear hbc
    go_wp2_with fail
    refine Calls.mono (HI.out _ _ _ _ _ HX.out.row HXq.out.row) ?_
    rintro e w21 ⟨vh, rfl, hoh, hbc⟩
    have HGr := hide hoh
    obtain ⟨ha, hc, rfl⟩ := iOwn_form hoh
    clear hoh HX HXq
    replace HSr := hide (tOwn_keep HSr.out (fun k _ hk => hbc.block k hk))
    replace HK := hide (HK.out.below hbc)
    replace hB := hB.trans (hbc.mono hB.size)
    clear hbc
    go_wp2_with fail
    refine Calls.mono (eqOwn _ _ _ _ FL _ hfl HGr.out HSr.out) ?_
    rintro e w22 ⟨rfl, hbc⟩
    clear HGr HSr
    replace HK := hide (HK.out.below hbc)
    replace hB := hB.trans (hbc.mono hB.size)
    clear hbc
    go_wp2_with fail
    refine Calls.mono (HH.out _ HK.out) ?_
    rintro e w23 ⟨rfl, hbc⟩
    replace hB := hB.trans (hbc.mono hB.size)
    clear hbc
    go_wp2_with fail
    go_ret
    exact ⟨rfl, hB⟩

set_option maxRecDepth 100000 in
theorem lifted (os : Os) (started : os.Started) (H : Type) (enc : TypeId × Value → H) :
    ReturnsInHanded {} Try.checked os 6 .any (Rows.fnExactThenCompSpec.pre6 enc Try.prog Try.f6 Rows.fnExactThenCompRow.domain false) (Rows.fnExactThenCompSpec.post enc Try.prog Try.f6 false true false false) := by
  refine returnsInHanded_of_change (C := Try.checked) own started (by kernel_rfl) Try.func6
    (ChangeSpec.witness6 (enc := enc) (C := Try.checked) false ⟨#[], #[.slice none 0 0, .slice none 0 0], []⟩ 8 (by kernel_rfl) (by kernel_rfl) (by kernel_rfl) (by kernel_rfl)) ?_
  intro W base args ds gs before hval0 hW hcnd _
  have hval : ∀ (j : Nat) t v, Try.f6.params[j]? = some t → args[j]? = some v → Value.okWide Try.prog W .any base t v := hval0
  have hW' := hW
  obtain ⟨p, q, hA0, hV, rfl, hfz, hnd⟩ := hW
  have hA : DataW.TrodAll enc Try.prog W 0 (fun _ => true) true Try.f6.params.toList args.toList ds p := hA0
  rw [Try.params6] at hA hval
  obtain ⟨v0, vs0, d0, ds0, p0, q0, hargs, rfl, rfl, h0, r0⟩ := trodAll_cons hA
  obtain ⟨v1, vs1, d1, ds1, p1, q1, rfl, rfl, rfl, h1, r1⟩ := trodAll_cons r0
  obtain ⟨rfl, rfl, rfl⟩ := trodAll_nil r1
  obtain rfl : args = #[v0, v1] := by cases args; simp_all
  obtain ⟨rfl, rfl⟩ := trodVars_none hV
  have k0 := h0
  have k1' := h1
  have lt0 : ∀ x ∈ p0, x.block < W.heap.size := by obtain ⟨m, hm⟩ := k0; exact DataW.trod_lt m _ _ _ hm
  have lt1 : ∀ x ∈ p1, x.block < W.heap.size := by obtain ⟨m, hm⟩ := k1'; exact DataW.trod_lt m _ _ _ hm
  obtain ⟨qa, qm, qc, rfl⟩ := okWide_slice Try.underlying45 (hval 1 45 v1 rfl rfl)
  obtain ⟨fuel1, hf1⟩ := h1
  obtain ⟨L, rfl, nq, hq⟩ := open_QRow hf1
  obtain ⟨ad, len, cap, rfl⟩ := okWide_slice Try.underlying22 (hval 0 22 v0 rfl rfl)
  obtain ⟨fuel, hf⟩ := h0
  obtain ⟨l, rfl, hl, hR⟩ := open_cells hf
  clear hA0 hval0
  refine (walk ad cap l qa qc L W hl hR nq hq).mono fun e W' ⟨he, bel⟩ => ?_
  subst he
  exact ⟨_, rfl, _, _, _, [], _, [], hW', trodAll_mk1 (shut_bool Try.underlying4 _), (trodAll_cons_mk (Below.trod laidOut (by kernel_rfl) (of_decide_eq_true (by kernel_rfl)) k0 bel lt0) (trodAll_cons_mk (Below.trod laidOut (by kernel_rfl) (of_decide_eq_true (by kernel_rfl)) k1' bel lt1) trodAll_mk0)), rfl, bel.frame _, fun h => by cases h⟩

theorem over : Rows.fnExactThenCompRow.holds Try.pinned (OpenSpec.ofChange Rows.fnExactThenCompSpec) :=
  OpenClaim.holds_of_wide 6 Try.f6 rfl rfl rfl rfl rfl rfl rfl ⟨rfl, rfl, rfl, rfl, rfl⟩ rfl rfl rfl rfl rfl (by kernel_rfl) Try.func6 (by kernel_rfl)
    (of_decide_eq_true (by kernel_rfl)) (by unfold Func.isWrapper; first | (rw [if_pos (by decide +kernel)]; kernel_rfl) | (rw [if_neg (by decide +kernel)]; exact ⟨rfl, rfl⟩))
    (fun os started H enc _ => lifted os started H enc)
end Go.Proofs.Ytlicfmjkoopmnaa.fnExactThenComp

namespace Go.Proofs.Ytlicfmjkoopmnaa
theorem fnExactThenComp_holds : Rows.FnExactThenCompSaid := fnExactThenComp.over
#print axioms fnExactThenComp_holds
end Go.Proofs.Ytlicfmjkoopmnaa

/-
  Proved: whatever the row of cells, the number, the memory and the schedule, the law FnExactMapComp returns true, and the row reads afterwards as it read before: MapComp of the program tells what the specification's tells, in memory of its own. No conditions.
-/
import Derived.Test.YtlicfmjkoopmnaaCoN
import Derived.Test.YtlicfmjkoopmnaaCoK
import Derived.Test.YtlicfmjkoopmnaaCoO
import Derived.Lib.SmallJoins
import Derived.ChangeOld
import Derived.Below
namespace Go.Proofs.Ytlicfmjkoopmnaa.fnExactMapComp
open Go.ChangeShapes Go.WideShapes Go.ChangeAt Go.RowKit
open Go.Proofs.Ytlicfmjkoopmnaa.W Go.Proofs.Ytlicfmjkoopmnaa.C Go.Joins
set_option linter.unusedVariables false

theorem own : ownKnob Try.prog.godebug = none := by kernel_rfl
theorem laidOut : laidOutB Try.prog = true := by kernel_rfl

theorem eqOwn (v1 v2 : Value) (b1 b2 : Nat) (L : List Cc) (w : World) (hl : L.length ≤ 1048576) (h1 : w.ownsRow b1 66 2 v1 L.length (cv L)) (h2 : w.ownsRow b2 66 2 v2 L.length (cv L)) :
    Calls Try.prog 13 #[v1, v2] w fun e w' => e = .returned (.bool true) ∧ Below w.heap.size w w' := by
  obtain ⟨a1, c1, rfl, -, r1⟩ := cOwn_row h1
  obtain ⟨a2, c2, rfl, -, r2⟩ := cOwn_row h2
  exact eqCellS_row a1 a2 c1 c2 L w hl r1 r2
set_option maxHeartbeats 2000000 in
theorem walk (ad : Option Addr) (c : Nat) (l : List Cc) (d : Int) (w : World) (hl : l.length ≤ maxLen) (h : CRow w ad l) :
    Calls Try.prog 7 #[.slice ad l.length c, .int .i64 d] w fun e w' => e = .returned (.bool true) ∧ Below w.heap.size w w' := by
  have HR := hide h
  clear h
  go_enter Try.func7, Try.ntmps7
  go_wp2_with fail
  refine (szCellS_any _ _ _ _ hl).mono ?_
  rintro e w1 ⟨r, rfl, hr, hw⟩
  obtain rfl := hw.symm
  clear hl
  by_cases hneg : r < 0
  · clear hr
    go_wp2_with fail
    go_ret
    exact ⟨rfl, Below.refl _ _⟩
  · have hl : l.length ≤ 1048576 := by
      rcases hr with h | h
      · exact absurd h hneg
      · exact h.2.2
    clear hr
    go_wp2_with fail
    refine (toCellS_any _ _ _ _ hl HR.out).mono ?_
    rintro e w2 ⟨rfl, hr2, hB2⟩
    have hfl := Nat.le_trans (mpL_len d l) hl
    have HS := hide (fun (ad : Option Addr) (c : Nat) (w : World) (h : CRow w ad l) => specMap_any ad c l d w hl h)
    have HP := hide (fun (ad : Option Addr) (c : Nat) (w : World) (hc : l.length ≤ c) (h : CRow w ad l) => implMap_any ad c l d w hl h)
    obtain ⟨FL, hFL⟩ : ∃ FL, FL = mpL d l := ⟨_, rfl⟩
    obtain ⟨OK, hOK⟩ : ∃ OK, OK = (goodT l && inB d 0 99) := ⟨_, rfl⟩
    unfold RT at HS HP
    rw [← hFL, ← hOK] at HS HP
    rw [← hFL] at hfl
    clear hFL hOK
    go_wp2_with fail
    refine (HS.out _ _ _ hr2.row).mono ?_
    rintro e w3 ⟨s1, rfl, hs1, hb3⟩
    have hB3 : Below w.heap.size w w3 := hB2.trans (hb3.mono hB2.size)
    have HS1 := hide hs1
    obtain ⟨sa, sc, rfl⟩ := iOwn_form hs1
    clear hb3 hr2 hB2 hs1
    go_wp2_with fail
    refine (toCellS_any _ _ _ _ hl (HR.out.below hB3)).mono ?_
    rintro e w4 ⟨rfl, hr4, hb4⟩
    have hB4 : Below w.heap.size w w4 := hB3.trans (hb4.mono hB3.size)
    have hs1x : ∀ k, (Value.slice sa FL.length sc).ownBlock = some k → k < w3.heap.size := fun k hk => (HS1.out.lt k hk).2
    have HS4 := hide (tOwn_keep HS1.out (fun k _ hk => hb4.block k hk))
    have hsz4 : w3.heap.size < w4.heap.size := by obtain ⟨cur, hh, -⟩ := hr4; exact (Array.getElem?_eq_some_iff.1 hh).1
    have HX4 := hide hr4
    have hwx := hB3.size
    clear hb4 HS1 hr4
    go_wp2_with fail
    refine (HP.out _ _ _ (Nat.le_refl _) HX4.out.row).mono ?_
    rintro e w5 ⟨g0, rfl, ho5, hb5⟩
    have HO5 := hide ho5
    have hg0 : ∀ k, g0.ownBlock = some k → w4.heap.size ≤ k := fun k hk => (HO5.out.lt k hk).1
    have HS5 := hide (tOwn_keep HS4.out (fun k _ hk => hb5.block k hk))
    have HX5 := hide (HX4.out.below hb5)
    have hB5 : Below w.heap.size w w5 := hB4.trans (hb5.mono hB4.size)
    obtain ⟨ga, gc, rfl⟩ := iOwn_form ho5
    clear ho5 hb5 HS4 HX4
    go_wp2_with fail
    refine (eqOwn _ _ _ _ FL _ hfl HO5.out HS5.out).mono ?_
    rintro e w6 ⟨rfl, hb6⟩
    have HO6 := hide (tOwn_keep HO5.out (fun k _ hk => hb6.block k hk))
    have HS6 := hide (tOwn_keep HS5.out (fun k _ hk => hb6.block k hk))
    have HX6 := hide (HX5.out.below hb6)
    have hB6 : Below w.heap.size w w6 := hB5.trans (hb6.mono hB5.size)
    clear hb6 HO5 HS5 HX5 hB5
    go_wp2_with fail
    refine (toCellS_any _ _ _ _ hl (HR.out.below hB6)).mono ?_
    rintro e w7 ⟨rfl, hr7, hb7⟩
    have HO7 := hide (tOwn_keep HO6.out (fun k _ hk => hb7.block k hk))
    have HS7 := hide (tOwn_keep HS6.out (fun k _ hk => hb7.block k hk))
    have HX7 := hide (HX6.out.below hb7)
    have hB7 : Below w.heap.size w w7 := hB6.trans (hb7.mono hB6.size)
    clear hb7 HO6 HS6 HX6 hB6
    go_wp2_with fail
    refine (eqCellS_row _ _ _ _ _ _ hl HX7.out.row hr7.row).mono ?_
    rintro e w8 ⟨rfl, hb8⟩
    have HO8 := hide (tOwn_keep HO7.out (fun k _ hk => hb8.block k hk))
    have HS8 := hide (tOwn_keep HS7.out (fun k _ hk => hb8.block k hk))
    obtain ⟨xs, hx8⟩ := (HX7.out.below hb8).own (base := w3.heap.size) (Nat.le_refl _) hl
    have HX8 := hide hx8
    have hB8 : Below w.heap.size w w8 := hB7.trans (hb8.mono hB7.size)
    clear hb8 HO7 HS7 HX7 hB7 hr7 hx8
    go_wp2_with fail
    refine (markCellS_any _ _ _ _ _ hl HX8.out).mono ?_
    rintro e w9 ⟨rfl, -, hg9⟩
    have HO9 := hide (iOwn_grown HO8.out hg9 (fun k hk e => by have h1 := hg0 k hk; simp only [Value.ownBlock, Option.some.injEq] at e; omega))
    have HS9 := hide (iOwn_grown HS8.out hg9 (fun k hk e => by have h1 := hs1x k hk; simp only [Value.ownBlock, Option.some.injEq] at e; omega))
    have hB9 : Below w.heap.size w w9 := hB8.grown hg9 hB8.size (fun k hk => by simp only [Value.ownBlock, Option.some.injEq] at hk; omega)
    clear hg9 HO8 HS8 hB8 HX8
    have hk9 : ¬ ((1 + l.length * 2 : Nat) : Int) < 0 := by omega
    obtain ⟨K9, hK9⟩ : ∃ K9, K9 = 1 + l.length * 2 := ⟨_, rfl⟩
    rw [← hK9] at hk9 ⊢
    clear hK9
    go_wp2_with fail
    refine (eqOwn _ _ _ _ FL _ hfl HO9.out HS9.out).mono ?_
    rintro e w10 ⟨rfl, hb10⟩
    have HO10 := hide (tOwn_keep HO9.out (fun k _ hk => hb10.block k hk))
    have HS10 := hide (tOwn_keep HS9.out (fun k _ hk => hb10.block k hk))
    have hB10 : Below w.heap.size w w10 := hB9.trans (hb10.mono hB9.size)
    clear hb10 HO9 HS9 hB9
    go_wp2_with fail
    refine (markCellS_any _ _ _ _ _ hfl HO10.out).mono ?_
    rintro e w11 ⟨rfl, hm11, hg11⟩
    have HS11 := hide (iOwn_grown HS10.out hg11 (fun k hk e => by have h1 := hs1x k hk; have h2 := hg0 k e; omega))
    have hB11 : Below w.heap.size w w11 := hB10.grown hg11 hB10.size (fun k hk => by have h2 := hg0 k hk; omega)
    have HM11 := hide hm11
    clear hm11 hg11 HO10 HS10 hB10
    obtain ⟨M, hM⟩ : ∃ M, M = 1 + FL.length * 2 := ⟨_, rfl⟩
    have HH := hide (fun (w : World) (h : IMk w (.slice ga FL.length gc) 66 2 1 FL.length) => heldCellS_any _ FL.length w hfl h)
    rw [← hM] at HH ⊢
    clear hM
    go_wp2_with fail
    refine (HH.out _ HM11.out).mono ?_
    rintro e w12 ⟨rfl, hb12⟩
    have HM12 := hide (HM11.out.below hb12)
    have HS12 := hide (tOwn_keep HS11.out (fun k _ hk => hb12.block k hk))
    have hB12 : Below w.heap.size w w12 := hB11.trans (hb12.mono hB11.size)
    clear hb12 HM11 HS11 hB11
    go_wp2_with fail
    refine (toCellS_any _ _ _ _ hl (HR.out.below hB12)).mono ?_
    rintro e w13 ⟨rfl, hr13, hb13⟩
    have HM13 := hide (HM12.out.below hb13)
    have HS13 := hide (tOwn_keep HS12.out (fun k _ hk => hb13.block k hk))
    have hB13 : Below w.heap.size w w13 := hB12.trans (hb13.mono hB12.size)
    clear hb13 HM12 HS12 hB12
    go_wp2_with fail
    refine (HP.out _ _ _ (Nat.le_refl _) hr13.row).mono ?_
    rintro e w14 ⟨h0, rfl, ho14, hb14⟩
    have HO14 := hide ho14
    have HM14 := hide (HM13.out.below hb14)
    have HS14 := hide (tOwn_keep HS13.out (fun k _ hk => hb14.block k hk))
    have hB14 : Below w.heap.size w w14 := hB13.trans (hb14.mono hB13.size)
    obtain ⟨ha, hc', rfl⟩ := iOwn_form ho14
    clear hb14 HM13 HS13 hB13 ho14 hr13
    go_wp2_with fail
    refine (eqOwn _ _ _ _ FL _ hfl HO14.out HS14.out).mono ?_
    rintro e w15 ⟨rfl, hb15⟩
    have HM15 := hide (HM14.out.below hb15)
    have hB15 : Below w.heap.size w w15 := hB14.trans (hb15.mono hB14.size)
    clear hb15 HM14 HS14 hB14 HO14
    go_wp2_with fail
    refine (HH.out _ HM15.out).mono ?_
    rintro e w16 ⟨rfl, hb16⟩
    have hB16 : Below w.heap.size w w16 := hB15.trans (hb16.mono hB15.size)
    clear hb16
    go_wp2_with fail
    go_ret
    exact ⟨rfl, hB16⟩

set_option maxRecDepth 100000 in
theorem lifted (os : Os) (started : os.Started) (H : Type) (enc : TypeId × Value → H) :
    ReturnsInHanded {} Try.checked os 7 .any (Rows.fnExactMapCompSpec.pre6 enc Try.prog Try.f7 Rows.fnExactMapCompRow.domain false) (Rows.fnExactMapCompSpec.post enc Try.prog Try.f7 false true false false) := by
  refine returnsInHanded_of_change (C := Try.checked) own started (by kernel_rfl) Try.func7
    (ChangeSpec.witness6 (enc := enc) (C := Try.checked) false ⟨#[], #[.slice none 0 0, .int .i64 0], []⟩ 8 (by kernel_rfl) (by kernel_rfl) (by kernel_rfl) (by kernel_rfl)) ?_
  intro W base args ds gs before hval0 hW hcnd _
  have hval : ∀ (j : Nat) t v, Try.f7.params[j]? = some t → args[j]? = some v → Value.okWide Try.prog W .any base t v := hval0
  have hW' := hW
  obtain ⟨p, q, hA0, hV, rfl, hfz, hnd⟩ := hW
  have hA : DataW.TrodAll enc Try.prog W 0 (fun _ => true) true Try.f7.params.toList args.toList ds p := hA0
  rw [Try.params7] at hA hval
  obtain ⟨v0, vs0, d0, ds0, p0, q0, hargs, rfl, rfl, h0, r0⟩ := trodAll_cons hA
  obtain ⟨v1, vs1, d1, ds1, p1, q1, rfl, rfl, rfl, h1, r1⟩ := trodAll_cons r0
  obtain ⟨rfl, rfl, rfl⟩ := trodAll_nil r1
  obtain rfl : args = #[v0, v1] := by cases args; simp_all
  obtain ⟨rfl, rfl⟩ := trodVars_none hV
  have k0 := h0
  have k1' := h1
  have lt0 : ∀ x ∈ p0, x.block < W.heap.size := by obtain ⟨m, hm⟩ := k0; exact DataW.trod_lt m _ _ _ hm
  have lt1 : ∀ x ∈ p1, x.block < W.heap.size := by obtain ⟨m, hm⟩ := k1'; exact DataW.trod_lt m _ _ _ hm
  obtain ⟨n1, rfl, -, -, -⟩ := open_int Try.underlying3 (hval 1 3 v1 rfl rfl) h1
  obtain ⟨ad, len, cap, rfl⟩ := okWide_slice Try.underlying22 (hval 0 22 v0 rfl rfl)
  obtain ⟨fuel, hf⟩ := h0
  obtain ⟨l, rfl, hl, hR⟩ := open_cells hf
  clear hA0 hval0
  refine (walk ad cap l n1 W hl hR).mono fun e W' ⟨he, bel⟩ => ?_
  subst he
  exact ⟨_, rfl, _, _, _, [], _, [], hW', trodAll_mk1 (shut_bool Try.underlying4 _), (trodAll_cons_mk (Below.trod laidOut (by kernel_rfl) (of_decide_eq_true (by kernel_rfl)) k0 bel lt0) (trodAll_cons_mk (Below.trod laidOut (by kernel_rfl) (of_decide_eq_true (by kernel_rfl)) k1' bel lt1) trodAll_mk0)), rfl, bel.frame _, fun h => by cases h⟩

theorem over : Rows.fnExactMapCompRow.holds Try.pinned (OpenSpec.ofChange Rows.fnExactMapCompSpec) :=
  OpenClaim.holds_of_wide 7 Try.f7 rfl rfl rfl rfl rfl rfl rfl ⟨rfl, rfl, rfl, rfl, rfl⟩ rfl rfl rfl rfl rfl (by kernel_rfl) Try.func7 (by kernel_rfl)
    (of_decide_eq_true (by kernel_rfl)) (by unfold Func.isWrapper; first | (rw [if_pos (by decide +kernel)]; kernel_rfl) | (rw [if_neg (by decide +kernel)]; exact ⟨rfl, rfl⟩))
    (fun os started H enc _ => lifted os started H enc)
end Go.Proofs.Ytlicfmjkoopmnaa.fnExactMapComp

namespace Go.Proofs.Ytlicfmjkoopmnaa
theorem fnExactMapComp_holds : Rows.FnExactMapCompSaid := fnExactMapComp.over
#print axioms fnExactMapComp_holds
end Go.Proofs.Ytlicfmjkoopmnaa

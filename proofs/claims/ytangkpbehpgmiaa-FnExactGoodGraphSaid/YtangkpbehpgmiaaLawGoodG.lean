/-
  Proved: whatever the graph, the memory and the schedule, the law FnExactGoodGraph returns true, and its argument reads afterwards as it read before: GoodGraph of the program tells what the specification's tells. No conditions. Written by wip/build/mk_lawgoodg.py.
-/
import Derived.Test.YtangkpbehpgmiaaGrG
import Derived.Deep.RegionHeld3
import Derived.Deep.RegionLaw
import Derived.Deep.AppendLies
import Derived.Deep.CutRange
import Derived.Lib.SmallJoins
import Derived.ChangeOld
import Derived.Below
namespace Go.Proofs.Ytangkpbehpgmiaa.fnExactGoodGraph
open Go.ChangeShapes Go.WideShapes Go.ChangeAt Go.RowKit
open Go.Proofs.Ytangkpbehpgmiaa.W Go.Joins
set_option linter.unusedVariables false
set_option linter.unusedSimpArgs false

theorem own : ownKnob Try.prog.godebug = none := by kernel_rfl
theorem laidOut : laidOutB Try.prog = true := by kernel_rfl

set_option maxRecDepth 20000 in
set_option maxHeartbeats 4000000 in
theorem walk (ad : Option Addr) (c : Nat) (D : List (List Int)) (w : World) (hl : QFit D) (h : QRow w ad D) (hlc : D.length ≤ c) :
    Calls Try.prog 3 #[.agg #[.slice ad D.length c]] w fun r w' => r = .returned (.bool true) ∧ Below w.heap.size w w' := by
  have HR := hide h
  clear h
  go_enter Try.func3, Try.ntmps3
  go_upto_region 2 with fail
  have HX0 := hide (Bx.new w #[.slice ad D.length c] 24)
  have hB0 : Below w.heap.size w (w.alloc (.cells #[.slice ad D.length c] 24)) := (Below.refl _ _).alloc (Nat.le_refl _) _
  obtain ⟨w0, hw0⟩ : ∃ w0, w0 = w.alloc (.cells #[.slice ad D.length c] 24) := ⟨_, rfl⟩
  obtain ⟨XB, hXB⟩ : ∃ XB, XB = w.heap.size := ⟨_, rfl⟩
  rw [← hw0] at HX0 hB0 ⊢
  rw [← hXB] at HX0 ⊢
  have xl0 : XB < w0.heap.size := HX0.out.lt
  clear hw0 hXB
  have cx := HX0.out.c
  go_wp2_with fail
  refine Calls.mono (szGraph_any ad c D 1048576 hl HR.out (by omega) (by omega) _ hB0) ?_
  rintro r w1 ⟨r, rfl, hr, hb1⟩
  have hB1 : Below w.heap.size w w1 := hB0.trans (hb1.mono hB0.size)
  have HX1 := hide (HX0.out.below hb1 xl0)
  have xl1 : XB < w1.heap.size := HX1.out.lt
  clear hb1 cx HX0 hl hB0 xl0
  by_cases hneg : r < 0
  · clear hr
    go_wp2_with fail
    go_ret
    exact ⟨rfl, hB1⟩
  · have hD := hr.resolve_left hneg
    clear hr
    have HT := hide (fun (w' : World) (hb : Below w.heap.size w w') => toGraph_row (.agg #[.slice ad D.length c]) D w' ⟨ad, c, rfl, QRow.below HR.out hb, hD, hlc⟩)
    have HD := hide hD
    clear HR hD
    have cx := HX1.out.c
    go_wp2_with fail
    refine Calls.mono (HT.out _ hB1) ?_
    rintro r w2 ⟨v2, rfl, hd2, hb2⟩
    have hB2 : Below w.heap.size w w2 := hB1.trans (hb2.mono hB1.size)
    have HX2 := hide (HX1.out.below hb2 xl1)
    have xl2 : XB < w2.heap.size := HX2.out.lt
    clear hb2 cx HX1 hB1 xl1
    have HS := hide (fun w' (hb : Below w2.heap.size w2 w') => specGoodG_any v2 D w' (hd2.below hb))
    obtain ⟨G, hG⟩ : ∃ G, G = goodG D := ⟨_, rfl⟩
    have HI := hide (fun v w' (h : GRow w' v D) => implGoodG_any v D w' h)
    rw [← hG] at HS HI
    obtain ⟨a2, c2, rfl, -, -, -⟩ := hd2
    clear hG
    go_wp2_with fail
    refine Calls.mono (HS.out _ (Below.refl _ _)) ?_
    rintro r w3 ⟨rfl, hb3⟩
    have hB3 : Below w.heap.size w w3 := hB2.trans (hb3.mono hB2.size)
    have HX3 := hide (HX2.out.below hb3 xl2)
    have xl3 : XB < w3.heap.size := HX3.out.lt
    clear hb3 HX2 hB2 xl2 HS
    have cx := HX3.out.c
    go_wp2_with fail
    refine Calls.mono (HT.out _ hB3) ?_
    rintro r w4 ⟨v4, rfl, hd4, hb4⟩
    have hB4 : Below w.heap.size w w4 := hB3.trans (hb4.mono hB3.size)
    have HX4 := hide (HX3.out.below hb4 xl3)
    have xl4 : XB < w4.heap.size := HX4.out.lt
    clear hb4 cx HX3 hB3 xl3
    have HD4 := hide hd4
    obtain ⟨a4, c4, rfl, -, -, -⟩ := hd4
    have hB5 : Below w.heap.size w (w4.alloc (.cells #[.slice a4 D.length c4] 27)) := hB4.alloc hB4.size _
    have HY5 := hide (Bx.new w4 #[.slice a4 D.length c4] 27)
    have HX5 := hide (HX4.out.alloc (.cells #[.slice a4 D.length c4] 27))
    have HD5 := hide (HD4.out.below (w' := w4.alloc (.cells #[.slice a4 D.length c4] 27)) ((Below.refl _ _).alloc (Nat.le_refl _) _))
    go_upto_region 7 with fail
    obtain ⟨w5, hw5⟩ : ∃ w5, w5 = w4.alloc (.cells #[.slice a4 D.length c4] 27) := ⟨_, rfl⟩
    obtain ⟨YB, hYB⟩ : ∃ YB, YB = w4.heap.size := ⟨_, rfl⟩
    rw [← hw5] at hB5 HY5 HX5 HD5 ⊢
    rw [← hYB] at HY5 ⊢
    have yl5 : YB < w5.heap.size := HY5.out.lt
    have xl5 : XB < w5.heap.size := HX5.out.lt
    clear hw5 hYB hB4 HX4 HD4
    have cy := HY5.out.c
    go_wp2_with fail
    refine Calls.mono (HI.out _ _ HD5.out) ?_
    rintro r w6 ⟨rfl, hb6⟩
    have hB6 : Below w.heap.size w w6 := hB5.trans (hb6.mono hB5.size)
    have HZXB := hide (HX5.out.below hb6 xl5)
    have HZYB := hide (HY5.out.below hb6 yl5)
    have HD6 := hide (HD5.out.below hb6)
    have xl6 : XB < w6.heap.size := HZXB.out.lt
    have yl6 : YB < w6.heap.size := HZYB.out.lt
    clear hb6 cy HX5 HY5 HD5 hB5 xl5 yl5 HI
    go_wp2_with fail
    have HB6d : Hid (Below w.heap.size w w6.drew) := hide (belowDrew8 hB6)
    have b0 : w6.cell? ⟨XB, 0, none⟩ = some (.slice ad D.length c) := HZXB.out.c 0
    have b1 : w6.cell? ⟨YB, 0, none⟩ = some (.slice a4 D.length c4) := HZYB.out.c 0
    refine wp_region_noPanic ?_
    refine wp_region_held_drew (S := fun w' => w'.cell? ⟨XB, 0, none⟩ = some (.slice ad D.length c) ∧ w'.cell? ⟨YB, 0, none⟩ = some (.slice a4 D.length c4)) (by kernel_rfl) ⟨b0, b1⟩ (fun hHeld => ?_)
    refine wpAnyH_take (i := 0) (oi := _) (v := ?_) rfl (by kernel_rfl) (by kernel_rfl) (by kernel_rfl) (fun _ _ _ h => h) (Or.inl ⟨by rfl, ?_⟩) (by assumption) ?_
    rotate_left 1
    · (intro w hSw; (try dsimp only at hSw); (first | (go_simp; done) | (go_simp; with_reducible rfl)))
    try simp only [Act.put, List.getElem_toArray, List.getElem_cons_zero, List.getElem_cons_succ, List.setIfInBounds_toArray, List.set_cons_zero, List.set_cons_succ]
    refine wpAnyH_take (i := 1) (oi := _) (v := ?_) rfl (by kernel_rfl) (by kernel_rfl) (by kernel_rfl) (fun _ _ _ h => h) (Or.inl ⟨by rfl, ?_⟩) (by assumption) ?_
    rotate_left 1
    · (intro w hSw; (try dsimp only at hSw); (first | (go_simp; done) | (go_simp; with_reducible rfl)))
    try simp only [Act.put, List.getElem_toArray, List.getElem_cons_zero, List.getElem_cons_succ, List.setIfInBounds_toArray, List.set_cons_zero, List.set_cons_succ]
    refine wpAnyH_ready (rs := [2]) (by kernel_rfl) (by simp) ?_
    refine AllReadyH.cons (o := _) rfl (fun K hK => ?_) AllReadyH.nil
    go_simp
    (with_reducible refine Calls.mono (HT.out _ HB6d.out) ?_)
    rintro r w7 ⟨v7, rfl, hd7, hb7⟩
    have HB7 := hide (HB6d.out.trans (hb7.mono HB6d.out.size))
    have HD7 := hide hd7
    have HE7 := hide (GRow.below (w := w6.drew) HD6.out hb7)
    have e0 := (hb7.cell (p := ⟨XB, 0, none⟩) xl6).trans b0
    have e1 := (hb7.cell (p := ⟨YB, 0, none⟩) yl6).trans b1
    have xl7 : XB < w7.heap.size := Nat.lt_of_lt_of_le xl6 hb7.size
    have yl7 : YB < w7.heap.size := Nat.lt_of_lt_of_le yl6 hb7.size
    clear hb7
    obtain ⟨a7, c7, rfl, -, -, -⟩ := hd7
    (try go_wp2_with fail)
    refine hK.out _ _ ⟨e0, e1⟩ (fun hHeld => ?_)
    clear hK K
    try simp only [Act.put, List.getElem_toArray, List.getElem_cons_zero, List.getElem_cons_succ, List.setIfInBounds_toArray, List.set_cons_zero, List.set_cons_succ]
    refine wpAnyH_ready (rs := [3]) (by kernel_rfl) (by simp) ?_
    refine AllReadyH.cons (o := _) rfl (fun K hK => ?_) AllReadyH.nil
    go_simp
    (with_reducible refine Calls.mono (eqGraph_row _ _ D _ HE7.out HD7.out) ?_)
    rintro r w8 ⟨rfl, hb8⟩
    have HB8 := hide (HB7.out.trans (hb8.mono HB7.out.size))
    have g0 := (hb8.cell (p := ⟨XB, 0, none⟩) xl7).trans e0
    have g1 := (hb8.cell (p := ⟨YB, 0, none⟩) yl7).trans e1
    clear hb8
    (try go_wp2_with fail)
    refine hK.out _ _ ⟨g0, g1⟩ (fun hHeld => ?_)
    clear hK K
    try simp only [Act.put, List.getElem_toArray, List.getElem_cons_zero, List.getElem_cons_succ, List.setIfInBounds_toArray, List.set_cons_zero, List.set_cons_succ]
    refine wpAnyH_take (i := 4) (oi := _) (v := ?_) rfl (by kernel_rfl) (by kernel_rfl) (by kernel_rfl) (fun _ _ _ h => h) (Or.inl ⟨by rfl, ?_⟩) (by assumption) ?_
    rotate_left 1
    · (intro w hSw; (try dsimp only at hSw); (first | (go_simp; done) | (go_simp; with_reducible rfl)))
    try simp only [Act.put, List.getElem_toArray, List.getElem_cons_zero, List.getElem_cons_succ, List.setIfInBounds_toArray, List.set_cons_zero, List.set_cons_succ]
    refine wpAnyH_done (by kernel_rfl) ?_ _
    refine NoPanic.normal ?_
    have hBK := HB8.out
    clear b0 b1 e0 e1 g0 g1
    go_wp2_with fail
    go_ret
    exact ⟨rfl, hBK⟩

set_option maxRecDepth 100000 in
theorem lifted (os : Os) (started : os.Started) (H : Type) (enc : TypeId × Value → H) :
    ReturnsInHanded {} Try.checked os 3 .any (Rows.fnExactGoodGraphSpec.pre6 enc Try.prog Try.f3 Rows.fnExactGoodGraphRow.domain false) (Rows.fnExactGoodGraphSpec.post enc Try.prog Try.f3 false true false false) := by
  refine returnsInHanded_of_change (C := Try.checked) own started (by kernel_rfl) Try.func3
    (ChangeSpec.witness6 (enc := enc) (C := Try.checked) false ⟨#[], #[.agg #[.slice none 0 0]], []⟩ 8 (by kernel_rfl) (by kernel_rfl) (by kernel_rfl) (by kernel_rfl)) ?_
  intro W base args ds gs before hval0 hW hcnd _
  have hval : ∀ (j : Nat) t v, Try.f3.params[j]? = some t → args[j]? = some v → Value.okWide Try.prog W .any base t v := hval0
  have hW' := hW
  obtain ⟨p, q, hA0, hV, rfl, hfz, hnd⟩ := hW
  have hA : DataW.TrodAll enc Try.prog W 0 (fun _ => true) true Try.f3.params.toList args.toList ds p := hA0
  rw [Try.params3] at hA hval
  obtain ⟨v0, vs0, d0, ds0, p0, q0, hargs, rfl, rfl, h0, r0⟩ := trodAll_cons hA
  obtain ⟨rfl, rfl, rfl⟩ := trodAll_nil r0
  obtain rfl : args = #[v0] := by cases args; simp_all
  obtain ⟨rfl, rfl⟩ := trodVars_none hV
  have k0' := h0
  have lt0 : ∀ x ∈ p0, x.block < W.heap.size := by obtain ⟨m, hm⟩ := k0'; exact DataW.trod_lt m _ _ _ hm
  obtain ⟨D, ad, c, rfl, hD, nD, hlc⟩ := open_graph (hval 0 24 v0 rfl rfl) h0
  clear hA0 hval0
  refine (walk ad c D W nD hD hlc).mono fun e W' ⟨he, bel⟩ => ?_
  subst he
  exact ⟨_, rfl, _, _, _, [], _, [], hW', trodAll_mk1 (shut_bool Try.underlying4 _), (trodAll_cons_mk (Below.trod laidOut (by kernel_rfl) (of_decide_eq_true (by kernel_rfl)) k0' bel lt0) trodAll_mk0), rfl, bel.frame _, fun h => by cases h⟩

theorem over : Rows.fnExactGoodGraphRow.holds Try.pinned (OpenSpec.ofChange Rows.fnExactGoodGraphSpec) :=
  OpenClaim.holds_of_wide 3 Try.f3 rfl rfl rfl rfl rfl rfl rfl ⟨rfl, rfl, rfl, rfl, rfl⟩ rfl rfl rfl rfl rfl (by kernel_rfl) Try.func3 (by kernel_rfl)
    (of_decide_eq_true (by kernel_rfl)) (by unfold Func.isWrapper; first | (rw [if_pos (by decide +kernel)]; kernel_rfl) | (rw [if_neg (by decide +kernel)]; exact ⟨rfl, rfl⟩))
    (fun os started H enc _ => lifted os started H enc)
end Go.Proofs.Ytangkpbehpgmiaa.fnExactGoodGraph

namespace Go.Proofs.Ytangkpbehpgmiaa
theorem fnExactGoodGraph_holds : Rows.FnExactGoodGraphSaid := fnExactGoodGraph.over
#print axioms fnExactGoodGraph_holds
end Go.Proofs.Ytangkpbehpgmiaa

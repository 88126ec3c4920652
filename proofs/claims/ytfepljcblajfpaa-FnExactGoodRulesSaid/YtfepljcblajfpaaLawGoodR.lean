/-
  Proved: whatever the data, the rules, the memory and the schedule, the law FnExactGoodRules returns true, and its arguments read afterwards as they read before: GoodRules of the program tells what the specification's tells. No conditions. Written by wip/build/mk_law8.py.
-/
import Derived.Test.YtfepljcblajfpaaPaG
import Derived.Deep.RegionHeld3
import Derived.Deep.RegionLaw
import Derived.Deep.AppendLies
import Derived.Deep.CutRange
import Derived.Lib.SmallJoins
import Derived.ChangeOld
import Derived.Below
namespace Go.Proofs.Ytfepljcblajfpaa.fnExactGoodRules
open Go.ChangeShapes Go.WideShapes Go.ChangeAt Go.RowKit
open Go.Proofs.Ytfepljcblajfpaa.W Go.Joins
set_option linter.unusedVariables false
set_option linter.unusedSimpArgs false

theorem own : ownKnob Try.prog.godebug = none := by kernel_rfl
theorem laidOut : laidOutB Try.prog = true := by kernel_rfl

set_option maxRecDepth 20000 in
set_option maxHeartbeats 8000000 in
theorem walk (ad : Option Addr) (c : Nat) (D : List Int) (q0 : Option Addr) (j0 : Nat) (L : List (List Pt)) (w : World) (hD : IRow w ad D) (nD : D.length ≤ maxLen) (hq : QRow w q0 L) (nq : QFit L) :
    Calls Try.prog 4 #[.agg #[.slice ad D.length c], .slice q0 L.length j0] w fun r w' => r = .returned (.bool true) ∧ Below w.heap.size w w' := by
  have HR := hide hD
  clear hD
  have HQ := hide hq
  have NQ := hide nq
  clear hq nq
  go_enter Try.func4, Try.ntmps4
  go_upto_region 1 with fail
  have HX0 := hide (Bx.new w #[.slice ad D.length c] 24)
  have hB0 : Below w.heap.size w (w.alloc (.cells #[.slice ad D.length c] 24)) := (Below.refl _ _).alloc (Nat.le_refl _) _
  obtain ⟨w0, hw0⟩ : ∃ w0, w0 = w.alloc (.cells #[.slice ad D.length c] 24) := ⟨_, rfl⟩
  obtain ⟨XB, hXB⟩ : ∃ XB, XB = w.heap.size := ⟨_, rfl⟩
  rw [← hw0] at HX0 hB0 ⊢
  rw [← hXB] at HX0 ⊢
  have xl0 : XB < w0.heap.size := HX0.out.lt
  clear hw0 hXB
  have cx := HX0.out.c
  go_wp2_with fail
  refine Calls.mono (szData_any ad c D.length 1048576 _ nD (by omega) (by omega)) ?_
  rintro r w1 ⟨r, rfl, hr, hb1⟩
  have hB1 : Below w.heap.size w w1 := hB0.trans (hb1.mono hB0.size)
  have HX1 := hide (HX0.out.below hb1 xl0)
  have xl1 : XB < w1.heap.size := HX1.out.lt
  clear hb1 cx HX0 nD hB0 xl0
  by_cases hneg : r < 0
  · clear hr
    go_wp2_with fail
    go_ret
    exact ⟨rfl, hB1⟩
  obtain ⟨r0, r1, hDl⟩ := hr.resolve_left hneg
  have HDl := hide hDl
  clear hr hDl
  go_wp2_with fail
  refine Calls.mono (szPatSS_any q0 j0 L r _ NQ.out HQ.out hB1 r0 r1) ?_
  rintro r' w1z ⟨r', rfl, hr, hbz⟩
  have hBz : Below w.heap.size w w1z := hB1.trans (hbz.mono hB1.size)
  have HXz := hide (HX1.out.below hbz xl1)
  have xlz : XB < w1z.heap.size := HXz.out.lt
  clear hbz HX1 hB1 xl1 r0 r1 hneg
  by_cases hneg : r' < 0
  · clear hr
    go_wp2_with fail
    go_ret
    exact ⟨rfl, hBz⟩
  have hQF := hr.resolve_left hneg
  have HQF := hide hQF
  clear hr hQF
  have hB1 := hBz
  have HX1 := HXz
  have xl1 := xlz
  clear hBz HXz xlz
  have HT := hide (fun (w' : World) (hb : Below w.heap.size w w') => toData_row (.agg #[.slice ad D.length c]) D w' ⟨ad, c, rfl, RRow.below HR.out hb, HDl.out⟩)
  have HT0 := hide (fun (w' : World) (hb : Below w.heap.size w w') => toPatSS_v (.slice q0 L.length j0) L w' ⟨q0, j0, rfl, QRow.below HQ.out hb, HQF.out⟩)
  have HS := hide (fun (vd : Value) (x0 : Value) (w' : World) (hd : DRow w' vd D) (h0 : QV w' x0 L) => specGoodR_any vd D x0 L w' hd h0)
  have HI := hide (fun (vd : Value) (x0 : Value) (w' : World) (hd : DRow w' vd D) (h0 : QV w' x0 L) => implGoodR_any vd D x0 L w' hd h0)
  obtain ⟨G, hG⟩ : ∃ G, G = goodR D L := ⟨_, rfl⟩
  rw [← hG] at HS HI
  clear hG
  clear HR
  have HBX1 := HX1
  clear HX1
  have cX := HBX1.out.c
  have lX := HBX1.out.lt
  go_wp2_with fail
  clear cX lX
  refine Calls.mono (HT.out _ hB1) ?_
  rintro r w11 ⟨vs, rfl, hds, hbc⟩
  have hB11 : Below w.heap.size w w11 := hB1.trans (hbc.mono hB1.size)
  have HBX11 := hide (HBX1.out.below hbc HBX1.out.lt)
  clear hbc hB1 HBX1
  have HDs := hide hds
  obtain ⟨sa, sc, rfl, -, -⟩ := hds
  go_wp2_with fail
  refine Calls.mono (HT0.out _ hB11) ?_
  rintro r w12 ⟨vs0, rfl, hs0, hbc⟩
  have hB12 : Below w.heap.size w w12 := hB11.trans (hbc.mono hB11.size)
  have HBX12 := hide (HBX11.out.below hbc HBX11.out.lt)
  have HDsn := hide (HDs.out.below hbc)
  clear HDs
  have HDs := HDsn
  clear HDsn
  clear hbc hB11 HBX11
  have HSs0 := hide hs0
  obtain ⟨as0, cs0, rfl, -, -⟩ := hs0
  go_wp2_with fail
  refine Calls.mono (HS.out _ _ _ HDs.out HSs0.out) ?_
  rintro r w13 ⟨rfl, hbc⟩
  have hB13 : Below w.heap.size w w13 := hB12.trans (hbc.mono hB12.size)
  have HBX13 := hide (HBX12.out.below hbc HBX12.out.lt)
  clear hbc hB12 HBX12
  clear HS HDs HSs0
  have cX := HBX13.out.c
  have lX := HBX13.out.lt
  go_wp2_with fail
  clear cX lX
  refine Calls.mono (HT.out _ hB13) ?_
  rintro r w14 ⟨vx, rfl, hdx, hbc⟩
  have hB14 : Below w.heap.size w w14 := hB13.trans (hbc.mono hB13.size)
  have HBX14 := hide (HBX13.out.below hbc HBX13.out.lt)
  clear hbc hB13 HBX13
  have HDx := hide hdx
  obtain ⟨ax, cx, rfl, -, -⟩ := hdx
  have hBy : Below w.heap.size w (w14.alloc (.cells #[.slice ax D.length cx] 27)) := hB14.alloc hB14.size _
  have HBYy := hide (Bx.new w14 #[.slice ax D.length cx] 27)
  have HBXy := hide (HBX14.out.alloc (.cells #[.slice ax D.length cx] 27))
  have HDxn := hide (HDx.out.below (w' := w14.alloc (.cells #[.slice ax D.length cx] 27)) ((Below.refl _ _).alloc (Nat.le_refl _) _))
  go_upto_region 10 with fail
  obtain ⟨wy, hwy⟩ : ∃ wy, wy = w14.alloc (.cells #[.slice ax D.length cx] 27) := ⟨_, rfl⟩
  obtain ⟨YB, hYB⟩ : ∃ YB, YB = w14.heap.size := ⟨_, rfl⟩
  rw [← hwy] at hBy HBYy HBXy HDxn ⊢
  rw [← hYB] at HBYy ⊢
  clear hwy hYB hB14 HBX14 HDx
  have HDx := HDxn
  clear HDxn
  go_wp2_with fail
  refine Calls.mono (HT0.out _ hBy) ?_
  rintro r w15 ⟨vx0, rfl, hx0, hbc⟩
  have hB15 : Below w.heap.size w w15 := hBy.trans (hbc.mono hBy.size)
  have HBX15 := hide (HBXy.out.below hbc HBXy.out.lt)
  have HBY15 := hide (HBYy.out.below hbc HBYy.out.lt)
  have HDxn := hide (HDx.out.below hbc)
  clear HDx
  have HDx := HDxn
  clear HDxn
  clear hbc hBy HBXy HBYy
  have HXx0 := hide hx0
  obtain ⟨ax0, cx0, rfl, -, -⟩ := hx0
  have cX := HBX15.out.c
  have lX := HBX15.out.lt
  have cY := HBY15.out.c
  have lY := HBY15.out.lt
  go_wp2_with fail
  clear cX lX cY lY
  refine Calls.mono (HI.out _ _ _ HDx.out HXx0.out) ?_
  rintro r w16 ⟨rfl, hbc⟩
  have hB16 : Below w.heap.size w w16 := hB15.trans (hbc.mono hB15.size)
  have HBX16 := hide (HBX15.out.below hbc HBX15.out.lt)
  have HBY16 := hide (HBY15.out.below hbc HBY15.out.lt)
  have HDxn := hide (HDx.out.below hbc)
  clear HDx
  have HDx := HDxn
  clear HDxn
  have HXx0n := hide (HXx0.out.below hbc)
  clear HXx0
  have HXx0 := HXx0n
  clear HXx0n
  clear hbc hB15 HBX15 HBY15
  clear HI
  go_wp2_with fail
  have HZXB := HBX16
  have HZYB := HBY16
  have xl6 : XB < w16.heap.size := HZXB.out.lt
  have yl6 : YB < w16.heap.size := HZYB.out.lt
  have HB6d : Hid (Below w.heap.size w w16.drew) := hide (belowDrew8 hB16)
  clear HBX16 HBY16
  have b0 : w16.cell? ⟨XB, 0, none⟩ = some (.slice ad D.length c) := HZXB.out.c 0
  have b1 : w16.cell? ⟨YB, 0, none⟩ = some (.slice ax D.length cx) := HZYB.out.c 0
  refine wp_region_noPanic ?_
  refine wp_region_held_drew (S := fun w' => w'.cell? ⟨XB, 0, none⟩ = some (.slice ad D.length c) ∧ w'.cell? ⟨YB, 0, none⟩ = some (.slice ax D.length cx)) (by kernel_rfl) ⟨b0, b1⟩ (fun hHeld => ?_)
  refine wpAnyH_take (i := 0) (oi := _) (v := ?_) rfl (by kernel_rfl) (by kernel_rfl) (by kernel_rfl) (fun _ _ _ h => h) (Or.inl ⟨by rfl, ?_⟩) (by assumption) ?_
  rotate_left 1
  · (intro w hSw; (try dsimp only at hSw); (first | (go_simp; done) | (go_simp; with_reducible rfl)))
  try simp only [Act.put, List.getElem_toArray, List.getElem_cons_zero, List.getElem_cons_succ, List.setIfInBounds_toArray, List.set_cons_zero, List.set_cons_succ]
  refine wpAnyH_take (i := 1) (oi := _) (v := ?_) rfl (by kernel_rfl) (by kernel_rfl) (by kernel_rfl) (fun _ _ _ h => h) (Or.inl ⟨by rfl, ?_⟩) (by assumption) ?_
  rotate_left 1
  · (intro w hSw; (try dsimp only at hSw); (first | (go_simp; done) | (go_simp; with_reducible rfl)))
  try simp only [Act.put, List.getElem_toArray, List.getElem_cons_zero, List.getElem_cons_succ, List.setIfInBounds_toArray, List.set_cons_zero, List.set_cons_succ]
  refine wpAnyH_ready (rs := [2]) (by kernel_rfl) (by simp) ?_
  refine AllReadyH.cons (o := _) rfl (fun K hK => ?_) AllReadyH.nil
  go_simp
  (with_reducible refine Calls.mono (HT.out _ HB6d.out) ?_)
  rintro r w7 ⟨v7, rfl, hd7, hb7⟩
  have HB7 := hide (HB6d.out.trans (hb7.mono HB6d.out.size))
  have HD7 := hide hd7
  have HDx7 := hide (HDx.out.below (w := w16.drew) hb7)
  have HXx07 := hide (HXx0.out.below (w := w16.drew) hb7)
  have e0 := (hb7.cell (p := ⟨XB, 0, none⟩) xl6).trans b0
  have e1 := (hb7.cell (p := ⟨YB, 0, none⟩) yl6).trans b1
  have xl7 : XB < w7.heap.size := Nat.lt_of_lt_of_le xl6 hb7.size
  have yl7 : YB < w7.heap.size := Nat.lt_of_lt_of_le yl6 hb7.size
  clear hb7 HDx HXx0
  obtain ⟨a7, c7, rfl, -, -⟩ := hd7
  (try go_wp2_with fail)
  refine hK.out _ _ ⟨e0, e1⟩ (fun hHeld => ?_)
  clear hK K
  try simp only [Act.put, List.getElem_toArray, List.getElem_cons_zero, List.getElem_cons_succ, List.setIfInBounds_toArray, List.set_cons_zero, List.set_cons_succ]
  refine wpAnyH_ready (rs := [3]) (by kernel_rfl) (by simp) ?_
  refine AllReadyH.cons (o := _) rfl (fun K hK => ?_) AllReadyH.nil
  go_simp
  (with_reducible refine Calls.mono (eqData_row _ _ D _ HDx7.out HD7.out) ?_)
  rintro r w8 ⟨rfl, hb8⟩
  have HB8 := hide (HB7.out.trans (hb8.mono HB7.out.size))
  have HXx08 := hide (HXx07.out.below hb8)
  have g0 := (hb8.cell (p := ⟨XB, 0, none⟩) xl7).trans e0
  have g1 := (hb8.cell (p := ⟨YB, 0, none⟩) yl7).trans e1
  clear hb8 HDx7 HXx07 HD7
  (try go_wp2_with fail)
  refine hK.out _ _ ⟨g0, g1⟩ (fun hHeld => ?_)
  clear hK K
  try simp only [Act.put, List.getElem_toArray, List.getElem_cons_zero, List.getElem_cons_succ, List.setIfInBounds_toArray, List.set_cons_zero, List.set_cons_succ]
  refine wpAnyH_take (i := 4) (oi := _) (v := ?_) rfl (by kernel_rfl) (by kernel_rfl) (by kernel_rfl) (fun _ _ _ h => h) (Or.inl ⟨by rfl, ?_⟩) (by assumption) ?_
  rotate_left 1
  · (intro w hSw; (try dsimp only at hSw); (first | (go_simp; done) | (go_simp; with_reducible rfl)))
  try simp only [Act.put, List.getElem_toArray, List.getElem_cons_zero, List.getElem_cons_succ, List.setIfInBounds_toArray, List.set_cons_zero, List.set_cons_succ]
  refine wpAnyH_done (by kernel_rfl) ?_ _
  refine NoPanic.normal ?_
  have hB8 := HB8.out
  clear b0 b1 e0 e1 g0 g1 HZXB HZYB xl6 yl6 xl7 yl7 HB6d HB7 HB8 hB16
  go_wp2_with fail
  refine Calls.mono (HT0.out _ hB8) ?_
  rintro r w31 ⟨vz0, rfl, hz0, hbc⟩
  have hB31 : Below w.heap.size w w31 := hB8.trans (hbc.mono hB8.size)
  have HXx08n := hide (HXx08.out.below hbc)
  clear HXx08
  have HXx08 := HXx08n
  clear HXx08n
  clear hbc hB8 
  have HZz0 := hide hz0
  obtain ⟨az0, cz0, rfl, -, -⟩ := hz0
  go_wp2_with fail
  refine Calls.mono (eqPatSS_v _ _ L _ HXx08.out HZz0.out) ?_
  rintro r w32 ⟨rfl, hbc⟩
  have hB32 : Below w.heap.size w w32 := hB31.trans (hbc.mono hB31.size)
  clear hbc hB31 
  clear HXx08 HZz0
  go_wp2_with fail
  go_ret
  exact ⟨rfl, hB32⟩

set_option maxRecDepth 100000 in
theorem lifted (os : Os) (started : os.Started) (H : Type) (enc : TypeId × Value → H) :
    ReturnsInHanded {} Try.checked os 4 .any (Rows.fnExactGoodRulesSpec.pre6 enc Try.prog Try.f4 Rows.fnExactGoodRulesRow.domain false) (Rows.fnExactGoodRulesSpec.post enc Try.prog Try.f4 false true false false) := by
  refine returnsInHanded_of_change (C := Try.checked) own started (by kernel_rfl) Try.func4
    (ChangeSpec.witness6 (enc := enc) (C := Try.checked) false ⟨#[], #[.agg #[.slice none 0 0], .slice none 0 0], []⟩ 8 (by kernel_rfl) (by kernel_rfl) (by kernel_rfl) (by kernel_rfl)) ?_
  intro W base args ds gs before hval0 hW hcnd _
  have hval : ∀ (j : Nat) t v, Try.f4.params[j]? = some t → args[j]? = some v → Value.okWide Try.prog W .any base t v := hval0
  have hW' := hW
  obtain ⟨p, q, hA0, hV, rfl, hfz, hnd⟩ := hW
  have hA : DataW.TrodAll enc Try.prog W 0 (fun _ => true) true Try.f4.params.toList args.toList ds p := hA0
  rw [Try.params4] at hA hval
  obtain ⟨v0, vs0, d0, ds0, p0, q0, hargs, rfl, rfl, h0, r0⟩ := trodAll_cons hA
  obtain ⟨v1, vs1, d1, ds1, p1, q1, rfl, rfl, rfl, h1, r1⟩ := trodAll_cons r0
  obtain ⟨rfl, rfl, rfl⟩ := trodAll_nil r1
  obtain rfl : args = #[v0, v1] := by cases args; simp_all
  obtain ⟨rfl, rfl⟩ := trodVars_none hV
  have k0' := h0
  have k1' := h1
  have lt0 : ∀ x ∈ p0, x.block < W.heap.size := by obtain ⟨m, hm⟩ := k0'; exact DataW.trod_lt m _ _ _ hm
  have lt1 : ∀ x ∈ p1, x.block < W.heap.size := by obtain ⟨m, hm⟩ := k1'; exact DataW.trod_lt m _ _ _ hm
  obtain ⟨D, ad, c, rfl, hD, nD⟩ := open_data (hval 0 24 v0 rfl rfl) h0
  obtain ⟨q0, m0, j0, rfl⟩ := okWide_slice Try.underlying31 (hval 1 31 v1 rfl rfl)
  obtain ⟨fuel1, hf1⟩ := h1
  obtain ⟨L, rfl, nq, hq⟩ := open_QRow hf1
  clear hA0 hval0
  refine (walk ad c D q0 j0 L W hD nD hq nq).mono fun e W' ⟨he, bel⟩ => ?_
  subst he
  exact ⟨_, rfl, _, _, _, [], _, [], hW', trodAll_mk1 (shut_bool Try.underlying4 _), (trodAll_cons_mk (Below.trod laidOut (by kernel_rfl) (of_decide_eq_true (by kernel_rfl)) k0' bel lt0) (trodAll_cons_mk (Below.trod laidOut (by kernel_rfl) (of_decide_eq_true (by kernel_rfl)) k1' bel lt1) trodAll_mk0)), rfl, bel.frame _, fun h => by cases h⟩

theorem over : Rows.fnExactGoodRulesRow.holds Try.pinned (OpenSpec.ofChange Rows.fnExactGoodRulesSpec) :=
  OpenClaim.holds_of_wide 4 Try.f4 rfl rfl rfl rfl rfl rfl rfl ⟨rfl, rfl, rfl, rfl, rfl⟩ rfl rfl rfl rfl rfl (by kernel_rfl) Try.func4 (by kernel_rfl)
    (of_decide_eq_true (by kernel_rfl)) (by unfold Func.isWrapper; first | (rw [if_pos (by decide +kernel)]; kernel_rfl) | (rw [if_neg (by decide +kernel)]; exact ⟨rfl, rfl⟩))
    (fun os started H enc _ => lifted os started H enc)
end Go.Proofs.Ytfepljcblajfpaa.fnExactGoodRules

namespace Go.Proofs.Ytfepljcblajfpaa
theorem fnExactGoodRules_holds : Rows.FnExactGoodRulesSaid := fnExactGoodRules.over
#print axioms fnExactGoodRules_holds
end Go.Proofs.Ytfepljcblajfpaa

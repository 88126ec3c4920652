/-
  Proved: whatever the data, the rules, the numbers, the memory and the schedule, the law FnExactFirstMatch returns true, and its arguments read afterwards as they read before: FirstMatch of the program tells what the specification's tells. No conditions. Written by wip/build/mk_law8.py.
-/
import Derived.Test.YtfepljcblajfpaaPaZ
import Derived.Deep.RegionHeld3
import Derived.Deep.RegionLaw
import Derived.Deep.AppendLies
import Derived.Deep.CutRange
import Derived.Lib.SmallJoins
import Derived.ChangeOld
import Derived.Below
namespace Go.Proofs.Ytfepljcblajfpaa.fnExactFirstMatch
open Go.ChangeShapes Go.WideShapes Go.ChangeAt Go.RowKit
open Go.Proofs.Ytfepljcblajfpaa.W Go.Joins
set_option linter.unusedVariables false
set_option linter.unusedSimpArgs false

theorem own : ownKnob Try.prog.godebug = none := by kernel_rfl
theorem laidOut : laidOutB Try.prog = true := by kernel_rfl

set_option maxRecDepth 20000 in
set_option maxHeartbeats 8000000 in
theorem walk (ad : Option Addr) (c : Nat) (D : List Int) (q0 : Option Addr) (j0 : Nat) (L : List (List Pt)) (e0 : Option Addr) (k0 : Nat) (v : List Int) (w : World) (hD : IRow w ad D) (nD : D.length ≤ maxLen) (hq : QRow w q0 L) (nq : QFit L) (hv : IRow w e0 v) (nv : v.length ≤ maxLen) :
    Calls Try.prog 6 #[.agg #[.slice ad D.length c], .slice q0 L.length j0, .slice e0 v.length k0] w fun r w' => r = .returned (.bool true) ∧ Below w.heap.size w w' := by
  have HR := hide hD
  clear hD
  have HQ := hide hq
  have NQ := hide nq
  clear hq nq
  have HV := hide hv
  clear hv
  go_enter Try.func6, Try.ntmps6
  go_upto_region 1 with fail
  have HX0 := hide (Bx.new w #[.slice ad D.length c] 24)
  have hB0 : Below w.heap.size w (w.alloc (.cells #[.slice ad D.length c] 24)) := (Below.refl _ _).alloc (Nat.le_refl _) _
  obtain ⟨w0, hw0⟩ : ∃ w0, w0 = w.alloc (.cells #[.slice ad D.length c] 24) := ⟨_, rfl⟩
  obtain ⟨XB, hXB⟩ : ∃ XB, XB = w.heap.size := ⟨_, rfl⟩
  rw [← hw0] at HX0 hB0 ⊢
  rw [← hXB] at HX0 ⊢
  have xl0 : XB < w0.heap.size := HX0.out.lt
  clear hw0 hXB
  have cx := HX0.out.c
  have nv2 : (v.length : Int) ≤ 9223372036854775807 := by unfold maxLen at nv; omega
  by_cases hbig : (1048576 : Int) < (v.length : Int)
  · go_wp2_with fail
    go_ret
    exact ⟨rfl, hB0⟩
  have hv6 : v.length ≤ 1048576 := by omega
  have HV6 := hide hv6
  clear nv nv2 hv6
  go_wp2_with fail
  refine Calls.mono (szData_any ad c D.length 1048576 _ nD (by omega) (by omega)) ?_
  rintro r w1 ⟨r, rfl, hr, hb1⟩
  have hB1 : Below w.heap.size w w1 := hB0.trans (hb1.mono hB0.size)
  have HX1 := hide (HX0.out.below hb1 xl0)
  have xl1 : XB < w1.heap.size := HX1.out.lt
  clear hb1 cx HX0 nD hB0 xl0
  by_cases hneg : r < 0
  · clear hr
    go_wp2_with fail
    go_ret
    exact ⟨rfl, hB1⟩
  obtain ⟨r0, r1, hDl⟩ := hr.resolve_left hneg
  have HDl := hide hDl
  clear hr hDl
  go_wp2_with fail
  refine Calls.mono (szPatSS_any q0 j0 L r _ NQ.out HQ.out hB1 r0 r1) ?_
  rintro r' w1z ⟨r', rfl, hr, hbz⟩
  have hBz : Below w.heap.size w w1z := hB1.trans (hbz.mono hB1.size)
  have HXz := hide (HX1.out.below hbz xl1)
  have xlz : XB < w1z.heap.size := HXz.out.lt
  clear hbz HX1 hB1 xl1 r0 r1 hneg
  by_cases hneg : r' < 0
  · clear hr
    go_wp2_with fail
    go_ret
    exact ⟨rfl, hBz⟩
  have hQF := hr.resolve_left hneg
  have HQF := hide hQF
  clear hr hQF
  have hB1 := hBz
  have HX1 := HXz
  have xl1 := xlz
  clear hBz HXz xlz
  have HT := hide (fun (w' : World) (hb : Below w.heap.size w w') => toData_row (.agg #[.slice ad D.length c]) D w' ⟨ad, c, rfl, RRow.below HR.out hb, HDl.out⟩)
  have HT0 := hide (fun (w' : World) (hb : Below w.heap.size w w') => toPatSS_v (.slice q0 L.length j0) L w' ⟨q0, j0, rfl, QRow.below HQ.out hb, HQF.out⟩)
  have HT1 := hide (fun (w' : World) (hb : Below w.heap.size w w') => toIntS_v (.slice e0 v.length k0) v w' ⟨e0, k0, rfl, RRow.below HV.out hb, HV6.out⟩)
  have HS := hide (fun (vd : Value) (x0 x1 : Value) (w' : World) (hd : DRow w' vd D) (h0 : QV w' x0 L) (h1 : IV w' x1 v) => specFirst_any vd D x0 L x1 v w' hd h0 h1)
  have HI := hide (fun (vd : Value) (x0 x1 : Value) (w' : World) (hd : DRow w' vd D) (h0 : QV w' x0 L) (h1 : IV w' x1 v) => implFirst_any vd D x0 L x1 v w' hd h0 h1)
  obtain ⟨G1, hG1⟩ : ∃ G1, G1 = (fmR D L v).1 := ⟨_, rfl⟩
  rw [← hG1] at HS HI
  clear hG1
  obtain ⟨G2, hG2⟩ : ∃ G2, G2 = (fmR D L v).2 := ⟨_, rfl⟩
  rw [← hG2] at HS HI
  clear hG2
  clear HR
  have HBX1 := HX1
  clear HX1
  have cX := HBX1.out.c
  have lX := HBX1.out.lt
  go_wp2_with fail
  clear cX lX
  refine Calls.mono (HT.out _ hB1) ?_
  rintro r w11 ⟨vs, rfl, hds, hbc⟩
  have hB11 : Below w.heap.size w w11 := hB1.trans (hbc.mono hB1.size)
  have HBX11 := hide (HBX1.out.below hbc HBX1.out.lt)
  clear hbc hB1 HBX1
  have HDs := hide hds
  obtain ⟨sa, sc, rfl, -, -⟩ := hds
  go_wp2_with fail
  refine Calls.mono (HT0.out _ hB11) ?_
  rintro r w12 ⟨vs0, rfl, hs0, hbc⟩
  have hB12 : Below w.heap.size w w12 := hB11.trans (hbc.mono hB11.size)
  have HBX12 := hide (HBX11.out.below hbc HBX11.out.lt)
  have HDsn := hide (HDs.out.below hbc)
  clear HDs
  have HDs := HDsn
  clear HDsn
  clear hbc hB11 HBX11
  have HSs0 := hide hs0
  obtain ⟨as0, cs0, rfl, -, -⟩ := hs0
  go_wp2_with fail
  refine Calls.mono (HT1.out _ hB12) ?_
  rintro r w13 ⟨vs1, rfl, hs1, hbc⟩
  have hB13 : Below w.heap.size w w13 := hB12.trans (hbc.mono hB12.size)
  have HBX13 := hide (HBX12.out.below hbc HBX12.out.lt)
  have HDsn := hide (HDs.out.below hbc)
  clear HDs
  have HDs := HDsn
  clear HDsn
  have HSs0n := hide (HSs0.out.below hbc)
  clear HSs0
  have HSs0 := HSs0n
  clear HSs0n
  clear hbc hB12 HBX12
  have HSs1 := hide hs1
  obtain ⟨as1, cs1, rfl, -, -⟩ := hs1
  go_wp2_with fail
  refine Calls.mono (HS.out _ _ _ _ HDs.out HSs0.out HSs1.out) ?_
  rintro r w14 ⟨rfl, hbc⟩
  have hB14 : Below w.heap.size w w14 := hB13.trans (hbc.mono hB13.size)
  have HBX14 := hide (HBX13.out.below hbc HBX13.out.lt)
  clear hbc hB13 HBX13
  clear HS HDs HSs0 HSs1
  have cX := HBX14.out.c
  have lX := HBX14.out.lt
  go_wp2_with fail
  clear cX lX
  refine Calls.mono (HT.out _ hB14) ?_
  rintro r w15 ⟨vx, rfl, hdx, hbc⟩
  have hB15 : Below w.heap.size w w15 := hB14.trans (hbc.mono hB14.size)
  have HBX15 := hide (HBX14.out.below hbc HBX14.out.lt)
  clear hbc hB14 HBX14
  have HDx := hide hdx
  obtain ⟨ax, cx, rfl, -, -⟩ := hdx
  have hBy : Below w.heap.size w (w15.alloc (.cells #[.slice ax D.length cx] 27)) := hB15.alloc hB15.size _
  have HBYy := hide (Bx.new w15 #[.slice ax D.length cx] 27)
  have HBXy := hide (HBX15.out.alloc (.cells #[.slice ax D.length cx] 27))
  have HDxn := hide (HDx.out.below (w' := w15.alloc (.cells #[.slice ax D.length cx] 27)) ((Below.refl _ _).alloc (Nat.le_refl _) _))
  go_upto_region 12 with fail
  obtain ⟨wy, hwy⟩ : ∃ wy, wy = w15.alloc (.cells #[.slice ax D.length cx] 27) := ⟨_, rfl⟩
  obtain ⟨YB, hYB⟩ : ∃ YB, YB = w15.heap.size := ⟨_, rfl⟩
  rw [← hwy] at hBy HBYy HBXy HDxn ⊢
  rw [← hYB] at HBYy ⊢
  clear hwy hYB hB15 HBX15 HDx
  have HDx := HDxn
  clear HDxn
  go_wp2_with fail
  refine Calls.mono (HT0.out _ hBy) ?_
  rintro r w16 ⟨vx0, rfl, hx0, hbc⟩
  have hB16 : Below w.heap.size w w16 := hBy.trans (hbc.mono hBy.size)
  have HBX16 := hide (HBXy.out.below hbc HBXy.out.lt)
  have HBY16 := hide (HBYy.out.below hbc HBYy.out.lt)
  have HDxn := hide (HDx.out.below hbc)
  clear HDx
  have HDx := HDxn
  clear HDxn
  clear hbc hBy HBXy HBYy
  have HXx0 := hide hx0
  obtain ⟨ax0, cx0, rfl, -, -⟩ := hx0
  go_wp2_with fail
  refine Calls.mono (HT1.out _ hB16) ?_
  rintro r w17 ⟨vx1, rfl, hx1, hbc⟩
  have hB17 : Below w.heap.size w w17 := hB16.trans (hbc.mono hB16.size)
  have HBX17 := hide (HBX16.out.below hbc HBX16.out.lt)
  have HBY17 := hide (HBY16.out.below hbc HBY16.out.lt)
  have HDxn := hide (HDx.out.below hbc)
  clear HDx
  have HDx := HDxn
  clear HDxn
  have HXx0n := hide (HXx0.out.below hbc)
  clear HXx0
  have HXx0 := HXx0n
  clear HXx0n
  clear hbc hB16 HBX16 HBY16
  have HXx1 := hide hx1
  obtain ⟨ax1, cx1, rfl, -, -⟩ := hx1
  have cX := HBX17.out.c
  have lX := HBX17.out.lt
  have cY := HBY17.out.c
  have lY := HBY17.out.lt
  go_wp2_with fail
  clear cX lX cY lY
  refine Calls.mono (HI.out _ _ _ _ HDx.out HXx0.out HXx1.out) ?_
  rintro r w18 ⟨rfl, hbc⟩
  have hB18 : Below w.heap.size w w18 := hB17.trans (hbc.mono hB17.size)
  have HBX18 := hide (HBX17.out.below hbc HBX17.out.lt)
  have HBY18 := hide (HBY17.out.below hbc HBY17.out.lt)
  have HDxn := hide (HDx.out.below hbc)
  clear HDx
  have HDx := HDxn
  clear HDxn
  have HXx0n := hide (HXx0.out.below hbc)
  clear HXx0
  have HXx0 := HXx0n
  clear HXx0n
  have HXx1n := hide (HXx1.out.below hbc)
  clear HXx1
  have HXx1 := HXx1n
  clear HXx1n
  clear hbc hB17 HBX17 HBY17
  clear HI
  go_wp2_with fail
  have HZXB := HBX18
  have HZYB := HBY18
  have xl6 : XB < w18.heap.size := HZXB.out.lt
  have yl6 : YB < w18.heap.size := HZYB.out.lt
  have HB6d : Hid (Below w.heap.size w w18.drew) := hide (belowDrew8 hB18)
  clear HBX18 HBY18
  have b0 : w18.cell? ⟨XB, 0, none⟩ = some (.slice ad D.length c) := HZXB.out.c 0
  have b1 : w18.cell? ⟨YB, 0, none⟩ = some (.slice ax D.length cx) := HZYB.out.c 0
  refine wp_region_noPanic ?_
  refine wp_region_held_drew (S := fun w' => w'.cell? ⟨XB, 0, none⟩ = some (.slice ad D.length c) ∧ w'.cell? ⟨YB, 0, none⟩ = some (.slice ax D.length cx)) (by kernel_rfl) ⟨b0, b1⟩ (fun hHeld => ?_)
  refine wpAnyH_take (i := 0) (oi := _) (v := ?_) rfl (by kernel_rfl) (by kernel_rfl) (by kernel_rfl) (fun _ _ _ h => h) (Or.inl ⟨by rfl, ?_⟩) (by assumption) ?_
  rotate_left 1
  · (intro w hSw; (try dsimp only at hSw); (first | (go_simp; done) | (go_simp; with_reducible rfl)))
  try simp only [Act.put, List.getElem_toArray, List.getElem_cons_zero, List.getElem_cons_succ, List.setIfInBounds_toArray, List.set_cons_zero, List.set_cons_succ]
  refine wpAnyH_take (i := 1) (oi := _) (v := ?_) rfl (by kernel_rfl) (by kernel_rfl) (by kernel_rfl) (fun _ _ _ h => h) (Or.inl ⟨by rfl, ?_⟩) (by assumption) ?_
  rotate_left 1
  · (intro w hSw; (try dsimp only at hSw); (first | (go_simp; done) | (go_simp; with_reducible rfl)))
  try simp only [Act.put, List.getElem_toArray, List.getElem_cons_zero, List.getElem_cons_succ, List.setIfInBounds_toArray, List.set_cons_zero, List.set_cons_succ]
  refine wpAnyH_ready (rs := [2]) (by kernel_rfl) (by simp) ?_
  refine AllReadyH.cons (o := _) rfl (fun K hK => ?_) AllReadyH.nil
  go_simp
  (with_reducible refine Calls.mono (HT.out _ HB6d.out) ?_)
  rintro r w7 ⟨v7, rfl, hd7, hb7⟩
  have HB7 := hide (HB6d.out.trans (hb7.mono HB6d.out.size))
  have HD7 := hide hd7
  have HDx7 := hide (HDx.out.below (w := w18.drew) hb7)
  have HXx07 := hide (HXx0.out.below (w := w18.drew) hb7)
  have HXx17 := hide (HXx1.out.below (w := w18.drew) hb7)
  have e0 := (hb7.cell (p := ⟨XB, 0, none⟩) xl6).trans b0
  have e1 := (hb7.cell (p := ⟨YB, 0, none⟩) yl6).trans b1
  have xl7 : XB < w7.heap.size := Nat.lt_of_lt_of_le xl6 hb7.size
  have yl7 : YB < w7.heap.size := Nat.lt_of_lt_of_le yl6 hb7.size
  clear hb7 HDx HXx0 HXx1
  obtain ⟨a7, c7, rfl, -, -⟩ := hd7
  (try go_wp2_with fail)
  refine hK.out _ _ ⟨e0, e1⟩ (fun hHeld => ?_)
  clear hK K
  try simp only [Act.put, List.getElem_toArray, List.getElem_cons_zero, List.getElem_cons_succ, List.setIfInBounds_toArray, List.set_cons_zero, List.set_cons_succ]
  refine wpAnyH_ready (rs := [3]) (by kernel_rfl) (by simp) ?_
  refine AllReadyH.cons (o := _) rfl (fun K hK => ?_) AllReadyH.nil
  go_simp
  (with_reducible refine Calls.mono (eqData_row _ _ D _ HDx7.out HD7.out) ?_)
  rintro r w8 ⟨rfl, hb8⟩
  have HB8 := hide (HB7.out.trans (hb8.mono HB7.out.size))
  have HXx08 := hide (HXx07.out.below hb8)
  have HXx18 := hide (HXx17.out.below hb8)
  have g0 := (hb8.cell (p := ⟨XB, 0, none⟩) xl7).trans e0
  have g1 := (hb8.cell (p := ⟨YB, 0, none⟩) yl7).trans e1
  clear hb8 HDx7 HXx07 HXx17 HD7
  (try go_wp2_with fail)
  refine hK.out _ _ ⟨g0, g1⟩ (fun hHeld => ?_)
  clear hK K
  try simp only [Act.put, List.getElem_toArray, List.getElem_cons_zero, List.getElem_cons_succ, List.setIfInBounds_toArray, List.set_cons_zero, List.set_cons_succ]
  refine wpAnyH_take (i := 4) (oi := _) (v := ?_) rfl (by kernel_rfl) (by kernel_rfl) (by kernel_rfl) (fun _ _ _ h => h) (Or.inl ⟨by rfl, ?_⟩) (by assumption) ?_
  rotate_left 1
  · (intro w hSw; (try dsimp only at hSw); (first | (go_simp; done) | (go_simp; with_reducible rfl)))
  try simp only [Act.put, List.getElem_toArray, List.getElem_cons_zero, List.getElem_cons_succ, List.setIfInBounds_toArray, List.set_cons_zero, List.set_cons_succ]
  refine wpAnyH_done (by kernel_rfl) ?_ _
  refine NoPanic.normal ?_
  have hB8 := HB8.out
  clear b0 b1 e0 e1 g0 g1 HZXB HZYB xl6 yl6 xl7 yl7 HB6d HB7 HB8 hB18
  go_wp2_with fail
  refine Calls.mono (HT0.out _ hB8) ?_
  rintro r w31 ⟨vz0, rfl, hz0, hbc⟩
  have hB31 : Below w.heap.size w w31 := hB8.trans (hbc.mono hB8.size)
  have HXx08n := hide (HXx08.out.below hbc)
  clear HXx08
  have HXx08 := HXx08n
  clear HXx08n
  have HXx18n := hide (HXx18.out.below hbc)
  clear HXx18
  have HXx18 := HXx18n
  clear HXx18n
  clear hbc hB8 
  have HZz0 := hide hz0
  obtain ⟨az0, cz0, rfl, -, -⟩ := hz0
  go_wp2_with fail
  refine Calls.mono (eqPatSS_v _ _ L _ HXx08.out HZz0.out) ?_
  rintro r w32 ⟨rfl, hbc⟩
  have hB32 : Below w.heap.size w w32 := hB31.trans (hbc.mono hB31.size)
  have HXx18n := hide (HXx18.out.below hbc)
  clear HXx18
  have HXx18 := HXx18n
  clear HXx18n
  clear hbc hB31 
  clear HXx08 HZz0
  go_wp2_with fail
  refine Calls.mono (HT1.out _ hB32) ?_
  rintro r w33 ⟨vz1, rfl, hz1, hbc⟩
  have hB33 : Below w.heap.size w w33 := hB32.trans (hbc.mono hB32.size)
  have HXx18n := hide (HXx18.out.below hbc)
  clear HXx18
  have HXx18 := HXx18n
  clear HXx18n
  clear hbc hB32 
  have HZz1 := hide hz1
  obtain ⟨az1, cz1, rfl, -, -⟩ := hz1
  go_wp2_with fail
  refine Calls.mono (eqIntS_v _ _ v _ HXx18.out HZz1.out) ?_
  rintro r w34 ⟨rfl, hbc⟩
  have hB34 : Below w.heap.size w w34 := hB33.trans (hbc.mono hB33.size)
  clear hbc hB33 
  clear HXx18 HZz1
  go_wp2_with fail
  go_ret
  exact ⟨rfl, hB34⟩

set_option maxRecDepth 100000 in
theorem lifted (os : Os) (started : os.Started) (H : Type) (enc : TypeId × Value → H) :
    ReturnsInHanded {} Try.checked os 6 .any (Rows.fnExactFirstMatchSpec.pre6 enc Try.prog Try.f6 Rows.fnExactFirstMatchRow.domain false) (Rows.fnExactFirstMatchSpec.post enc Try.prog Try.f6 false true false false) := by
  refine returnsInHanded_of_change (C := Try.checked) own started (by kernel_rfl) Try.func6
    (ChangeSpec.witness6 (enc := enc) (C := Try.checked) false ⟨#[], #[.agg #[.slice none 0 0], .slice none 0 0, .slice none 0 0], []⟩ 8 (by kernel_rfl) (by kernel_rfl) (by kernel_rfl) (by kernel_rfl)) ?_
  intro W base args ds gs before hval0 hW hcnd _
  have hval : ∀ (j : Nat) t v, Try.f6.params[j]? = some t → args[j]? = some v → Value.okWide Try.prog W .any base t v := hval0
  have hW' := hW
  obtain ⟨p, q, hA0, hV, rfl, hfz, hnd⟩ := hW
  have hA : DataW.TrodAll enc Try.prog W 0 (fun _ => true) true Try.f6.params.toList args.toList ds p := hA0
  rw [Try.params6] at hA hval
  obtain ⟨v0, vs0, d0, ds0, p0, q0, hargs, rfl, rfl, h0, r0⟩ := trodAll_cons hA
  obtain ⟨v1, vs1, d1, ds1, p1, q1, rfl, rfl, rfl, h1, r1⟩ := trodAll_cons r0
  obtain ⟨v2, vs2, d2, ds2, p2, q2, rfl, rfl, rfl, h2, r2⟩ := trodAll_cons r1
  obtain ⟨rfl, rfl, rfl⟩ := trodAll_nil r2
  obtain rfl : args = #[v0, v1, v2] := by cases args; simp_all
  obtain ⟨rfl, rfl⟩ := trodVars_none hV
  have k0' := h0
  have k1' := h1
  have k2' := h2
  have lt0 : ∀ x ∈ p0, x.block < W.heap.size := by obtain ⟨m, hm⟩ := k0'; exact DataW.trod_lt m _ _ _ hm
  have lt1 : ∀ x ∈ p1, x.block < W.heap.size := by obtain ⟨m, hm⟩ := k1'; exact DataW.trod_lt m _ _ _ hm
  have lt2 : ∀ x ∈ p2, x.block < W.heap.size := by obtain ⟨m, hm⟩ := k2'; exact DataW.trod_lt m _ _ _ hm
  obtain ⟨D, ad, c, rfl, hD, nD⟩ := open_data (hval 0 24 v0 rfl rfl) h0
  obtain ⟨q0, m0, j0, rfl⟩ := okWide_slice Try.underlying31 (hval 1 31 v1 rfl rfl)
  obtain ⟨fuel1, hf1⟩ := h1
  obtain ⟨L, rfl, nq, hq⟩ := open_QRow hf1
  obtain ⟨e0, n0, k0, rfl⟩ := okWide_slice Try.underlying22 (hval 2 22 v2 rfl rfl)
  obtain ⟨fuel2, hf2⟩ := h2
  obtain ⟨v, rfl, nv, hv⟩ := open_ints hf2
  clear hA0 hval0
  refine (walk ad c D q0 j0 L e0 k0 v W hD nD hq nq hv nv).mono fun e W' ⟨he, bel⟩ => ?_
  subst he
  exact ⟨_, rfl, _, _, _, [], _, [], hW', trodAll_mk1 (shut_bool Try.underlying4 _), (trodAll_cons_mk (Below.trod laidOut (by kernel_rfl) (of_decide_eq_true (by kernel_rfl)) k0' bel lt0) (trodAll_cons_mk (Below.trod laidOut (by kernel_rfl) (of_decide_eq_true (by kernel_rfl)) k1' bel lt1) (trodAll_cons_mk (Below.trod laidOut (by kernel_rfl) (of_decide_eq_true (by kernel_rfl)) k2' bel lt2) trodAll_mk0))), rfl, bel.frame _, fun h => by cases h⟩

theorem over : Rows.fnExactFirstMatchRow.holds Try.pinned (OpenSpec.ofChange Rows.fnExactFirstMatchSpec) :=
  OpenClaim.holds_of_wide 6 Try.f6 rfl rfl rfl rfl rfl rfl rfl ⟨rfl, rfl, rfl, rfl, rfl⟩ rfl rfl rfl rfl rfl (by kernel_rfl) Try.func6 (by kernel_rfl)
    (of_decide_eq_true (by kernel_rfl)) (by unfold Func.isWrapper; first | (rw [if_pos (by decide +kernel)]; kernel_rfl) | (rw [if_neg (by decide +kernel)]; exact ⟨rfl, rfl⟩))
    (fun os started H enc _ => lifted os started H enc)
end Go.Proofs.Ytfepljcblajfpaa.fnExactFirstMatch

namespace Go.Proofs.Ytfepljcblajfpaa
theorem fnExactFirstMatch_holds : Rows.FnExactFirstMatchSaid := fnExactFirstMatch.over
#print axioms fnExactFirstMatch_holds
end Go.Proofs.Ytfepljcblajfpaa

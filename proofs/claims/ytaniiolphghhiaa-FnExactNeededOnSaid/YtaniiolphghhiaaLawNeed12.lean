/-
  Proved: whatever the arguments, the memory and the schedule, the law FnExactNeededOn returns true, and its arguments read afterwards as they read before: NeededOn of the program tells what the specification's tells. No conditions. Written by wip/build/mk_lawf.py.
-/
import Derived.Test.YtaniiolphghhiaaLvNe
import Derived.Test.YtaniiolphghhiaaLvNs
import Derived.Test.YtaniiolphghhiaaLvW
import Derived.Deep.RegionHeld3
import Derived.Deep.RegionLaw
import Derived.Deep.AppendLies
import Derived.Deep.CutRange
import Derived.Lib.SmallJoins
import Derived.ChangeOld
import Derived.Below
namespace Go.Proofs.Ytaniiolphghhiaa.fnExactNeededOn
open Go.ChangeShapes Go.WideShapes Go.ChangeAt Go.RowKit
open Go.Proofs.Ytaniiolphghhiaa.W Go.Joins
set_option linter.unusedVariables false
set_option linter.unusedSimpArgs false

theorem own : ownKnob Try.prog.godebug = none := by kernel_rfl
theorem laidOut : laidOutB Try.prog = true := by kernel_rfl

set_option maxRecDepth 20000 in
set_option maxHeartbeats 8000000 in
theorem walk (ad : Option Addr) (c : Nat) (D : List (List Int)) (bd : Option Addr) (bc n : Nat) (F : List (List Int)) (als : Option Addr) (cls : Nat) (ls : List Int) (n1 : Int) (w : World) (hD : QRow w ad D) (nD : QFit D) (hlc : D.length ≤ c) (hBl : QRow w bd F) (nF : FFit n F) (hnb : n ≤ bc) (hF : F.length = 2 * n) (hls : IRow w als ls) (nls : ls.length ≤ maxLen) :
    Calls Try.prog 6 #[.agg #[.slice ad D.length c, .slice bd n bc], .slice als ls.length cls, .int .i64 n1] w fun r w' => r = .returned (.bool true) ∧ Below w.heap.size w w' := by
  have HR := hide hD
  have HRF := hide hBl
  have HFl := hide hF
  clear hD hBl
  have HRls := hide hls
  have mls : (ls.length : Int) ≤ 9223372036854775807 := by unfold maxLen at nls; omega
  clear hls nls
  go_enter Try.func6, Try.ntmps6
  go_upto_region 1 with fail
  have HBX := hide (Bx.new w #[.slice ad D.length c, .slice bd n bc] 27)
  have hB : Below w.heap.size w (w.alloc (.cells #[.slice ad D.length c, .slice bd n bc] 27)) := (Below.refl _ _).alloc (Nat.le_refl _) _
  obtain ⟨w0, hw0⟩ : ∃ w0, w0 = w.alloc (.cells #[.slice ad D.length c, .slice bd n bc] 27) := ⟨_, rfl⟩
  obtain ⟨XB, hXB⟩ : ∃ XB, XB = w.heap.size := ⟨_, rfl⟩
  rw [← hw0] at HBX hB ⊢
  rw [← hXB] at HBX ⊢
  have hXw : w.heap.size ≤ XB := by omega
  clear hw0 hXB
  have cX := HBX.out.c
  by_cases bigls : (1048576 : Int) < (ls.length : Int)
  · go_wp2_with fail
    go_ret
    exact ⟨rfl, hB⟩
  have HLls : Hid (ls.length ≤ 1048576) := hide (by omega)
  go_wp2_with fail
  refine Calls.mono (szFlow_any ad c D bd bc n F 1048576 nD HR.out nF HFl.out HRF.out (by omega) (by omega) _ hB) ?_
  rintro r w1 ⟨r, rfl, hr, hbc⟩
  replace HBX := hide (HBX.out.below hbc HBX.out.lt)
  replace hB := hB.trans (hbc.mono hB.size)
  clear hbc
  clear cX nD nF mls
  by_cases hneg : r < 0
  · clear hr
    go_wp2_with fail
    go_ret
    exact ⟨rfl, hB⟩
  obtain ⟨hQF, hsm⟩ := hr.resolve_left hneg
  clear hr
  have HQF := hide hQF
  have HSm := hide hsm
  have HT := hide (fun (w' : World) (hb : Below w.heap.size w w') => toFlow_x (.agg #[.slice ad D.length c, .slice bd n bc]) D n F w' ⟨ad, c, bd, bc, rfl, QRow.below HR.out hb, hQF, hlc, QRow.below HRF.out hb, hsm, hnb, hF⟩)
  have HTls : Hid (∀ (w' : World), Below w.heap.size w w' → Calls Try.prog 23 #[.slice als ls.length cls] w' fun e w'' => ∃ g, e = .returned (.slice (some ⟨g, 0, none⟩) ls.length ls.length) ∧ w'.heap.size ≤ g ∧ IBlk w'' g ls ∧ Below w'.heap.size w' w'') := hide (fun w' hb => (toIntS_any als cls ls w' HLls.out (RRow.below HRls.out hb)).mono (fun e w'' h => ⟨_, h.1, Nat.le_refl _, h.2.1, h.2.2⟩))
  have HQls : Hid (∀ (w' : World) (g1 g2 : Nat), IBlk w' g1 ls → IBlk w' g2 ls → Calls Try.prog 25 #[.slice (some ⟨g1, 0, none⟩) ls.length ls.length, .slice (some ⟨g2, 0, none⟩) ls.length ls.length] w' fun e w'' => e = .returned (.bool true) ∧ Below w'.heap.size w' w'') := hide (fun w' g1 g2 h1 h2 => eqIntS_v _ _ ls _ ⟨_, _, rfl, h1.row, HLls.out⟩ ⟨_, _, rfl, h2.row, HLls.out⟩)
  have HS := hide (fun (vd vls : Value) (w' : World) (hd : FRow w' vd D n F) (hvls : NV w' vls ls) => specNeed_any vd vls D n F ls n1 w' hd hvls HLls.out)
  have HI := hide (fun (vd vls : Value) (w' : World) (hd : FRow w' vd D n F) (hvls : NV w' vls ls) => implNeed_any vd vls D n F ls n1 w' hd hvls HLls.out)
  have HDr : Hid (∀ (w' : World) (g b : Nat), FX w' g b D F → FRow w' (.agg #[.slice (some ⟨g, 0, none⟩) D.length D.length, .slice (some ⟨b, 0, none⟩) n n]) D n F) := hide (fun w' g b h => FRow.made h.1 h.2 hQF hsm hF)
  obtain ⟨B0, hB0⟩ : ∃ B0, B0 = neR D F ls n1 := ⟨_, rfl⟩
  rw [← hB0] at HS HI
  clear hB0
  obtain ⟨B1, hB1⟩ : ∃ B1, B1 = neB D F ls n1 := ⟨_, rfl⟩
  rw [← hB1] at HS HI
  clear hB1 HR HRF hQF hsm HRls 
  have HNvls : Hid (∀ (w' : World) (g : Nat), IBlk w' g ls → NV w' (.slice (some ⟨g, 0, none⟩) ls.length ls.length) ls) := hide (fun w' g h => h.nv)
  obtain ⟨Nls, hNls⟩ : ∃ Nls, Nls = ls.length := ⟨_, rfl⟩
  rw [← hNls] at HTls HQls HNvls ⊢
  clear hNls bigls
  have cX := HBX.out.c
  have lX := HBX.out.lt
  go_wp2_with fail
  clear cX lX
  refine Calls.mono (HT.out _ hB) ?_
  rintro r w2 ⟨gs, bs, rfl, hXd, -, hbc⟩
  have HDs := hide hXd
  clear hXd
  replace HBX := hide (HBX.out.below hbc HBX.out.lt)
  replace hB := hB.trans (hbc.mono hB.size)
  clear hbc
  go_wp2_with fail
  refine Calls.mono (HTls.out _ hB) ?_
  rintro r w3 ⟨gsls, rfl, -, hI, hbc⟩
  have HIsls := hide hI
  clear hI
  replace HBX := hide (HBX.out.below hbc HBX.out.lt)
  replace hB := hB.trans (hbc.mono hB.size)
  replace HDs := hide (HDs.out.below hbc)
  clear hbc
  go_wp2_with fail
  refine Calls.mono (HS.out _ _ _ (HDr.out _ _ _ HDs.out) (HNvls.out _ _ HIsls.out)) ?_
  rintro r w4 ⟨rfl, hbc⟩
  clear HDs HIsls HS
  replace HBX := hide (HBX.out.below hbc HBX.out.lt)
  replace hB := hB.trans (hbc.mono hB.size)
  clear hbc
  have hLo : w4.heap.size ≤ w4.heap.size := Nat.le_refl _
  have hXl : XB < w4.heap.size := HBX.out.lt
  have cX := HBX.out.c
  have lX := HBX.out.lt
  go_wp2_with fail
  clear cX lX
  refine Calls.mono (HT.out _ hB) ?_
  rintro r w5 ⟨gx, bx, rfl, hXd, hm, hbc⟩
  have HXd := hide hXd
  clear hXd hm
  replace HBX := hide (HBX.out.below hbc HBX.out.lt)
  replace hLo := Nat.le_trans hLo hbc.size
  replace hB := hB.trans (hbc.mono hB.size)
  clear hbc
  have hHi : w5.heap.size ≤ w5.heap.size := Nat.le_refl _
  have hbc : Below w5.heap.size w5 (w5.alloc (.cells #[.slice (some ⟨gx, 0, none⟩) D.length D.length, .slice (some ⟨bx, 0, none⟩) n n] 33)) := (Below.refl _ _).alloc (Nat.le_refl _) _
  have HBY := hide (Bx.new w5 #[.slice (some ⟨gx, 0, none⟩) D.length D.length, .slice (some ⟨bx, 0, none⟩) n n] 33)
  replace HBX := hide (HBX.out.below hbc HBX.out.lt)
  replace HXd := hide (FX.below HXd.out hbc)
  replace hLo := Nat.le_trans hLo hbc.size
  replace hHi := Nat.le_trans hHi hbc.size
  replace hB := hB.trans (hbc.mono hB.size)
  clear hbc
  go_upto_region 9 with fail
  obtain ⟨wy, hwy⟩ : ∃ wy, wy = w5.alloc (.cells #[.slice (some ⟨gx, 0, none⟩) D.length D.length, .slice (some ⟨bx, 0, none⟩) n n] 33) := ⟨_, rfl⟩
  obtain ⟨YB, hYB⟩ : ∃ YB, YB = w5.heap.size := ⟨_, rfl⟩
  rw [← hwy] at HBX HXd hLo hHi hB HBY ⊢
  rw [← hYB] at HBY hHi ⊢
  have hYl : YB < wy.heap.size := HBY.out.lt
  clear hwy hYB
  go_wp2_with fail
  refine Calls.mono (HTls.out _ hB) ?_
  rintro r w6 ⟨gpls, rfl, -, hI, hbc⟩
  have HPls := hide hI
  clear hI
  replace HBX := hide (HBX.out.below hbc HBX.out.lt)
  replace HBY := hide (HBY.out.below hbc HBY.out.lt)
  replace HXd := hide (FX.below HXd.out hbc)
  replace hLo := Nat.le_trans hLo hbc.size
  replace hHi := Nat.le_trans hHi hbc.size
  replace hB := hB.trans (hbc.mono hB.size)
  clear hbc
  have cY := HBY.out.c
  have lY := HBY.out.lt
  go_wp2_with fail
  clear cY lY
  refine Calls.mono (HI.out _ _ _ (HDr.out _ _ _ HXd.out) (HNvls.out _ _ HPls.out)) ?_
  rintro r w7 ⟨rfl, hbc⟩
  replace HBX := hide (HBX.out.below hbc HBX.out.lt)
  replace HBY := hide (HBY.out.below hbc HBY.out.lt)
  replace HXd := hide (FX.below HXd.out hbc)
  replace hLo := Nat.le_trans hLo hbc.size
  replace hHi := Nat.le_trans hHi hbc.size
  replace hB := hB.trans (hbc.mono hB.size)
  replace HPls := hide (HPls.out.below hbc)
  clear hbc
  go_wp2_with fail
  have hbc : Below w7.heap.size w7 w7.drew := belowDrew8 (Below.refl _ _)
  have HZXB := HBX
  have HZYB := HBY
  have b0 : w7.cell? ⟨XB, 0, none⟩ = some (.slice ad D.length c) := HZXB.out.c 0
  have b1 : w7.cell? ⟨XB, 1, none⟩ = some (.slice bd n bc) := HZXB.out.c 1
  have b2 : w7.cell? ⟨YB, 0, none⟩ = some (.slice (some ⟨gx, 0, none⟩) D.length D.length) := HZYB.out.c 0
  have b3 : w7.cell? ⟨YB, 1, none⟩ = some (.slice (some ⟨bx, 0, none⟩) n n) := HZYB.out.c 1
  refine wp_region_noPanic ?_
  refine wp_region_held_drew (S := fun w' => w'.cell? ⟨XB, 0, none⟩ = some (.slice ad D.length c) ∧ w'.cell? ⟨XB, 1, none⟩ = some (.slice bd n bc) ∧ w'.cell? ⟨YB, 0, none⟩ = some (.slice (some ⟨gx, 0, none⟩) D.length D.length) ∧ w'.cell? ⟨YB, 1, none⟩ = some (.slice (some ⟨bx, 0, none⟩) n n)) (by kernel_rfl) ⟨b0, b1, b2, b3⟩ (fun hHeld => ?_)
  clear HZXB HZYB
  have xl6 : XB < w7.heap.size := HBX.out.lt
  have yl6 : YB < w7.heap.size := HBY.out.lt
  replace HBX := hide (HBX.out.below hbc HBX.out.lt)
  replace HBY := hide (HBY.out.below hbc HBY.out.lt)
  replace HXd := hide (FX.below HXd.out hbc)
  replace hLo := Nat.le_trans hLo hbc.size
  replace hHi := Nat.le_trans hHi hbc.size
  replace hB := hB.trans (hbc.mono hB.size)
  replace HPls := hide (HPls.out.below hbc)
  clear hbc
  refine wpAnyH_take (i := 0) (oi := _) (v := ?_) rfl (by kernel_rfl) (by kernel_rfl) (by kernel_rfl) (fun _ _ _ h => h) (Or.inl ⟨by rfl, ?_⟩) (by assumption) ?_
  rotate_left 1
  · (intro w hSw; (try dsimp only at hSw); (first | (go_simp; done) | (go_simp; with_reducible rfl)))
  try simp only [Act.put, List.getElem_toArray, List.getElem_cons_zero, List.getElem_cons_succ, List.setIfInBounds_toArray, List.set_cons_zero, List.set_cons_succ]
  refine wpAnyH_take (i := 1) (oi := _) (v := ?_) rfl (by kernel_rfl) (by kernel_rfl) (by kernel_rfl) (fun _ _ _ h => h) (Or.inl ⟨by rfl, ?_⟩) (by assumption) ?_
  rotate_left 1
  · (intro w hSw; (try dsimp only at hSw); (first | (go_simp; done) | (go_simp; with_reducible rfl)))
  try simp only [Act.put, List.getElem_toArray, List.getElem_cons_zero, List.getElem_cons_succ, List.setIfInBounds_toArray, List.set_cons_zero, List.set_cons_succ]
  refine wpAnyH_ready (rs := [2]) (by kernel_rfl) (by simp) ?_
  refine AllReadyH.cons (o := _) rfl (fun K hK => ?_) AllReadyH.nil
  go_simp
  (with_reducible refine Calls.mono (HT.out _ hB) ?_)
  rintro r w8 ⟨g7, b7, rfl, hd7, -, hbc⟩
  have HD7 := hide hd7
  have e0 := (hbc.cell (p := ⟨XB, 0, none⟩) xl6).trans b0
  have e1 := (hbc.cell (p := ⟨XB, 1, none⟩) xl6).trans b1
  have e2 := (hbc.cell (p := ⟨YB, 0, none⟩) yl6).trans b2
  have e3 := (hbc.cell (p := ⟨YB, 1, none⟩) yl6).trans b3
  have xl7 : XB < w8.heap.size := Nat.lt_of_lt_of_le xl6 hbc.size
  have yl7 : YB < w8.heap.size := Nat.lt_of_lt_of_le yl6 hbc.size
  clear hd7
  replace HBX := hide (HBX.out.below hbc HBX.out.lt)
  replace HBY := hide (HBY.out.below hbc HBY.out.lt)
  replace HXd := hide (FX.below HXd.out hbc)
  replace hLo := Nat.le_trans hLo hbc.size
  replace hHi := Nat.le_trans hHi hbc.size
  replace hB := hB.trans (hbc.mono hB.size)
  replace HPls := hide (HPls.out.below hbc)
  clear hbc
  (try go_wp2_with fail)
  refine hK.out _ _ ⟨e0, e1, e2, e3⟩ (fun hHeld => ?_)
  clear hK K
  try simp only [Act.put, List.getElem_toArray, List.getElem_cons_zero, List.getElem_cons_succ, List.setIfInBounds_toArray, List.set_cons_zero, List.set_cons_succ]
  refine wpAnyH_ready (rs := [3]) (by kernel_rfl) (by simp) ?_
  refine AllReadyH.cons (o := _) rfl (fun K hK => ?_) AllReadyH.nil
  go_simp
  (with_reducible refine Calls.mono (eqFlow_row _ _ D n F _ (HDr.out _ _ _ HXd.out) (HDr.out _ _ _ HD7.out)) ?_)
  rintro r w9 ⟨rfl, hbc⟩
  have g0 := (hbc.cell (p := ⟨XB, 0, none⟩) xl7).trans e0
  have g1 := (hbc.cell (p := ⟨XB, 1, none⟩) xl7).trans e1
  have g2 := (hbc.cell (p := ⟨YB, 0, none⟩) yl7).trans e2
  have g3 := (hbc.cell (p := ⟨YB, 1, none⟩) yl7).trans e3
  replace HBX := hide (HBX.out.below hbc HBX.out.lt)
  replace HBY := hide (HBY.out.below hbc HBY.out.lt)
  replace hLo := Nat.le_trans hLo hbc.size
  replace hHi := Nat.le_trans hHi hbc.size
  replace hB := hB.trans (hbc.mono hB.size)
  replace HPls := hide (HPls.out.below hbc)
  clear hbc
  (try go_wp2_with fail)
  refine hK.out _ _ ⟨g0, g1, g2, g3⟩ (fun hHeld => ?_)
  clear hK K
  try simp only [Act.put, List.getElem_toArray, List.getElem_cons_zero, List.getElem_cons_succ, List.setIfInBounds_toArray, List.set_cons_zero, List.set_cons_succ]
  refine wpAnyH_take (i := 4) (oi := _) (v := ?_) rfl (by kernel_rfl) (by kernel_rfl) (by kernel_rfl) (fun _ _ _ h => h) (Or.inl ⟨by rfl, ?_⟩) (by assumption) ?_
  rotate_left 1
  · (intro w hSw; (try dsimp only at hSw); (first | (go_simp; done) | (go_simp; with_reducible rfl)))
  try simp only [Act.put, List.getElem_toArray, List.getElem_cons_zero, List.getElem_cons_succ, List.setIfInBounds_toArray, List.set_cons_zero, List.set_cons_succ]
  refine wpAnyH_done (by kernel_rfl) ?_ _
  refine NoPanic.normal ?_
  clear b0 b1 b2 b3 e0 e1 e2 e3 g0 g1 g2 g3 xl6 yl6 xl7 yl7 HD7 HXd
  go_wp2_with fail
  refine Calls.mono (HTls.out _ hB) ?_
  rintro r w10 ⟨gqls, rfl, -, hI, hbc⟩
  have HI8 := hide hI
  clear hI
  replace HBX := hide (HBX.out.below hbc HBX.out.lt)
  replace HBY := hide (HBY.out.below hbc HBY.out.lt)
  replace hLo := Nat.le_trans hLo hbc.size
  replace hHi := Nat.le_trans hHi hbc.size
  replace hB := hB.trans (hbc.mono hB.size)
  replace HPls := hide (HPls.out.below hbc)
  clear hbc
  go_wp2_with fail
  refine Calls.mono (HQls.out _ _ _ HPls.out HI8.out) ?_
  rintro r w11 ⟨rfl, hbc⟩
  clear HI8
  replace HBX := hide (HBX.out.below hbc HBX.out.lt)
  replace HBY := hide (HBY.out.below hbc HBY.out.lt)
  replace hLo := Nat.le_trans hLo hbc.size
  replace hHi := Nat.le_trans hHi hbc.size
  replace hB := hB.trans (hbc.mono hB.size)
  replace HPls := hide (HPls.out.below hbc)
  clear hbc
  go_wp2_with fail
  go_ret
  exact ⟨rfl, hB⟩

set_option maxRecDepth 100000 in
theorem lifted (os : Os) (started : os.Started) (H : Type) (enc : TypeId × Value → H) :
    ReturnsInHanded {} Try.checked os 6 .any (Rows.fnExactNeededOnSpec.pre6 enc Try.prog Try.f6 Rows.fnExactNeededOnRow.domain false) (Rows.fnExactNeededOnSpec.post enc Try.prog Try.f6 false true false false) := by
  refine returnsInHanded_of_change (C := Try.checked) own started (by kernel_rfl) Try.func6
    (ChangeSpec.witness6 (enc := enc) (C := Try.checked) false ⟨#[], #[.agg #[.slice none 0 0, .slice none 0 0], .slice none 0 0, .int .i64 0], []⟩ 8 (by kernel_rfl) (by kernel_rfl) (by kernel_rfl) (by kernel_rfl)) ?_
  intro W base args ds gs before hval0 hW hcnd _
  have hval : ∀ (j : Nat) t v, Try.f6.params[j]? = some t → args[j]? = some v → Value.okWide Try.prog W .any base t v := hval0
  have hW' := hW
  obtain ⟨p, q, hA0, hV, rfl, hfz, hnd⟩ := hW
  have hA : DataW.TrodAll enc Try.prog W 0 (fun _ => true) true Try.f6.params.toList args.toList ds p := hA0
  rw [Try.params6] at hA hval
  obtain ⟨v0, vs0, d0, ds0, p0, q0, hargs, rfl, rfl, h0, r0⟩ := trodAll_cons hA
  obtain ⟨v1, vs1, d1, ds1, p1, q1, rfl, rfl, rfl, h1, r1⟩ := trodAll_cons r0
  obtain ⟨v2, vs2, d2, ds2, p2, q2, rfl, rfl, rfl, h2, r2⟩ := trodAll_cons r1
  obtain ⟨rfl, rfl, rfl⟩ := trodAll_nil r2
  obtain rfl : args = #[v0, v1, v2] := by cases args; simp_all
  obtain ⟨rfl, rfl⟩ := trodVars_none hV
  have k0' := h0
  have k1' := h1
  have k2' := h2
  have lt0 : ∀ x ∈ p0, x.block < W.heap.size := by obtain ⟨m, hm⟩ := k0'; exact DataW.trod_lt m _ _ _ hm
  have lt1 : ∀ x ∈ p1, x.block < W.heap.size := by obtain ⟨m, hm⟩ := k1'; exact DataW.trod_lt m _ _ _ hm
  have lt2 : ∀ x ∈ p2, x.block < W.heap.size := by obtain ⟨m, hm⟩ := k2'; exact DataW.trod_lt m _ _ _ hm
  obtain ⟨D, ad, c, F, bd, bc, n, rfl, hD, nD, hlc, hBl, nF, hnb, hF⟩ := open_flow (hval 0 27 v0 rfl rfl) h0
  obtain ⟨als, zls, cls, rfl⟩ := okWide_slice Try.underlying42 (hval 1 42 v1 rfl rfl)
  obtain ⟨fuls, hfls⟩ := h1
  obtain ⟨ls, rfl, nls, hls⟩ := open_ints hfls
  obtain ⟨n1, rfl, -, -, -⟩ := open_int Try.underlying3 (hval 2 3 v2 rfl rfl) h2
  clear hA0 hval0
  refine (walk ad c D bd bc n F als cls ls n1 W hD nD hlc hBl nF hnb hF hls nls).mono fun e W' ⟨he, bel⟩ => ?_
  subst he
  exact ⟨_, rfl, _, _, _, [], _, [], hW', trodAll_mk1 (shut_bool Try.underlying4 _), (trodAll_cons_mk (Below.trod laidOut (by kernel_rfl) (of_decide_eq_true (by kernel_rfl)) k0' bel lt0) (trodAll_cons_mk (Below.trod laidOut (by kernel_rfl) (of_decide_eq_true (by kernel_rfl)) k1' bel lt1) (trodAll_cons_mk (Below.trod laidOut (by kernel_rfl) (of_decide_eq_true (by kernel_rfl)) k2' bel lt2) trodAll_mk0))), rfl, bel.frame _, fun h => by cases h⟩

theorem over : Rows.fnExactNeededOnRow.holds Try.pinned (OpenSpec.ofChange Rows.fnExactNeededOnSpec) :=
  OpenClaim.holds_of_wide 6 Try.f6 rfl rfl rfl rfl rfl rfl rfl ⟨rfl, rfl, rfl, rfl, rfl⟩ rfl rfl rfl rfl rfl (by kernel_rfl) Try.func6 (by kernel_rfl)
    (of_decide_eq_true (by kernel_rfl)) (by unfold Func.isWrapper; first | (rw [if_pos (by decide +kernel)]; kernel_rfl) | (rw [if_neg (by decide +kernel)]; exact ⟨rfl, rfl⟩))
    (fun os started H enc _ => lifted os started H enc)
end Go.Proofs.Ytaniiolphghhiaa.fnExactNeededOn

namespace Go.Proofs.Ytaniiolphghhiaa
theorem fnExactNeededOn_holds : Rows.FnExactNeededOnSaid := fnExactNeededOn.over
#print axioms fnExactNeededOn_holds
end Go.Proofs.Ytaniiolphghhiaa

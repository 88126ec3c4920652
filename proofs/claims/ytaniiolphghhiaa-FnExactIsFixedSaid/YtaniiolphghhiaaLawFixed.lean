/-
  Proved: whatever the arguments, the memory and the schedule, the law FnExactIsFixed returns true, and its arguments read afterwards as they read before: IsFixed of the program tells what the specification's tells. No conditions. Written by wip/build/mk_lawf.py.
-/
import Derived.Test.YtaniiolphghhiaaLvP
import Derived.Test.YtaniiolphghhiaaLvWb
import Derived.Test.YtaniiolphghhiaaLvW
import Derived.Deep.RegionHeld3
import Derived.Deep.RegionLaw
import Derived.Deep.AppendLies
import Derived.Deep.CutRange
import Derived.Lib.SmallJoins
import Derived.ChangeOld
import Derived.Below
namespace Go.Proofs.Ytaniiolphghhiaa.fnExactIsFixed
open Go.ChangeShapes Go.WideShapes Go.ChangeAt Go.RowKit
open Go.Proofs.Ytaniiolphghhiaa.W Go.Joins
set_option linter.unusedVariables false
set_option linter.unusedSimpArgs false

theorem own : ownKnob Try.prog.godebug = none := by kernel_rfl
theorem laidOut : laidOutB Try.prog = true := by kernel_rfl

set_option maxRecDepth 20000 in
set_option maxHeartbeats 8000000 in
theorem walk (ad : Option Addr) (c : Nat) (D : List (List Int)) (bd : Option Addr) (bc n : Nat) (F : List (List Int)) (als : Option Addr) (cls : Nat) (ls : List (List Int)) (w : World) (hD : QRow w ad D) (nD : QFit D) (hlc : D.length ≤ c) (hBl : QRow w bd F) (nF : FFit n F) (hnb : n ≤ bc) (hF : F.length = 2 * n) (hls : QRow w als ls) (nls : QFit ls) (lls : ls.length ≤ cls) :
    Calls Try.prog 8 #[.agg #[.slice ad D.length c, .slice bd n bc], .slice als ls.length cls] w fun r w' => r = .returned (.bool true) ∧ Below w.heap.size w w' := by
  have HR := hide hD
  have HRF := hide hBl
  have HFl := hide hF
  clear hD hBl
  have HRls := hide hls
  have HNls := hide nls
  have HLcls := hide lls
  clear hls nls lls
  go_enter Try.func8, Try.ntmps8
  go_upto_region 1 with fail
  have HBX := hide (Bx.new w #[.slice ad D.length c, .slice bd n bc] 27)
  have hB : Below w.heap.size w (w.alloc (.cells #[.slice ad D.length c, .slice bd n bc] 27)) := (Below.refl _ _).alloc (Nat.le_refl _) _
  obtain ⟨w0, hw0⟩ : ∃ w0, w0 = w.alloc (.cells #[.slice ad D.length c, .slice bd n bc] 27) := ⟨_, rfl⟩
  obtain ⟨XB, hXB⟩ : ∃ XB, XB = w.heap.size := ⟨_, rfl⟩
  rw [← hw0] at HBX hB ⊢
  rw [← hXB] at HBX ⊢
  have hXw : w.heap.size ≤ XB := by omega
  clear hw0 hXB
  have cX := HBX.out.c
  go_wp2_with fail
  refine Calls.mono (szFlow_b ad c D bd bc n F 1048576 nD HR.out nF HFl.out HRF.out (by omega) (by omega) _ hB) ?_
  rintro r w1 ⟨r, rfl, hr, hbc⟩
  replace HBX := hide (HBX.out.below hbc HBX.out.lt)
  replace hB := hB.trans (hbc.mono hB.size)
  clear hbc
  clear cX nD nF 
  by_cases hneg : r < 0
  · clear hr
    go_wp2_with fail
    go_ret
    exact ⟨rfl, hB⟩
  obtain ⟨r0, r1, hQF, hsm⟩ := hr.resolve_left hneg
  clear hr
  go_wp2_with fail
  refine Calls.mono (szIntSS_any als cls ls r _ HNls.out HRls.out hB r0 r1) ?_
  rintro q w2 ⟨q, rfl, hr, hbc⟩
  replace HBX := hide (HBX.out.below hbc HBX.out.lt)
  replace hB := hB.trans (hbc.mono hB.size)
  clear hbc
  clear hneg r0 r1
  by_cases hneg : q < 0
  · clear hr
    go_wp2_with fail
    go_ret
    exact ⟨rfl, hB⟩
  have hQls := hr.resolve_left hneg
  clear hr
  have HQF := hide hQF
  have HSm := hide hsm
  have HT := hide (fun (w' : World) (hb : Below w.heap.size w w') => toFlow_x (.agg #[.slice ad D.length c, .slice bd n bc]) D n F w' ⟨ad, c, bd, bc, rfl, QRow.below HR.out hb, hQF, hlc, QRow.below HRF.out hb, hsm, hnb, hF⟩)
  have HTls : Hid (∀ (w' : World), Below w.heap.size w w' → Calls Try.prog 30 #[.slice als ls.length cls] w' fun e w'' => ∃ g, e = .returned (.slice (some ⟨g, 0, none⟩) ls.length ls.length) ∧ w'.heap.size ≤ g ∧ QBlk w'' g ls ∧ Below w'.heap.size w' w'') := hide (fun w' hb => (toIntSS_any als cls ls w' hQls (QRow.below HRls.out hb)).mono (fun e w'' h => ⟨_, h.1, Nat.le_refl _, h.2.1, h.2.2⟩))
  have HQls : Hid (∀ (w' : World) (g1 g2 : Nat), QBlk w' g1 ls → QBlk w' g2 ls → Calls Try.prog 16 #[.slice (some ⟨g1, 0, none⟩) ls.length ls.length, .slice (some ⟨g2, 0, none⟩) ls.length ls.length] w' fun e w'' => e = .returned (.bool true) ∧ Below w'.heap.size w' w'') := hide (fun w' g1 g2 h1 h2 => eqIntSS_v _ _ ls _ ⟨_, _, rfl, h1.row, hQls, Nat.le_refl _⟩ ⟨_, _, rfl, h2.row, hQls, Nat.le_refl _⟩)
  have HLsls := hide hQls
  have HS := hide (fun (vd vls : Value) (w' : World) (hd : FRow w' vd D n F) (hvls : QV w' vls ls) => specFixed_any vd vls D n F ls w' hd hvls)
  have HI := hide (fun (vd vls : Value) (w' : World) (hd : FRow w' vd D n F) (hvls : QV w' vls ls) => implFixed_any vd vls D n F ls w' hd hvls)
  have HDr : Hid (∀ (w' : World) (g b : Nat), FX w' g b D F → FRow w' (.agg #[.slice (some ⟨g, 0, none⟩) D.length D.length, .slice (some ⟨b, 0, none⟩) n n]) D n F) := hide (fun w' g b h => FRow.made h.1 h.2 hQF hsm hF)
  obtain ⟨B0, hB0⟩ : ∃ B0, B0 = fxR D F ls := ⟨_, rfl⟩
  rw [← hB0] at HS HI
  clear hB0
  obtain ⟨B1, hB1⟩ : ∃ B1, B1 = fxB D F ls := ⟨_, rfl⟩
  rw [← hB1] at HS HI
  clear hB1 HR HRF hQF hsm HRls hQls HNls
  have HNvls : Hid (∀ (w' : World) (g : Nat), QBlk w' g ls → QV w' (.slice (some ⟨g, 0, none⟩) ls.length ls.length) ls) := hide (fun w' g h => ⟨_, _, rfl, h.row, HLsls.out, Nat.le_refl _⟩)
  obtain ⟨Nls, hNls⟩ : ∃ Nls, Nls = ls.length := ⟨_, rfl⟩
  rw [← hNls] at HTls HQls HNvls ⊢
  clear hNls
  have cX := HBX.out.c
  have lX := HBX.out.lt
  go_wp2_with fail
  clear cX lX
  refine Calls.mono (HT.out _ hB) ?_
  rintro r w3 ⟨gs, bs, rfl, hXd, -, hbc⟩
  have HDs := hide hXd
  clear hXd
  replace HBX := hide (HBX.out.below hbc HBX.out.lt)
  replace hB := hB.trans (hbc.mono hB.size)
  clear hbc
  go_wp2_with fail
  refine Calls.mono (HTls.out _ hB) ?_
  rintro r w4 ⟨gsls, rfl, -, hI, hbc⟩
  have HIsls := hide hI
  clear hI
  replace HBX := hide (HBX.out.below hbc HBX.out.lt)
  replace hB := hB.trans (hbc.mono hB.size)
  replace HDs := hide (HDs.out.below hbc)
  clear hbc
  go_wp2_with fail
  refine Calls.mono (HS.out _ _ _ (HDr.out _ _ _ HDs.out) (HNvls.out _ _ HIsls.out)) ?_
  rintro r w5 ⟨rfl, hbc⟩
  clear HDs HIsls HS
  replace HBX := hide (HBX.out.below hbc HBX.out.lt)
  replace hB := hB.trans (hbc.mono hB.size)
  clear hbc
  have hLo : w5.heap.size ≤ w5.heap.size := Nat.le_refl _
  have hXl : XB < w5.heap.size := HBX.out.lt
  have cX := HBX.out.c
  have lX := HBX.out.lt
  go_wp2_with fail
  clear cX lX
  refine Calls.mono (HT.out _ hB) ?_
  rintro r w6 ⟨gx, bx, rfl, hXd, hm, hbc⟩
  have HXd := hide hXd
  clear hXd hm
  replace HBX := hide (HBX.out.below hbc HBX.out.lt)
  replace hLo := Nat.le_trans hLo hbc.size
  replace hB := hB.trans (hbc.mono hB.size)
  clear hbc
  have hHi : w6.heap.size ≤ w6.heap.size := Nat.le_refl _
  have hbc : Below w6.heap.size w6 (w6.alloc (.cells #[.slice (some ⟨gx, 0, none⟩) D.length D.length, .slice (some ⟨bx, 0, none⟩) n n] 33)) := (Below.refl _ _).alloc (Nat.le_refl _) _
  have HBY := hide (Bx.new w6 #[.slice (some ⟨gx, 0, none⟩) D.length D.length, .slice (some ⟨bx, 0, none⟩) n n] 33)
  replace HBX := hide (HBX.out.below hbc HBX.out.lt)
  replace HXd := hide (FX.below HXd.out hbc)
  replace hLo := Nat.le_trans hLo hbc.size
  replace hHi := Nat.le_trans hHi hbc.size
  replace hB := hB.trans (hbc.mono hB.size)
  clear hbc
  go_upto_region 8 with fail
  obtain ⟨wy, hwy⟩ : ∃ wy, wy = w6.alloc (.cells #[.slice (some ⟨gx, 0, none⟩) D.length D.length, .slice (some ⟨bx, 0, none⟩) n n] 33) := ⟨_, rfl⟩
  obtain ⟨YB, hYB⟩ : ∃ YB, YB = w6.heap.size := ⟨_, rfl⟩
  rw [← hwy] at HBX HXd hLo hHi hB HBY ⊢
  rw [← hYB] at HBY hHi ⊢
  have hYl : YB < wy.heap.size := HBY.out.lt
  clear hwy hYB
  go_wp2_with fail
  refine Calls.mono (HTls.out _ hB) ?_
  rintro r w7 ⟨gpls, rfl, -, hI, hbc⟩
  have HPls := hide hI
  clear hI
  replace HBX := hide (HBX.out.below hbc HBX.out.lt)
  replace HBY := hide (HBY.out.below hbc HBY.out.lt)
  replace HXd := hide (FX.below HXd.out hbc)
  replace hLo := Nat.le_trans hLo hbc.size
  replace hHi := Nat.le_trans hHi hbc.size
  replace hB := hB.trans (hbc.mono hB.size)
  clear hbc
  have cY := HBY.out.c
  have lY := HBY.out.lt
  go_wp2_with fail
  clear cY lY
  refine Calls.mono (HI.out _ _ _ (HDr.out _ _ _ HXd.out) (HNvls.out _ _ HPls.out)) ?_
  rintro r w8 ⟨rfl, hbc⟩
  replace HBX := hide (HBX.out.below hbc HBX.out.lt)
  replace HBY := hide (HBY.out.below hbc HBY.out.lt)
  replace HXd := hide (FX.below HXd.out hbc)
  replace hLo := Nat.le_trans hLo hbc.size
  replace hHi := Nat.le_trans hHi hbc.size
  replace hB := hB.trans (hbc.mono hB.size)
  replace HPls := hide (HPls.out.below hbc)
  clear hbc
  go_wp2_with fail
  have hbc : Below w8.heap.size w8 w8.drew := belowDrew8 (Below.refl _ _)
  have HZXB := HBX
  have HZYB := HBY
  have b0 : w8.cell? ⟨XB, 0, none⟩ = some (.slice ad D.length c) := HZXB.out.c 0
  have b1 : w8.cell? ⟨XB, 1, none⟩ = some (.slice bd n bc) := HZXB.out.c 1
  have b2 : w8.cell? ⟨YB, 0, none⟩ = some (.slice (some ⟨gx, 0, none⟩) D.length D.length) := HZYB.out.c 0
  have b3 : w8.cell? ⟨YB, 1, none⟩ = some (.slice (some ⟨bx, 0, none⟩) n n) := HZYB.out.c 1
  refine wp_region_noPanic ?_
  refine wp_region_held_drew (S := fun w' => w'.cell? ⟨XB, 0, none⟩ = some (.slice ad D.length c) ∧ w'.cell? ⟨XB, 1, none⟩ = some (.slice bd n bc) ∧ w'.cell? ⟨YB, 0, none⟩ = some (.slice (some ⟨gx, 0, none⟩) D.length D.length) ∧ w'.cell? ⟨YB, 1, none⟩ = some (.slice (some ⟨bx, 0, none⟩) n n)) (by kernel_rfl) ⟨b0, b1, b2, b3⟩ (fun hHeld => ?_)
  clear HZXB HZYB
  have xl6 : XB < w8.heap.size := HBX.out.lt
  have yl6 : YB < w8.heap.size := HBY.out.lt
  replace HBX := hide (HBX.out.below hbc HBX.out.lt)
  replace HBY := hide (HBY.out.below hbc HBY.out.lt)
  replace HXd := hide (FX.below HXd.out hbc)
  replace hLo := Nat.le_trans hLo hbc.size
  replace hHi := Nat.le_trans hHi hbc.size
  replace hB := hB.trans (hbc.mono hB.size)
  replace HPls := hide (HPls.out.below hbc)
  clear hbc
  refine wpAnyH_take (i := 0) (oi := _) (v := ?_) rfl (by kernel_rfl) (by kernel_rfl) (by kernel_rfl) (fun _ _ _ h => h) (Or.inl ⟨by rfl, ?_⟩) (by assumption) ?_
  rotate_left 1
  · (intro w hSw; (try dsimp only at hSw); (first | (go_simp; done) | (go_simp; with_reducible rfl)))
  try simp only [Act.put, List.getElem_toArray, List.getElem_cons_zero, List.getElem_cons_succ, List.setIfInBounds_toArray, List.set_cons_zero, List.set_cons_succ]
  refine wpAnyH_take (i := 1) (oi := _) (v := ?_) rfl (by kernel_rfl) (by kernel_rfl) (by kernel_rfl) (fun _ _ _ h => h) (Or.inl ⟨by rfl, ?_⟩) (by assumption) ?_
  rotate_left 1
  · (intro w hSw; (try dsimp only at hSw); (first | (go_simp; done) | (go_simp; with_reducible rfl)))
  try simp only [Act.put, List.getElem_toArray, List.getElem_cons_zero, List.getElem_cons_succ, List.setIfInBounds_toArray, List.set_cons_zero, List.set_cons_succ]
  refine wpAnyH_ready (rs := [2]) (by kernel_rfl) (by simp) ?_
  refine AllReadyH.cons (o := _) rfl (fun K hK => ?_) AllReadyH.nil
  go_simp
  (with_reducible refine Calls.mono (HT.out _ hB) ?_)
  rintro r w9 ⟨g7, b7, rfl, hd7, -, hbc⟩
  have HD7 := hide hd7
  have e0 := (hbc.cell (p := ⟨XB, 0, none⟩) xl6).trans b0
  have e1 := (hbc.cell (p := ⟨XB, 1, none⟩) xl6).trans b1
  have e2 := (hbc.cell (p := ⟨YB, 0, none⟩) yl6).trans b2
  have e3 := (hbc.cell (p := ⟨YB, 1, none⟩) yl6).trans b3
  have xl7 : XB < w9.heap.size := Nat.lt_of_lt_of_le xl6 hbc.size
  have yl7 : YB < w9.heap.size := Nat.lt_of_lt_of_le yl6 hbc.size
  clear hd7
  replace HBX := hide (HBX.out.below hbc HBX.out.lt)
  replace HBY := hide (HBY.out.below hbc HBY.out.lt)
  replace HXd := hide (FX.below HXd.out hbc)
  replace hLo := Nat.le_trans hLo hbc.size
  replace hHi := Nat.le_trans hHi hbc.size
  replace hB := hB.trans (hbc.mono hB.size)
  replace HPls := hide (HPls.out.below hbc)
  clear hbc
  (try go_wp2_with fail)
  refine hK.out _ _ ⟨e0, e1, e2, e3⟩ (fun hHeld => ?_)
  clear hK K
  try simp only [Act.put, List.getElem_toArray, List.getElem_cons_zero, List.getElem_cons_succ, List.setIfInBounds_toArray, List.set_cons_zero, List.set_cons_succ]
  refine wpAnyH_ready (rs := [3]) (by kernel_rfl) (by simp) ?_
  refine AllReadyH.cons (o := _) rfl (fun K hK => ?_) AllReadyH.nil
  go_simp
  (with_reducible refine Calls.mono (eqFlow_row _ _ D n F _ (HDr.out _ _ _ HXd.out) (HDr.out _ _ _ HD7.out)) ?_)
  rintro r w10 ⟨rfl, hbc⟩
  have g0 := (hbc.cell (p := ⟨XB, 0, none⟩) xl7).trans e0
  have g1 := (hbc.cell (p := ⟨XB, 1, none⟩) xl7).trans e1
  have g2 := (hbc.cell (p := ⟨YB, 0, none⟩) yl7).trans e2
  have g3 := (hbc.cell (p := ⟨YB, 1, none⟩) yl7).trans e3
  replace HBX := hide (HBX.out.below hbc HBX.out.lt)
  replace HBY := hide (HBY.out.below hbc HBY.out.lt)
  replace hLo := Nat.le_trans hLo hbc.size
  replace hHi := Nat.le_trans hHi hbc.size
  replace hB := hB.trans (hbc.mono hB.size)
  replace HPls := hide (HPls.out.below hbc)
  clear hbc
  (try go_wp2_with fail)
  refine hK.out _ _ ⟨g0, g1, g2, g3⟩ (fun hHeld => ?_)
  clear hK K
  try simp only [Act.put, List.getElem_toArray, List.getElem_cons_zero, List.getElem_cons_succ, List.setIfInBounds_toArray, List.set_cons_zero, List.set_cons_succ]
  refine wpAnyH_take (i := 4) (oi := _) (v := ?_) rfl (by kernel_rfl) (by kernel_rfl) (by kernel_rfl) (fun _ _ _ h => h) (Or.inl ⟨by rfl, ?_⟩) (by assumption) ?_
  rotate_left 1
  · (intro w hSw; (try dsimp only at hSw); (first | (go_simp; done) | (go_simp; with_reducible rfl)))
  try simp only [Act.put, List.getElem_toArray, List.getElem_cons_zero, List.getElem_cons_succ, List.setIfInBounds_toArray, List.set_cons_zero, List.set_cons_succ]
  refine wpAnyH_done (by kernel_rfl) ?_ _
  refine NoPanic.normal ?_
  clear b0 b1 b2 b3 e0 e1 e2 e3 g0 g1 g2 g3 xl6 yl6 xl7 yl7 HD7 HXd
  go_wp2_with fail
  refine Calls.mono (HTls.out _ hB) ?_
  rintro r w11 ⟨gqls, rfl, -, hI, hbc⟩
  have HI8 := hide hI
  clear hI
  replace HBX := hide (HBX.out.below hbc HBX.out.lt)
  replace HBY := hide (HBY.out.below hbc HBY.out.lt)
  replace hLo := Nat.le_trans hLo hbc.size
  replace hHi := Nat.le_trans hHi hbc.size
  replace hB := hB.trans (hbc.mono hB.size)
  replace HPls := hide (HPls.out.below hbc)
  clear hbc
  go_wp2_with fail
  refine Calls.mono (HQls.out _ _ _ HPls.out HI8.out) ?_
  rintro r w12 ⟨rfl, hbc⟩
  clear HI8
  replace HBX := hide (HBX.out.below hbc HBX.out.lt)
  replace HBY := hide (HBY.out.below hbc HBY.out.lt)
  replace hLo := Nat.le_trans hLo hbc.size
  replace hHi := Nat.le_trans hHi hbc.size
  replace hB := hB.trans (hbc.mono hB.size)
  replace HPls := hide (HPls.out.below hbc)
  clear hbc
  go_wp2_with fail
  go_ret
  exact ⟨rfl, hB⟩

set_option maxRecDepth 100000 in
theorem lifted (os : Os) (started : os.Started) (H : Type) (enc : TypeId × Value → H) :
    ReturnsInHanded {} Try.checked os 8 .any (Rows.fnExactIsFixedSpec.pre6 enc Try.prog Try.f8 Rows.fnExactIsFixedRow.domain false) (Rows.fnExactIsFixedSpec.post enc Try.prog Try.f8 false true false false) := by
  refine returnsInHanded_of_change (C := Try.checked) own started (by kernel_rfl) Try.func8
    (ChangeSpec.witness6 (enc := enc) (C := Try.checked) false ⟨#[], #[.agg #[.slice none 0 0, .slice none 0 0], .slice none 0 0], []⟩ 8 (by kernel_rfl) (by kernel_rfl) (by kernel_rfl) (by kernel_rfl)) ?_
  intro W base args ds gs before hval0 hW hcnd _
  have hval : ∀ (j : Nat) t v, Try.f8.params[j]? = some t → args[j]? = some v → Value.okWide Try.prog W .any base t v := hval0
  have hW' := hW
  obtain ⟨p, q, hA0, hV, rfl, hfz, hnd⟩ := hW
  have hA : DataW.TrodAll enc Try.prog W 0 (fun _ => true) true Try.f8.params.toList args.toList ds p := hA0
  rw [Try.params8] at hA hval
  obtain ⟨v0, vs0, d0, ds0, p0, q0, hargs, rfl, rfl, h0, r0⟩ := trodAll_cons hA
  obtain ⟨v1, vs1, d1, ds1, p1, q1, rfl, rfl, rfl, h1, r1⟩ := trodAll_cons r0
  obtain ⟨rfl, rfl, rfl⟩ := trodAll_nil r1
  obtain rfl : args = #[v0, v1] := by cases args; simp_all
  obtain ⟨rfl, rfl⟩ := trodVars_none hV
  have k0' := h0
  have k1' := h1
  have lt0 : ∀ x ∈ p0, x.block < W.heap.size := by obtain ⟨m, hm⟩ := k0'; exact DataW.trod_lt m _ _ _ hm
  have lt1 : ∀ x ∈ p1, x.block < W.heap.size := by obtain ⟨m, hm⟩ := k1'; exact DataW.trod_lt m _ _ _ hm
  obtain ⟨D, ad, c, F, bd, bc, n, rfl, hD, nD, hlc, hBl, nF, hnb, hF⟩ := open_flow (hval 0 27 v0 rfl rfl) h0
  obtain ⟨als, zls, cls, rfl⟩ := okWide_slice Try.underlying22 (hval 1 22 v1 rfl rfl)
  obtain ⟨fuls, hfls⟩ := h1
  have lls : zls ≤ cls := by
    obtain ⟨ad9, len9, cap9, e9, h9⟩ := open_slice1 Try.underlying22 hfls
    cases e9
    exact h9
  obtain ⟨ls, rfl, nls, hls⟩ := open_QRow hfls
  clear hA0 hval0
  refine (walk ad c D bd bc n F als cls ls  W hD nD hlc hBl nF hnb hF hls nls lls).mono fun e W' ⟨he, bel⟩ => ?_
  subst he
  exact ⟨_, rfl, _, _, _, [], _, [], hW', trodAll_mk1 (shut_bool Try.underlying4 _), (trodAll_cons_mk (Below.trod laidOut (by kernel_rfl) (of_decide_eq_true (by kernel_rfl)) k0' bel lt0) (trodAll_cons_mk (Below.trod laidOut (by kernel_rfl) (of_decide_eq_true (by kernel_rfl)) k1' bel lt1) trodAll_mk0)), rfl, bel.frame _, fun h => by cases h⟩

theorem over : Rows.fnExactIsFixedRow.holds Try.pinned (OpenSpec.ofChange Rows.fnExactIsFixedSpec) :=
  OpenClaim.holds_of_wide 8 Try.f8 rfl rfl rfl rfl rfl rfl rfl ⟨rfl, rfl, rfl, rfl, rfl⟩ rfl rfl rfl rfl rfl (by kernel_rfl) Try.func8 (by kernel_rfl)
    (of_decide_eq_true (by kernel_rfl)) (by unfold Func.isWrapper; first | (rw [if_pos (by decide +kernel)]; kernel_rfl) | (rw [if_neg (by decide +kernel)]; exact ⟨rfl, rfl⟩))
    (fun os started H enc _ => lifted os started H enc)
end Go.Proofs.Ytaniiolphghhiaa.fnExactIsFixed

namespace Go.Proofs.Ytaniiolphghhiaa
theorem fnExactIsFixed_holds : Rows.FnExactIsFixedSaid := fnExactIsFixed.over
#print axioms fnExactIsFixed_holds
end Go.Proofs.Ytaniiolphghhiaa

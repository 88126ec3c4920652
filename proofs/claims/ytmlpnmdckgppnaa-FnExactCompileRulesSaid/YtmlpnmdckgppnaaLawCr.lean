/-
  Proved: whatever the data, the rules, the memory and the schedule, the law FnExactCompileRules returns true, and its arguments read afterwards as they read before: CompileRules of the program tells what the specification's tells, its nodes are its own memory. No conditions. Written by wip/build/mk_law8.py.
-/
import Derived.Test.YtmlpnmdckgppnaaCsN
import Derived.Test.YtmlpnmdckgppnaaLmA
import Derived.Deep.RegionHeld3
import Derived.Deep.RegionLaw
import Derived.Deep.AppendLies
import Derived.Deep.CutRange
import Derived.Lib.SmallJoins
import Derived.ChangeOld
import Derived.Below
namespace Go.Proofs.Ytmlpnmdckgppnaa.fnExactCompileRules
open Go.ChangeShapes Go.WideShapes Go.ChangeAt Go.RowKit
open Go.Proofs.Ytmlpnmdckgppnaa.W Go.Joins
set_option linter.unusedVariables false
set_option linter.unusedSimpArgs false

theorem own : ownKnob Try.prog.godebug = none := by kernel_rfl
theorem laidOut : laidOutB Try.prog = true := by kernel_rfl

set_option maxRecDepth 20000 in
set_option maxHeartbeats 8000000 in
theorem walk (ad : Option Addr) (c : Nat) (D : List Int) (q0 : Option Addr) (j0 : Nat) (L : List (List Pt)) (w : World) (hD : IRow w ad D) (nD : D.length ≤ maxLen) (hq : QRow w q0 L) (nq : QFit L) :
    Calls Try.prog 3 #[.agg #[.slice ad D.length c], .slice q0 L.length j0] w fun r w' => r = .returned (.bool true) ∧ Below w.heap.size w w' := by
  have HR := hide hD
  have HQ := hide hq
  have NQ := hide nq
  clear hD hq nq
  go_enter Try.func3, Try.ntmps3
  go_upto_region 1 with fail
  have HBX := hide (Bx.new w #[.slice ad D.length c] 24)
  have hB : Below w.heap.size w (w.alloc (.cells #[.slice ad D.length c] 24)) := (Below.refl _ _).alloc (Nat.le_refl _) _
  obtain ⟨w0, hw0⟩ : ∃ w0, w0 = w.alloc (.cells #[.slice ad D.length c] 24) := ⟨_, rfl⟩
  obtain ⟨XB, hXB⟩ : ∃ XB, XB = w.heap.size := ⟨_, rfl⟩
  rw [← hw0] at HBX hB ⊢
  rw [← hXB] at HBX ⊢
  have hXw : w.heap.size ≤ XB := by omega
  clear hw0 hXB
  have cX := HBX.out.c
  go_wp2_with fail
  refine Calls.mono (szData_any ad c D.length 1048576 _ nD (by omega) (by omega)) ?_
  rintro r w1 ⟨r, rfl, hr, hbc⟩
  replace HBX := hide (HBX.out.below hbc HBX.out.lt)
  replace hB := hB.trans (hbc.mono hB.size)
  clear hbc
  clear cX nD
  by_cases hneg : r < 0
  · clear hr
    go_wp2_with fail
    go_ret
    exact ⟨rfl, hB⟩
  obtain ⟨r0, r1, hDl⟩ := hr.resolve_left hneg
  clear hr
  go_wp2_with fail
  refine Calls.mono (szPatSS_any q0 j0 L r _ NQ.out HQ.out hB r0 r1) ?_
  rintro r' w2 ⟨r', rfl, hr, hbc⟩
  replace HBX := hide (HBX.out.below hbc HBX.out.lt)
  replace hB := hB.trans (hbc.mono hB.size)
  clear hbc
  clear r0 r1 hneg
  by_cases hneg : r' < 0
  · clear hr
    go_wp2_with fail
    go_ret
    exact ⟨rfl, hB⟩
  have hQF := hr.resolve_left hneg
  have HQF := hide hQF
  clear hr hQF
  have HT := hide (fun (w' : World) (hb : Below w.heap.size w w') => toData_any (.agg #[.slice ad D.length c]) D w' ⟨ad, c, rfl, RRow.below HR.out hb, hDl⟩)
  have HT0 := hide (fun (w' : World) (hb : Below w.heap.size w w') => toPatSS_any q0 j0 L w' HQF.out (QRow.below HQ.out hb))
  obtain ⟨n, R, C, hn, hc, hNS⟩ := cr_facts D L
  have HS := hide (fun (vd : Value) (x0 : Value) (w' : World) (hd : DRow w' vd D) (h0 : QV w' x0 L) => (specCompile_any vd D x0 L w' hd h0).mono (fun e w'' h => CrPost.ns h hNS))
  have HI := hide (fun (vd : Value) (x0 : Value) (w' : World) (hd : DRow w' vd D) (h0 : QV w' x0 L) => (implCompile_any vd D x0 L w' hd h0).mono (fun e w'' h => CrPost.ns h hNS))
  have HDr : Hid (∀ (w' : World) (g : Nat), IBlk w' g D → DRow w' (.agg #[.slice (some ⟨g, 0, none⟩) D.length D.length]) D) := hide (fun w' g h => ⟨_, _, rfl, h.row, hDl⟩)
  have HQr : Hid (∀ (w' : World) (g : Nat), QBlk w' g L → QV w' (.slice (some ⟨g, 0, none⟩) L.length L.length) L) := hide (fun w' g h => ⟨_, _, rfl, h.row, HQF.out, Nat.le_refl _⟩)
  obtain ⟨G1, hG1⟩ : ∃ G1, G1 = (crR D L).2 := ⟨_, rfl⟩
  rw [← hG1] at HS HI
  clear hG1 hNS
  have Hc := hide hc
  clear hc
  clear HR HQ NQ
  have cX := HBX.out.c
  have lX := HBX.out.lt
  go_wp2_with fail
  clear cX lX
  refine Calls.mono (HT.out _ hB) ?_
  rintro r w3 ⟨gs, rfl, -, hXd, hbc⟩
  have HXd := hide (RBlk.below hXd (Below.refl _ _))
  clear hXd
  replace HBX := hide (HBX.out.below hbc HBX.out.lt)
  replace hB := hB.trans (hbc.mono hB.size)
  clear hbc
  go_wp2_with fail
  refine Calls.mono (HT0.out _ hB) ?_
  rintro r w4 ⟨rfl, hXq, hbc⟩
  have HXq := hide hXq
  clear hXq
  replace HXd := hide (RBlk.below HXd.out hbc)
  replace HBX := hide (HBX.out.below hbc HBX.out.lt)
  replace hB := hB.trans (hbc.mono hB.size)
  clear hbc
  go_wp2_with fail
  refine Calls.mono (HS.out _ _ _ (HDr.out _ _ HXd.out) (HQr.out _ _ HXq.out)) ?_
  rintro r w5 ⟨vs, xss, rfl, hos, hbc⟩
  have HSr := hide hos
  obtain ⟨sa, sc, rfl⟩ := own_form hos.own
  clear hos HXd HXq HS
  replace HBX := hide (HBX.out.below hbc HBX.out.lt)
  replace hB := hB.trans (hbc.mono hB.size)
  clear hbc
  have HBs := hide (Below.refl w5.heap.size w5)
  have hLo : w5.heap.size ≤ w5.heap.size := Nat.le_refl _
  have hXl : XB < w5.heap.size := HBX.out.lt
  have cX := HBX.out.c
  have lX := HBX.out.lt
  go_wp2_with fail
  clear cX lX
  refine Calls.mono (HT.out _ hB) ?_
  rintro r w6 ⟨gx, rfl, hgx, hXd, hbc⟩
  have HXd := hide hXd
  have hgl := hXd.lt
  clear hXd
  replace HBX := hide (HBX.out.below hbc HBX.out.lt)
  replace HBs := hide (HBs.out.trans (hbc.mono HBs.out.size))
  replace hLo := Nat.le_trans hLo hbc.size
  replace hB := hB.trans (hbc.mono hB.size)
  clear hbc
  have hbc : Below w6.heap.size w6 (w6.alloc (.cells #[.slice (some ⟨gx, 0, none⟩) D.length D.length] 31)) := (Below.refl _ _).alloc (Nat.le_refl _) _
  have HBY := hide (Bx.new w6 #[.slice (some ⟨gx, 0, none⟩) D.length D.length] 31)
  replace HBX := hide (HBX.out.below hbc HBX.out.lt)
  replace HBs := hide (HBs.out.trans (hbc.mono HBs.out.size))
  replace HXd := hide (RBlk.below HXd.out hbc)
  replace hLo := Nat.le_trans hLo hbc.size
  replace hB := hB.trans (hbc.mono hB.size)
  clear hbc
  go_upto_region 10 with fail
  obtain ⟨wy, hwy⟩ : ∃ wy, wy = w6.alloc (.cells #[.slice (some ⟨gx, 0, none⟩) D.length D.length] 31) := ⟨_, rfl⟩
  obtain ⟨YB, hYB⟩ : ∃ YB, YB = w6.heap.size := ⟨_, rfl⟩
  rw [← hwy] at HBX HBs HXd hLo hB HBY ⊢
  rw [← hYB] at HBY hgl ⊢
  have hYl : YB < wy.heap.size := HBY.out.lt
  clear hwy hYB
  go_wp2_with fail
  refine Calls.mono (HT0.out _ hB) ?_
  rintro r w7 ⟨rfl, hXq, hbc⟩
  have HXq := hide hXq
  have HQm := hide (hXq.qm (lo := w5.heap.size) hLo)
  clear hXq
  replace HBX := hide (HBX.out.below hbc HBX.out.lt)
  replace HBY := hide (HBY.out.below hbc HBY.out.lt)
  replace HBs := hide (HBs.out.trans (hbc.mono HBs.out.size))
  replace HXd := hide (RBlk.below HXd.out hbc)
  replace hLo := Nat.le_trans hLo hbc.size
  replace hB := hB.trans (hbc.mono hB.size)
  clear hbc
  have hLx : w5.heap.size ≤ w7.heap.size := hLo
  have hWx := hB.size
  have hHi : w7.heap.size ≤ w7.heap.size := Nat.le_refl _
  have hYh : YB < w7.heap.size := HBY.out.lt
  have hYs : YB < wy.heap.size := hYl
  obtain ⟨SQ, hSQ⟩ : ∃ SQ, SQ = wy.heap.size := ⟨_, rfl⟩
  rw [← hSQ] at HXq HQm hYs ⊢
  clear hSQ
  have cY := HBY.out.c
  have lY := HBY.out.lt
  go_wp2_with fail
  clear cY lY
  refine Calls.mono (HI.out _ _ _ (HDr.out _ _ HXd.out) (HQr.out _ _ HXq.out)) ?_
  rintro r w8 ⟨vg, xsg, rfl, hog, hbc⟩
  have HGr := hide hog
  obtain ⟨ga, gc, rfl⟩ := own_form hog.own
  clear hog
  replace HBX := hide (HBX.out.below hbc HBX.out.lt)
  replace HBY := hide (HBY.out.below hbc HBY.out.lt)
  replace HBs := hide (HBs.out.trans (hbc.mono HBs.out.size))
  replace HXd := hide (RBlk.below HXd.out hbc)
  replace HXq := hide (QBlk.below HXq.out hbc)
  replace HQm := hide (HQm.out.below hbc)
  replace hLo := Nat.le_trans hLo hbc.size
  replace hHi := Nat.le_trans hHi hbc.size
  replace hB := hB.trans (hbc.mono hB.size)
  clear hbc
  go_wp2_with fail
  refine Calls.mono (eqNodeS_any _ _ n _ _ _ _ R C _ (by omega) Hc.out HGr.out (HSr.out.below HBs.out)) ?_
  rintro r w9 ⟨rfl, hbc⟩
  replace HBX := hide (HBX.out.below hbc HBX.out.lt)
  replace HBY := hide (HBY.out.below hbc HBY.out.lt)
  replace HBs := hide (HBs.out.trans (hbc.mono HBs.out.size))
  replace HXd := hide (RBlk.below HXd.out hbc)
  replace HXq := hide (QBlk.below HXq.out hbc)
  replace HQm := hide (HQm.out.below hbc)
  replace HGr := hide (HGr.out.below hbc)
  replace hLo := Nat.le_trans hLo hbc.size
  replace hHi := Nat.le_trans hHi hbc.size
  replace hB := hB.trans (hbc.mono hB.size)
  clear hbc
  go_wp2_with fail
  have hbc : Below w9.heap.size w9 w9.drew := belowDrew8 (Below.refl _ _)
  have HZXB := HBX
  have HZYB := HBY
  have b0 : w9.cell? ⟨XB, 0, none⟩ = some (.slice ad D.length c) := HZXB.out.c 0
  have b1 : w9.cell? ⟨YB, 0, none⟩ = some (.slice (some ⟨gx, 0, none⟩) D.length D.length) := HZYB.out.c 0
  refine wp_region_noPanic ?_
  refine wp_region_held_drew (S := fun w' => w'.cell? ⟨XB, 0, none⟩ = some (.slice ad D.length c) ∧ w'.cell? ⟨YB, 0, none⟩ = some (.slice (some ⟨gx, 0, none⟩) D.length D.length)) (by kernel_rfl) ⟨b0, b1⟩ (fun hHeld => ?_)
  clear HZXB HZYB
  have xl6 : XB < w9.heap.size := HBX.out.lt
  have yl6 : YB < w9.heap.size := HBY.out.lt
  replace HBX := hide (HBX.out.below hbc HBX.out.lt)
  replace HBY := hide (HBY.out.below hbc HBY.out.lt)
  replace HBs := hide (HBs.out.trans (hbc.mono HBs.out.size))
  replace HXd := hide (RBlk.below HXd.out hbc)
  replace HXq := hide (QBlk.below HXq.out hbc)
  replace HQm := hide (HQm.out.below hbc)
  replace HGr := hide (HGr.out.below hbc)
  replace hLo := Nat.le_trans hLo hbc.size
  replace hHi := Nat.le_trans hHi hbc.size
  replace hB := hB.trans (hbc.mono hB.size)
  clear hbc
  refine wpAnyH_take (i := 0) (oi := _) (v := ?_) rfl (by kernel_rfl) (by kernel_rfl) (by kernel_rfl) (fun _ _ _ h => h) (Or.inl ⟨by rfl, ?_⟩) (by assumption) ?_
  rotate_left 1
  · (intro w hSw; (try dsimp only at hSw); (first | (go_simp; done) | (go_simp; with_reducible rfl)))
  try simp only [Act.put, List.getElem_toArray, List.getElem_cons_zero, List.getElem_cons_succ, List.setIfInBounds_toArray, List.set_cons_zero, List.set_cons_succ]
  refine wpAnyH_take (i := 1) (oi := _) (v := ?_) rfl (by kernel_rfl) (by kernel_rfl) (by kernel_rfl) (fun _ _ _ h => h) (Or.inl ⟨by rfl, ?_⟩) (by assumption) ?_
  rotate_left 1
  · (intro w hSw; (try dsimp only at hSw); (first | (go_simp; done) | (go_simp; with_reducible rfl)))
  try simp only [Act.put, List.getElem_toArray, List.getElem_cons_zero, List.getElem_cons_succ, List.setIfInBounds_toArray, List.set_cons_zero, List.set_cons_succ]
  refine wpAnyH_ready (rs := [2]) (by kernel_rfl) (by simp) ?_
  refine AllReadyH.cons (o := _) rfl (fun K hK => ?_) AllReadyH.nil
  go_simp
  (with_reducible refine Calls.mono (HT.out _ hB) ?_)
  rintro r w10 ⟨g7, rfl, -, hd7, hbc⟩
  have HD7 := hide hd7
  have e0 := (hbc.cell (p := ⟨XB, 0, none⟩) xl6).trans b0
  have e1 := (hbc.cell (p := ⟨YB, 0, none⟩) yl6).trans b1
  have xl7 : XB < w10.heap.size := Nat.lt_of_lt_of_le xl6 hbc.size
  have yl7 : YB < w10.heap.size := Nat.lt_of_lt_of_le yl6 hbc.size
  clear hd7
  replace HBX := hide (HBX.out.below hbc HBX.out.lt)
  replace HBY := hide (HBY.out.below hbc HBY.out.lt)
  replace HBs := hide (HBs.out.trans (hbc.mono HBs.out.size))
  replace HXd := hide (RBlk.below HXd.out hbc)
  replace HXq := hide (QBlk.below HXq.out hbc)
  replace HQm := hide (HQm.out.below hbc)
  replace HGr := hide (HGr.out.below hbc)
  replace hLo := Nat.le_trans hLo hbc.size
  replace hHi := Nat.le_trans hHi hbc.size
  replace hB := hB.trans (hbc.mono hB.size)
  clear hbc
  (try go_wp2_with fail)
  refine hK.out _ _ ⟨e0, e1⟩ (fun hHeld => ?_)
  clear hK K
  try simp only [Act.put, List.getElem_toArray, List.getElem_cons_zero, List.getElem_cons_succ, List.setIfInBounds_toArray, List.set_cons_zero, List.set_cons_succ]
  refine wpAnyH_ready (rs := [3]) (by kernel_rfl) (by simp) ?_
  refine AllReadyH.cons (o := _) rfl (fun K hK => ?_) AllReadyH.nil
  go_simp
  (with_reducible refine Calls.mono (eqData_row _ _ D _ (HDr.out _ _ HXd.out) (HDr.out _ _ HD7.out)) ?_)
  rintro r w11 ⟨rfl, hbc⟩
  have g0 := (hbc.cell (p := ⟨XB, 0, none⟩) xl7).trans e0
  have g1 := (hbc.cell (p := ⟨YB, 0, none⟩) yl7).trans e1
  replace HBX := hide (HBX.out.below hbc HBX.out.lt)
  replace HBY := hide (HBY.out.below hbc HBY.out.lt)
  replace HBs := hide (HBs.out.trans (hbc.mono HBs.out.size))
  replace HXd := hide (RBlk.below HXd.out hbc)
  replace HXq := hide (QBlk.below HXq.out hbc)
  replace HQm := hide (HQm.out.below hbc)
  replace HGr := hide (HGr.out.below hbc)
  replace hLo := Nat.le_trans hLo hbc.size
  replace hHi := Nat.le_trans hHi hbc.size
  replace hB := hB.trans (hbc.mono hB.size)
  clear hbc
  (try go_wp2_with fail)
  refine hK.out _ _ ⟨g0, g1⟩ (fun hHeld => ?_)
  clear hK K
  try simp only [Act.put, List.getElem_toArray, List.getElem_cons_zero, List.getElem_cons_succ, List.setIfInBounds_toArray, List.set_cons_zero, List.set_cons_succ]
  refine wpAnyH_take (i := 4) (oi := _) (v := ?_) rfl (by kernel_rfl) (by kernel_rfl) (by kernel_rfl) (fun _ _ _ h => h) (Or.inl ⟨by rfl, ?_⟩) (by assumption) ?_
  rotate_left 1
  · (intro w hSw; (try dsimp only at hSw); (first | (go_simp; done) | (go_simp; with_reducible rfl)))
  try simp only [Act.put, List.getElem_toArray, List.getElem_cons_zero, List.getElem_cons_succ, List.setIfInBounds_toArray, List.set_cons_zero, List.set_cons_succ]
  refine wpAnyH_done (by kernel_rfl) ?_ _
  refine NoPanic.normal ?_
  clear b0 b1 e0 e1 g0 g1 xl6 yl6 xl7 yl7 HD7
  go_wp2_with fail
  refine Calls.mono (HT0.out _ hB) ?_
  rintro r w12 ⟨rfl, hXz, hbc⟩
  have HXz := hide hXz
  clear hXz
  replace HBX := hide (HBX.out.below hbc HBX.out.lt)
  replace HBY := hide (HBY.out.below hbc HBY.out.lt)
  replace HBs := hide (HBs.out.trans (hbc.mono HBs.out.size))
  replace HXd := hide (RBlk.below HXd.out hbc)
  replace HXq := hide (QBlk.below HXq.out hbc)
  replace HQm := hide (HQm.out.below hbc)
  replace HGr := hide (HGr.out.below hbc)
  replace hLo := Nat.le_trans hLo hbc.size
  replace hHi := Nat.le_trans hHi hbc.size
  replace hB := hB.trans (hbc.mono hB.size)
  clear hbc
  go_wp2_with fail
  refine Calls.mono (eqPatSS_v _ _ L _ (HQr.out _ _ HXq.out) (HQr.out _ _ HXz.out)) ?_
  rintro r w13 ⟨rfl, hbc⟩
  clear HXz HXq
  replace HBX := hide (HBX.out.below hbc HBX.out.lt)
  replace HBY := hide (HBY.out.below hbc HBY.out.lt)
  replace HBs := hide (HBs.out.trans (hbc.mono HBs.out.size))
  replace HXd := hide (RBlk.below HXd.out hbc)
  replace HQm := hide (HQm.out.below hbc)
  replace HGr := hide (HGr.out.below hbc)
  replace hLo := Nat.le_trans hLo hbc.size
  replace hHi := Nat.le_trans hHi hbc.size
  replace hB := hB.trans (hbc.mono hB.size)
  clear hbc
  have HMD : Hid (∀ (w' : World), SBk 3 w' gx D.length → Calls Try.prog 13 #[.agg #[.slice (some ⟨gx, 0, none⟩) D.length D.length], .int .i64 1] w' fun e w'' => e = .returned (.int .i64 ((1 + D.length : Nat) : Int)) ∧ Oth gx w' w'') := hide (fun w' h => markData_w gx D.length D.length 1 w' hDl (by omega) h)
  have HSB := hide (show SBk 3 w13 gx D.length from (by have h := RBlk.sbk HXd.out; rw [Nat.mul_one] at h; exact h))
  have cY := HBY.out.c
  have lY := HBY.out.lt
  go_wp2_with fail
  clear cY lY
  refine Calls.mono (HMD.out _ HSB.out) ?_
  rintro r w14 ⟨rfl, hO⟩
  replace HBX : Hid (Bx w14 XB _ _) := hide ((hO.block XB HBX.out.lt (by omega)).trans HBX.out)
  replace HBs := hide (HBs.out.trans (hO.below HBs.out.size (by omega)))
  replace HQm := hide (HQm.out.keep (w' := w14) (fun k h1 h2 => hO.block k h2 (by omega)))
  replace HGr := hide (HGr.out.keep (w' := w14) (fun k h1 h2 => hO.block k h2 (by omega)))
  replace hB := hB.trans (hO.below hB.size (by omega))
  replace hLo := Nat.le_trans hLo hO.size
  replace hHi := Nat.le_trans hHi hO.size
  clear hO HMD HSB HXd HBY
  obtain ⟨K9, hK9⟩ : ∃ K9, K9 = 1 + D.length := ⟨_, rfl⟩
  rw [← hK9]
  have hk9 : K9 ≤ 100000000 := by omega
  clear hK9
  go_wp2_with fail
  refine Calls.mono (markPatSS_w SQ w5.heap.size w7.heap.size L.length K9 L _ HQF.out hk9 HQm.out) ?_
  rintro r w15 ⟨⟨K2, rfl⟩, hO⟩
  replace HBX : Hid (Bx w15 XB _ _) := hide ((hO.block XB HBX.out.lt (.inl (by omega))).trans HBX.out)
  replace HBs := hide (HBs.out.trans (hO.below HBs.out.size (Nat.le_refl _)))
  replace HGr := hide (HGr.out.keep (w' := w15) (fun k h1 h2 => hO.block k h2 (.inr h1)))
  replace hB := hB.trans (hO.below hB.size (by omega))
  replace hLo := Nat.le_trans hLo hO.size
  replace hHi := Nat.le_trans hHi hO.size
  clear hO HQm
  have hk2 : ¬ ((K2 : Nat) : Int) < 0 := by omega
  go_wp2_with fail
  refine Calls.mono (eqNodeS_any _ _ n _ _ _ _ R C _ (by omega) Hc.out HGr.out (HSr.out.below HBs.out)) ?_
  rintro r w16 ⟨rfl, hbc⟩
  replace HBX := hide (HBX.out.below hbc HBX.out.lt)
  replace HBs := hide (HBs.out.trans (hbc.mono HBs.out.size))
  replace HGr := hide (HGr.out.below hbc)
  replace hLo := Nat.le_trans hLo hbc.size
  replace hHi := Nat.le_trans hHi hbc.size
  replace hB := hB.trans (hbc.mono hB.size)
  clear hbc
  have HMk : Hid (∀ (v : Value) (base : Nat) (xs : List Value) (w' : World), base ≤ w'.heap.size → NS base w' v n xs R C → Calls Try.prog 15 #[v, .int .i64 1] w' fun e w'' => e = .returned (.int .i64 (kkF C 1 n : Nat)) ∧ (∃ xs' R' C', NS base w'' v n xs' R' C' ∧ Mkd R' C' C 1 n) ∧ Below base w' w'') := hide (fun v base xs w' hb h => markNodeS_any base n 1 v xs R C w' (by omega) Hc.out (by omega) hb h)
  have HHd : Hid (∀ (v : Value) (base : Nat) (xs' : List Value) (R' : Nat → Int) (C' : Nat → List Int) (w' : World), NS base w' v n xs' R' C' → Mkd R' C' C 1 n → Calls Try.prog 16 #[v, .int .i64 1] w' fun e w'' => e = .returned (.int .i64 (kkF C 1 n : Nat)) ∧ Below w'.heap.size w' w'') := hide (fun v base xs' R' C' w' h hm => heldNodeS_any base n 1 v xs' R' R C' C w' (by omega) Hc.out (by omega) h hm)
  obtain ⟨KM, hKM⟩ : ∃ KM, KM = kkF C 1 n := ⟨_, rfl⟩
  rw [← hKM] at HMk HHd
  clear hKM
  go_wp2_with fail
  refine Calls.mono (HMk.out _ _ _ _ hHi HGr.out) ?_
  rintro r w17 ⟨rfl, ⟨xs', R', C', hmk, hmm⟩, hgr⟩
  have HK := hide hmk
  have HKm := hide hmm
  replace HBX : Hid (Bx w17 XB _ _) := hide ((hgr.block XB (by omega)).trans HBX.out)
  replace HBs := hide (HBs.out.trans (hgr.mono hLx))
  replace hB := hB.trans (hgr.mono hWx)
  replace hLo := Nat.le_trans hLo hgr.size
  replace hHi := Nat.le_trans hHi hgr.size
  clear hmk hmm hgr HGr HMk
  go_wp2_with fail
  refine Calls.mono (HHd.out _ _ _ _ _ _ HK.out HKm.out) ?_
  rintro r w18 ⟨rfl, hbc⟩
  replace HBX := hide (HBX.out.below hbc HBX.out.lt)
  replace HBs := hide (HBs.out.trans (hbc.mono HBs.out.size))
  replace HK := hide (HK.out.below hbc)
  replace hLo := Nat.le_trans hLo hbc.size
  replace hHi := Nat.le_trans hHi hbc.size
  replace hB := hB.trans (hbc.mono hB.size)
  clear hbc
  have cX := HBX.out.c
  have lX := HBX.out.lt
  go_wp2_with fail
  clear cX lX
  refine Calls.mono (HT.out _ hB) ?_
  rintro r w19 ⟨gt, rfl, -, hXd, hbc⟩
  have HXd := hide hXd
  clear hXd
  replace HBX := hide (HBX.out.below hbc HBX.out.lt)
  replace HBs := hide (HBs.out.trans (hbc.mono HBs.out.size))
  replace HK := hide (HK.out.below hbc)
  replace hLo := Nat.le_trans hLo hbc.size
  replace hHi := Nat.le_trans hHi hbc.size
  replace hB := hB.trans (hbc.mono hB.size)
  clear hbc
  go_wp2_with fail
  refine Calls.mono (HT0.out _ hB) ?_
  rintro r w20 ⟨rfl, hXq, hbc⟩
  have HXq := hide hXq
  clear hXq
  replace HBX := hide (HBX.out.below hbc HBX.out.lt)
  replace HBs := hide (HBs.out.trans (hbc.mono HBs.out.size))
  replace HK := hide (HK.out.below hbc)
  replace HXd := hide (RBlk.below HXd.out hbc)
  replace hLo := Nat.le_trans hLo hbc.size
  replace hHi := Nat.le_trans hHi hbc.size
  replace hB := hB.trans (hbc.mono hB.size)
  clear hbc
  go_wp2_with fail
  refine Calls.mono (HI.out _ _ _ (HDr.out _ _ HXd.out) (HQr.out _ _ HXq.out)) ?_
  rintro r w21 ⟨vh, xsh, rfl, hoh, hbc⟩
  have HGr := hide hoh
  obtain ⟨ha, hc, rfl⟩ := own_form hoh.own
  clear hoh HXd HXq HBX
  replace HBs := hide (HBs.out.trans (hbc.mono HBs.out.size))
  replace HK := hide (HK.out.below hbc)
  replace hLo := Nat.le_trans hLo hbc.size
  replace hHi := Nat.le_trans hHi hbc.size
  replace hB := hB.trans (hbc.mono hB.size)
  clear hbc
  go_wp2_with fail
  refine Calls.mono (eqNodeS_any _ _ n _ _ _ _ R C _ (by omega) Hc.out HGr.out (HSr.out.below HBs.out)) ?_
  rintro r w22 ⟨rfl, hbc⟩
  replace HK := hide (HK.out.below hbc)
  replace hB := hB.trans (hbc.mono hB.size)
  clear hbc
  go_wp2_with fail
  refine Calls.mono (HHd.out _ _ _ _ _ _ HK.out HKm.out) ?_
  rintro r w23 ⟨rfl, hbc⟩
  replace hB := hB.trans (hbc.mono hB.size)
  clear hbc
  go_wp2_with fail
  go_ret
  exact ⟨rfl, hB⟩

set_option maxRecDepth 100000 in
theorem lifted (os : Os) (started : os.Started) (H : Type) (enc : TypeId × Value → H) :
    ReturnsInHanded {} Try.checked os 3 .any (Rows.fnExactCompileRulesSpec.pre6 enc Try.prog Try.f3 Rows.fnExactCompileRulesRow.domain false) (Rows.fnExactCompileRulesSpec.post enc Try.prog Try.f3 false true false false) := by
  refine returnsInHanded_of_change (C := Try.checked) own started (by kernel_rfl) Try.func3
    (ChangeSpec.witness6 (enc := enc) (C := Try.checked) false ⟨#[], #[.agg #[.slice none 0 0], .slice none 0 0], []⟩ 8 (by kernel_rfl) (by kernel_rfl) (by kernel_rfl) (by kernel_rfl)) ?_
  intro W base args ds gs before hval0 hW hcnd _
  have hval : ∀ (j : Nat) t v, Try.f3.params[j]? = some t → args[j]? = some v → Value.okWide Try.prog W .any base t v := hval0
  have hW' := hW
  obtain ⟨p, q, hA0, hV, rfl, hfz, hnd⟩ := hW
  have hA : DataW.TrodAll enc Try.prog W 0 (fun _ => true) true Try.f3.params.toList args.toList ds p := hA0
  rw [Try.params3] at hA hval
  obtain ⟨v0, vs0, d0, ds0, p0, q0, hargs, rfl, rfl, h0, r0⟩ := trodAll_cons hA
  obtain ⟨v1, vs1, d1, ds1, p1, q1, rfl, rfl, rfl, h1, r1⟩ := trodAll_cons r0
  obtain ⟨rfl, rfl, rfl⟩ := trodAll_nil r1
  obtain rfl : args = #[v0, v1] := by cases args; simp_all
  obtain ⟨rfl, rfl⟩ := trodVars_none hV
  have k0' := h0
  have k1' := h1
  have lt0 : ∀ x ∈ p0, x.block < W.heap.size := by obtain ⟨m, hm⟩ := k0'; exact DataW.trod_lt m _ _ _ hm
  have lt1 : ∀ x ∈ p1, x.block < W.heap.size := by obtain ⟨m, hm⟩ := k1'; exact DataW.trod_lt m _ _ _ hm
  obtain ⟨D, ad, c, rfl, hD, nD⟩ := open_data (hval 0 24 v0 rfl rfl) h0
  obtain ⟨q0, m0, j0, rfl⟩ := okWide_slice Try.underlying25 (hval 1 25 v1 rfl rfl)
  obtain ⟨fuel1, hf1⟩ := h1
  obtain ⟨L, rfl, nq, hq⟩ := open_QRow hf1
  clear hA0 hval0
  refine (walk ad c D q0 j0 L W hD nD hq nq).mono fun e W' ⟨he, bel⟩ => ?_
  subst he
  exact ⟨_, rfl, _, _, _, [], _, [], hW', trodAll_mk1 (shut_bool Try.underlying4 _), (trodAll_cons_mk (Below.trod laidOut (by kernel_rfl) (of_decide_eq_true (by kernel_rfl)) k0' bel lt0) (trodAll_cons_mk (Below.trod laidOut (by kernel_rfl) (of_decide_eq_true (by kernel_rfl)) k1' bel lt1) trodAll_mk0)), rfl, bel.frame _, fun h => by cases h⟩

theorem over : Rows.fnExactCompileRulesRow.holds Try.pinned (OpenSpec.ofChange Rows.fnExactCompileRulesSpec) :=
  OpenClaim.holds_of_wide 3 Try.f3 rfl rfl rfl rfl rfl rfl rfl ⟨rfl, rfl, rfl, rfl, rfl⟩ rfl rfl rfl rfl rfl (by kernel_rfl) Try.func3 (by kernel_rfl)
    (of_decide_eq_true (by kernel_rfl)) (by unfold Func.isWrapper; first | (rw [if_pos (by decide +kernel)]; kernel_rfl) | (rw [if_neg (by decide +kernel)]; exact ⟨rfl, rfl⟩))
    (fun os started H enc _ => lifted os started H enc)
end Go.Proofs.Ytmlpnmdckgppnaa.fnExactCompileRules

namespace Go.Proofs.Ytmlpnmdckgppnaa
theorem fnExactCompileRules_holds : Rows.FnExactCompileRulesSaid := fnExactCompileRules.over
#print axioms fnExactCompileRules_holds
end Go.Proofs.Ytmlpnmdckgppnaa

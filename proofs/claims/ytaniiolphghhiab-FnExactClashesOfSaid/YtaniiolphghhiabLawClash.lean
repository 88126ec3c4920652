/-
  Proved: whatever the arguments, the memory and the schedule, the law FnExactClashesOf returns true, and its arguments read afterwards as they read before: ClashesOf of the program tells what the specification's tells, its answer is its own memory. No conditions. Written by wip/build/mk_lawf.py.
-/
import Derived.Test.YtaniiolphghhiabLvX
import Derived.Test.YtaniiolphghhiabLvY
import Derived.Test.YtaniiolphghhiabLvW
import Derived.Deep.RegionHeld3
import Derived.Deep.RegionLaw
import Derived.Deep.AppendLies
import Derived.Deep.CutRange
import Derived.Lib.SmallJoins
import Derived.ChangeOld
import Derived.Below
namespace Go.Proofs.Ytaniiolphghhiab.fnExactClashesOf
open Go.ChangeShapes Go.WideShapes Go.ChangeAt Go.RowKit
open Go.Proofs.Ytaniiolphghhiab.W Go.Joins
set_option linter.unusedVariables false
set_option linter.unusedSimpArgs false

theorem own : ownKnob Try.prog.godebug = none := by kernel_rfl
theorem laidOut : laidOutB Try.prog = true := by kernel_rfl

set_option maxRecDepth 20000 in
set_option maxHeartbeats 8000000 in
theorem walk (ad : Option Addr) (c : Nat) (D : List (List Int)) (bd : Option Addr) (bc n : Nat) (F : List (List Int))  (w : World) (hD : QRow w ad D) (nD : QFit D) (hlc : D.length ≤ c) (hBl : QRow w bd F) (nF : FFit n F) (hnb : n ≤ bc) (hF : F.length = 2 * n)  :
    Calls Try.prog 3 #[.agg #[.slice ad D.length c, .slice bd n bc]] w fun r w' => r = .returned (.bool true) ∧ Below w.heap.size w w' := by
  have HR := hide hD
  have HRF := hide hBl
  have HFl := hide hF
  clear hD hBl
  go_enter Try.func3, Try.ntmps3
  go_upto_region 1 with fail
  have HBX := hide (Bx.new w #[.slice ad D.length c, .slice bd n bc] 27)
  have hB : Below w.heap.size w (w.alloc (.cells #[.slice ad D.length c, .slice bd n bc] 27)) := (Below.refl _ _).alloc (Nat.le_refl _) _
  obtain ⟨w0, hw0⟩ : ∃ w0, w0 = w.alloc (.cells #[.slice ad D.length c, .slice bd n bc] 27) := ⟨_, rfl⟩
  obtain ⟨XB, hXB⟩ : ∃ XB, XB = w.heap.size := ⟨_, rfl⟩
  rw [← hw0] at HBX hB ⊢
  rw [← hXB] at HBX ⊢
  have hXw : w.heap.size ≤ XB := by omega
  clear hw0 hXB
  have cX := HBX.out.c
  go_wp2_with fail
  refine Calls.mono (szFlow_any ad c D bd bc n F 1048576 nD HR.out nF HFl.out HRF.out (by omega) (by omega) _ hB) ?_
  rintro r w1 ⟨r, rfl, hr, hbc⟩
  replace HBX := hide (HBX.out.below hbc HBX.out.lt)
  replace hB := hB.trans (hbc.mono hB.size)
  clear hbc
  clear cX nD nF 
  by_cases hneg : r < 0
  · clear hr
    go_wp2_with fail
    go_ret
    exact ⟨rfl, hB⟩
  obtain ⟨hQF, hsm⟩ := hr.resolve_left hneg
  clear hr
  have HQF := hide hQF
  have HSm := hide hsm
  have HT := hide (fun (w' : World) (hb : Below w.heap.size w w') => toFlow_x (.agg #[.slice ad D.length c, .slice bd n bc]) D n F w' ⟨ad, c, bd, bc, rfl, QRow.below HR.out hb, hQF, hlc, QRow.below HRF.out hb, hsm, hnb, hF⟩)
  have HS := hide (fun (vd : Value) (w' : World) (hd : FRow w' vd D n F)  => specClash_any vd D n F w' hd)
  have HI := hide (fun (vd : Value) (w' : World) (hd : FRow w' vd D n F)  => implClash_any vd D n F w' hd)
  have HDr : Hid (∀ (w' : World) (g b : Nat), FX w' g b D F → FRow w' (.agg #[.slice (some ⟨g, 0, none⟩) D.length D.length, .slice (some ⟨b, 0, none⟩) n n]) D n F) := hide (fun w' g b h => FRow.made h.1 h.2 hQF hsm hF)
  have hfl : (clR D F).length ≤ 600 ∧ ∀ l ∈ clR D F, l.length ≤ 600 := clR_sm D F
  obtain ⟨FL, hFL⟩ : ∃ FL, FL = clR D F := ⟨_, rfl⟩
  rw [← hFL] at HS HI hfl
  clear hFL
  obtain ⟨B1, hB1⟩ : ∃ B1, B1 = goodF D F := ⟨_, rfl⟩
  rw [← hB1] at HS HI
  clear hB1 HR HRF hQF hsm  
  have cX := HBX.out.c
  have lX := HBX.out.lt
  go_wp2_with fail
  clear cX lX
  refine Calls.mono (HT.out _ hB) ?_
  rintro r w2 ⟨gs, bs, rfl, hXd, -, hbc⟩
  have HDs := hide hXd
  clear hXd
  replace HBX := hide (HBX.out.below hbc HBX.out.lt)
  replace hB := hB.trans (hbc.mono hB.size)
  clear hbc
  go_wp2_with fail
  refine Calls.mono (HS.out _ _ (HDr.out _ _ _ HDs.out) ) ?_
  rintro r w3 ⟨vs, rfl, hos, hbc⟩
  have HSr := hide hos.stay
  obtain ⟨sa, sc, rfl, -, -⟩ := hos
  clear HDs HS
  replace HBX := hide (HBX.out.below hbc HBX.out.lt)
  replace hB := hB.trans (hbc.mono hB.size)
  clear hbc
  have hLo : w3.heap.size ≤ w3.heap.size := Nat.le_refl _
  have hXl : XB < w3.heap.size := HBX.out.lt
  have cX := HBX.out.c
  have lX := HBX.out.lt
  go_wp2_with fail
  clear cX lX
  refine Calls.mono (HT.out _ hB) ?_
  rintro r w4 ⟨gx, bx, rfl, hXd, hm, hbc⟩
  have HXd := hide hXd
  have HQm := hide hm
  clear hXd hm
  replace HBX := hide (HBX.out.below hbc HBX.out.lt)
  replace HSr := hide (HSr.out.keep (fun k hk => hbc.block k (by omega)))
  replace hLo := Nat.le_trans hLo hbc.size
  (try replace hLw := Nat.le_trans hLw hbc.size)
  replace hB := hB.trans (hbc.mono hB.size)
  clear hbc
  have hHi : w4.heap.size ≤ w4.heap.size := Nat.le_refl _
  have hbc : Below w4.heap.size w4 (w4.alloc (.cells #[.slice (some ⟨gx, 0, none⟩) D.length D.length, .slice (some ⟨bx, 0, none⟩) n n] 34)) := (Below.refl _ _).alloc (Nat.le_refl _) _
  have HBY := hide (Bx.new w4 #[.slice (some ⟨gx, 0, none⟩) D.length D.length, .slice (some ⟨bx, 0, none⟩) n n] 34)
  replace HBX := hide (HBX.out.below hbc HBX.out.lt)
  replace HSr := hide (HSr.out.keep (fun k hk => hbc.block k (by omega)))
  replace HXd := hide (FX.below HXd.out hbc)
  replace HQm := hide (HQm.out.below hbc)
  replace hLo := Nat.le_trans hLo hbc.size
  (try replace hLw := Nat.le_trans hLw hbc.size)
  replace hHi := Nat.le_trans hHi hbc.size
  replace hB := hB.trans (hbc.mono hB.size)
  clear hbc
  go_upto_region 7 with fail
  obtain ⟨wy, hwy⟩ : ∃ wy, wy = w4.alloc (.cells #[.slice (some ⟨gx, 0, none⟩) D.length D.length, .slice (some ⟨bx, 0, none⟩) n n] 34) := ⟨_, rfl⟩
  obtain ⟨YB, hYB⟩ : ∃ YB, YB = w4.heap.size := ⟨_, rfl⟩
  rw [← hwy] at HBX HSr HXd HQm hLo hHi hB HBY ⊢
  rw [← hYB] at HBY HQm hHi ⊢
  have hYl : YB < wy.heap.size := HBY.out.lt
  clear hwy hYB
  have hLy := hLo
  have hLw : wy.heap.size ≤ wy.heap.size := Nat.le_refl _
  have hBy : w.heap.size ≤ wy.heap.size := hB.size
  have cY := HBY.out.c
  have lY := HBY.out.lt
  go_wp2_with fail
  clear cY lY
  refine Calls.mono (HI.out _ _ (HDr.out _ _ _ HXd.out) ) ?_
  rintro r w5 ⟨vg, rfl, hog, hbc⟩
  have HGr := hide hog
  obtain ⟨ga, gc, rfl⟩ := hog.form
  clear hog
  replace HBX := hide (HBX.out.below hbc HBX.out.lt)
  replace HBY := hide (HBY.out.below hbc HBY.out.lt)
  replace HSr := hide (HSr.out.keep (fun k hk => hbc.block k (by omega)))
  replace HXd := hide (FX.below HXd.out hbc)
  replace HQm := hide (HQm.out.below hbc)
  replace hLo := Nat.le_trans hLo hbc.size
  (try replace hLw := Nat.le_trans hLw hbc.size)
  replace hHi := Nat.le_trans hHi hbc.size
  replace hB := hB.trans (hbc.mono hB.size)
  clear hbc
  go_wp2_with fail
  refine Calls.mono (eqIntSS_v _ _ FL _ (HGr.out.qv ⟨by omega, fun l hl => by have := hfl.2 l hl; omega⟩) HSr.out.here) ?_
  rintro r w6 ⟨rfl, hbc⟩
  replace HBX := hide (HBX.out.below hbc HBX.out.lt)
  replace HBY := hide (HBY.out.below hbc HBY.out.lt)
  replace HSr := hide (HSr.out.keep (fun k hk => hbc.block k (by omega)))
  replace HXd := hide (FX.below HXd.out hbc)
  replace HQm := hide (HQm.out.below hbc)
  replace HGr := hide (HGr.out.keep (fun k _ hk => hbc.block k hk))
  replace hLo := Nat.le_trans hLo hbc.size
  (try replace hLw := Nat.le_trans hLw hbc.size)
  replace hHi := Nat.le_trans hHi hbc.size
  replace hB := hB.trans (hbc.mono hB.size)
  clear hbc
  go_wp2_with fail
  have hbc : Below w6.heap.size w6 w6.drew := belowDrew8 (Below.refl _ _)
  have HZXB := HBX
  have HZYB := HBY
  have b0 : w6.cell? ⟨XB, 0, none⟩ = some (.slice ad D.length c) := HZXB.out.c 0
  have b1 : w6.cell? ⟨XB, 1, none⟩ = some (.slice bd n bc) := HZXB.out.c 1
  have b2 : w6.cell? ⟨YB, 0, none⟩ = some (.slice (some ⟨gx, 0, none⟩) D.length D.length) := HZYB.out.c 0
  have b3 : w6.cell? ⟨YB, 1, none⟩ = some (.slice (some ⟨bx, 0, none⟩) n n) := HZYB.out.c 1
  refine wp_region_noPanic ?_
  refine wp_region_held_drew (S := fun w' => w'.cell? ⟨XB, 0, none⟩ = some (.slice ad D.length c) ∧ w'.cell? ⟨XB, 1, none⟩ = some (.slice bd n bc) ∧ w'.cell? ⟨YB, 0, none⟩ = some (.slice (some ⟨gx, 0, none⟩) D.length D.length) ∧ w'.cell? ⟨YB, 1, none⟩ = some (.slice (some ⟨bx, 0, none⟩) n n)) (by kernel_rfl) ⟨b0, b1, b2, b3⟩ (fun hHeld => ?_)
  clear HZXB HZYB
  have xl6 : XB < w6.heap.size := HBX.out.lt
  have yl6 : YB < w6.heap.size := HBY.out.lt
  replace HBX := hide (HBX.out.below hbc HBX.out.lt)
  replace HBY := hide (HBY.out.below hbc HBY.out.lt)
  replace HSr := hide (HSr.out.keep (fun k hk => hbc.block k (by omega)))
  replace HXd := hide (FX.below HXd.out hbc)
  replace HQm := hide (HQm.out.below hbc)
  replace HGr := hide (HGr.out.keep (fun k _ hk => hbc.block k hk))
  replace hLo := Nat.le_trans hLo hbc.size
  (try replace hLw := Nat.le_trans hLw hbc.size)
  replace hHi := Nat.le_trans hHi hbc.size
  replace hB := hB.trans (hbc.mono hB.size)
  clear hbc
  refine wpAnyH_take (i := 0) (oi := _) (v := ?_) rfl (by kernel_rfl) (by kernel_rfl) (by kernel_rfl) (fun _ _ _ h => h) (Or.inl ⟨by rfl, ?_⟩) (by assumption) ?_
  rotate_left 1
  · (intro w hSw; (try dsimp only at hSw); (first | (go_simp; done) | (go_simp; with_reducible rfl)))
  try simp only [Act.put, List.getElem_toArray, List.getElem_cons_zero, List.getElem_cons_succ, List.setIfInBounds_toArray, List.set_cons_zero, List.set_cons_succ]
  refine wpAnyH_take (i := 1) (oi := _) (v := ?_) rfl (by kernel_rfl) (by kernel_rfl) (by kernel_rfl) (fun _ _ _ h => h) (Or.inl ⟨by rfl, ?_⟩) (by assumption) ?_
  rotate_left 1
  · (intro w hSw; (try dsimp only at hSw); (first | (go_simp; done) | (go_simp; with_reducible rfl)))
  try simp only [Act.put, List.getElem_toArray, List.getElem_cons_zero, List.getElem_cons_succ, List.setIfInBounds_toArray, List.set_cons_zero, List.set_cons_succ]
  refine wpAnyH_ready (rs := [2]) (by kernel_rfl) (by simp) ?_
  refine AllReadyH.cons (o := _) rfl (fun K hK => ?_) AllReadyH.nil
  go_simp
  (with_reducible refine Calls.mono (HT.out _ hB) ?_)
  rintro r w7 ⟨g7, b7, rfl, hd7, -, hbc⟩
  have HD7 := hide hd7
  have e0 := (hbc.cell (p := ⟨XB, 0, none⟩) xl6).trans b0
  have e1 := (hbc.cell (p := ⟨XB, 1, none⟩) xl6).trans b1
  have e2 := (hbc.cell (p := ⟨YB, 0, none⟩) yl6).trans b2
  have e3 := (hbc.cell (p := ⟨YB, 1, none⟩) yl6).trans b3
  have xl7 : XB < w7.heap.size := Nat.lt_of_lt_of_le xl6 hbc.size
  have yl7 : YB < w7.heap.size := Nat.lt_of_lt_of_le yl6 hbc.size
  clear hd7
  replace HBX := hide (HBX.out.below hbc HBX.out.lt)
  replace HBY := hide (HBY.out.below hbc HBY.out.lt)
  replace HSr := hide (HSr.out.keep (fun k hk => hbc.block k (by omega)))
  replace HXd := hide (FX.below HXd.out hbc)
  replace HQm := hide (HQm.out.below hbc)
  replace HGr := hide (HGr.out.keep (fun k _ hk => hbc.block k hk))
  replace hLo := Nat.le_trans hLo hbc.size
  (try replace hLw := Nat.le_trans hLw hbc.size)
  replace hHi := Nat.le_trans hHi hbc.size
  replace hB := hB.trans (hbc.mono hB.size)
  clear hbc
  (try go_wp2_with fail)
  refine hK.out _ _ ⟨e0, e1, e2, e3⟩ (fun hHeld => ?_)
  clear hK K
  try simp only [Act.put, List.getElem_toArray, List.getElem_cons_zero, List.getElem_cons_succ, List.setIfInBounds_toArray, List.set_cons_zero, List.set_cons_succ]
  refine wpAnyH_ready (rs := [3]) (by kernel_rfl) (by simp) ?_
  refine AllReadyH.cons (o := _) rfl (fun K hK => ?_) AllReadyH.nil
  go_simp
  (with_reducible refine Calls.mono (eqFlow_row _ _ D n F _ (HDr.out _ _ _ HXd.out) (HDr.out _ _ _ HD7.out)) ?_)
  rintro r w8 ⟨rfl, hbc⟩
  have g0 := (hbc.cell (p := ⟨XB, 0, none⟩) xl7).trans e0
  have g1 := (hbc.cell (p := ⟨XB, 1, none⟩) xl7).trans e1
  have g2 := (hbc.cell (p := ⟨YB, 0, none⟩) yl7).trans e2
  have g3 := (hbc.cell (p := ⟨YB, 1, none⟩) yl7).trans e3
  replace HBX := hide (HBX.out.below hbc HBX.out.lt)
  replace HBY := hide (HBY.out.below hbc HBY.out.lt)
  replace HSr := hide (HSr.out.keep (fun k hk => hbc.block k (by omega)))
  replace HQm := hide (HQm.out.below hbc)
  replace HGr := hide (HGr.out.keep (fun k _ hk => hbc.block k hk))
  replace hLo := Nat.le_trans hLo hbc.size
  (try replace hLw := Nat.le_trans hLw hbc.size)
  replace hHi := Nat.le_trans hHi hbc.size
  replace hB := hB.trans (hbc.mono hB.size)
  clear hbc
  (try go_wp2_with fail)
  refine hK.out _ _ ⟨g0, g1, g2, g3⟩ (fun hHeld => ?_)
  clear hK K
  try simp only [Act.put, List.getElem_toArray, List.getElem_cons_zero, List.getElem_cons_succ, List.setIfInBounds_toArray, List.set_cons_zero, List.set_cons_succ]
  refine wpAnyH_take (i := 4) (oi := _) (v := ?_) rfl (by kernel_rfl) (by kernel_rfl) (by kernel_rfl) (fun _ _ _ h => h) (Or.inl ⟨by rfl, ?_⟩) (by assumption) ?_
  rotate_left 1
  · (intro w hSw; (try dsimp only at hSw); (first | (go_simp; done) | (go_simp; with_reducible rfl)))
  try simp only [Act.put, List.getElem_toArray, List.getElem_cons_zero, List.getElem_cons_succ, List.setIfInBounds_toArray, List.set_cons_zero, List.set_cons_succ]
  refine wpAnyH_done (by kernel_rfl) ?_ _
  refine NoPanic.normal ?_
  clear b0 b1 b2 b3 e0 e1 e2 e3 g0 g1 g2 g3 xl6 yl6 xl7 yl7 HD7 HXd
  have HMG : Hid (∀ (w' : World), FM w' w3.heap.size YB gx bx D F → Calls Try.prog 10 #[.agg #[.slice (some ⟨gx, 0, none⟩) D.length D.length, .slice (some ⟨bx, 0, none⟩) n n], .int .i64 1] w' fun e w'' => (∃ k : Nat, e = .returned (.int .i64 (k : Int))) ∧ Bet w3.heap.size YB w' w'') := hide (fun w' h => markFlow_w gx bx w3.heap.size YB 1 n D F w' HQF.out HSm.out HFl.out (by omega) h)
  have cY := HBY.out.c
  have lY := HBY.out.lt
  go_wp2_with fail
  clear cY lY
  refine Calls.mono (HMG.out _ HQm.out) ?_
  rintro r w9 ⟨⟨K2, rfl⟩, hO⟩
  replace HBX : Hid (Bx w9 XB _ _) := hide ((hO.block XB HBX.out.lt (.inl (by omega))).trans HBX.out)
  replace HSr := hide (HSr.out.keep (w' := w9) (fun k hk => hO.block k (by omega) (.inl hk)))
  replace HGr := hide (HGr.out.keep (w' := w9) (fun k h1 h2 => hO.block k h2 (.inr (by omega))))
  replace hB := hB.trans (hO.below hB.size (by omega))
  replace hLo := Nat.le_trans hLo hO.size
  (try replace hLw := Nat.le_trans hLw hO.size)
  replace hHi := Nat.le_trans hHi hO.size
  clear hO HQm HBY HMG
  have hk2 : ¬ ((K2 : Nat) : Int) < 0 := by omega
  go_wp2_with fail
  refine Calls.mono (eqIntSS_v _ _ FL _ (HGr.out.qv ⟨by omega, fun l hl => by have := hfl.2 l hl; omega⟩) HSr.out.here) ?_
  rintro r w10 ⟨rfl, hbc⟩
  replace HBX := hide (HBX.out.below hbc HBX.out.lt)
  replace HSr := hide (HSr.out.keep (fun k hk => hbc.block k (by omega)))
  replace HGr := hide (HGr.out.keep (fun k _ hk => hbc.block k hk))
  replace hLo := Nat.le_trans hLo hbc.size
  (try replace hLw := Nat.le_trans hLw hbc.size)
  replace hHi := Nat.le_trans hHi hbc.size
  replace hB := hB.trans (hbc.mono hB.size)
  clear hbc
  have HMk : Hid (∀ (v : Value) (base : Nat) (w' : World), base ≤ w'.heap.size → OO w' base v FL → Calls Try.prog 11 #[v, .int .i64 1] w' fun e w'' => e = .returned (.int .i64 ((1 + pf FL FL.length * 1 : Nat) : Int)) ∧ MM w'' v FL ∧ Below base w' w'') := hide (fun v base w' hbw h => markIntSS_any v base FL w' hbw hfl.1 hfl.2 h)
  have HHd : Hid (∀ (v : Value) (w' : World), MM w' v FL → Calls Try.prog 12 #[v, .int .i64 1] w' fun e w'' => e = .returned (.int .i64 ((1 + pf FL FL.length * 1 : Nat) : Int)) ∧ Below w'.heap.size w' w'') := hide (fun v w' h => heldIntSS_any v FL w' hfl.1 hfl.2 h)
  obtain ⟨KM, hKM⟩ : ∃ KM, KM = 1 + pf FL FL.length * 1 := ⟨_, rfl⟩
  rw [← hKM] at HMk HHd
  clear hKM
  go_wp2_with fail
  refine Calls.mono (HMk.out _ wy.heap.size _ hLw HGr.out) ?_
  rintro r w11 ⟨rfl, hmk, hbm⟩
  have HK := hide hmk
  replace HBX : Hid (Bx w11 XB _ _) := hide (HBX.out.below hbm (by omega))
  replace HSr := hide (HSr.out.keep (fun k hk => hbm.block k (by omega)))
  replace hB := hB.trans (hbm.mono hBy)
  replace hLo := Nat.le_trans hLo hbm.size
  replace hHi := Nat.le_trans hHi hbm.size
  clear hmk hbm HGr HMk
  go_wp2_with fail
  refine Calls.mono (HHd.out _ _ HK.out) ?_
  rintro r w12 ⟨rfl, hbc⟩
  replace HBX := hide (HBX.out.below hbc HBX.out.lt)
  replace HSr := hide (HSr.out.keep (fun k hk => hbc.block k (by omega)))
  replace HK := hide (HK.out.below hbc)
  replace hLo := Nat.le_trans hLo hbc.size
  (try replace hLw := Nat.le_trans hLw hbc.size)
  replace hHi := Nat.le_trans hHi hbc.size
  replace hB := hB.trans (hbc.mono hB.size)
  clear hbc
  have cX := HBX.out.c
  have lX := HBX.out.lt
  go_wp2_with fail
  clear cX lX
  refine Calls.mono (HT.out _ hB) ?_
  rintro r w13 ⟨gt, bt, rfl, hXd, -, hbc⟩
  have HXd := hide hXd
  clear hXd
  replace HBX := hide (HBX.out.below hbc HBX.out.lt)
  replace HSr := hide (HSr.out.keep (fun k hk => hbc.block k (by omega)))
  replace HK := hide (HK.out.below hbc)
  replace hLo := Nat.le_trans hLo hbc.size
  (try replace hLw := Nat.le_trans hLw hbc.size)
  replace hHi := Nat.le_trans hHi hbc.size
  replace hB := hB.trans (hbc.mono hB.size)
  clear hbc
  go_wp2_with fail
  refine Calls.mono (HI.out _ _ (HDr.out _ _ _ HXd.out)) ?_
  rintro r w14 ⟨vh, rfl, hoh, hbc⟩
  have HGr := hide hoh
  obtain ⟨ha, hc, rfl⟩ := hoh.form
  clear hoh HXd HBX
  replace HSr := hide (HSr.out.keep (fun k hk => hbc.block k (by omega)))
  replace HK := hide (HK.out.below hbc)
  replace hLo := Nat.le_trans hLo hbc.size
  (try replace hLw := Nat.le_trans hLw hbc.size)
  replace hHi := Nat.le_trans hHi hbc.size
  replace hB := hB.trans (hbc.mono hB.size)
  clear hbc
  go_wp2_with fail
  refine Calls.mono (eqIntSS_v _ _ FL _ (HGr.out.qv ⟨by omega, fun l hl => by have := hfl.2 l hl; omega⟩) HSr.out.here) ?_
  rintro r w15 ⟨rfl, hbc⟩
  replace HK := hide (HK.out.below hbc)
  replace hB := hB.trans (hbc.mono hB.size)
  clear hbc
  go_wp2_with fail
  refine Calls.mono (HHd.out _ _ HK.out) ?_
  rintro r w16 ⟨rfl, hbc⟩
  replace hB := hB.trans (hbc.mono hB.size)
  clear hbc
  go_wp2_with fail
  go_ret
  exact ⟨rfl, hB⟩

set_option maxRecDepth 100000 in
theorem lifted (os : Os) (started : os.Started) (H : Type) (enc : TypeId × Value → H) :
    ReturnsInHanded {} Try.checked os 3 .any (Rows.fnExactClashesOfSpec.pre6 enc Try.prog Try.f3 Rows.fnExactClashesOfRow.domain false) (Rows.fnExactClashesOfSpec.post enc Try.prog Try.f3 false true false false) := by
  refine returnsInHanded_of_change (C := Try.checked) own started (by kernel_rfl) Try.func3
    (ChangeSpec.witness6 (enc := enc) (C := Try.checked) false ⟨#[], #[.agg #[.slice none 0 0, .slice none 0 0]], []⟩ 8 (by kernel_rfl) (by kernel_rfl) (by kernel_rfl) (by kernel_rfl)) ?_
  intro W base args ds gs before hval0 hW hcnd _
  have hval : ∀ (j : Nat) t v, Try.f3.params[j]? = some t → args[j]? = some v → Value.okWide Try.prog W .any base t v := hval0
  have hW' := hW
  obtain ⟨p, q, hA0, hV, rfl, hfz, hnd⟩ := hW
  have hA : DataW.TrodAll enc Try.prog W 0 (fun _ => true) true Try.f3.params.toList args.toList ds p := hA0
  rw [Try.params3] at hA hval
  obtain ⟨v0, vs0, d0, ds0, p0, q0, hargs, rfl, rfl, h0, r0⟩ := trodAll_cons hA
  obtain ⟨rfl, rfl, rfl⟩ := trodAll_nil r0
  obtain rfl : args = #[v0] := by cases args; simp_all
  obtain ⟨rfl, rfl⟩ := trodVars_none hV
  have k0' := h0
  have lt0 : ∀ x ∈ p0, x.block < W.heap.size := by obtain ⟨m, hm⟩ := k0'; exact DataW.trod_lt m _ _ _ hm
  obtain ⟨D, ad, c, F, bd, bc, n, rfl, hD, nD, hlc, hBl, nF, hnb, hF⟩ := open_flow (hval 0 27 v0 rfl rfl) h0
  clear hA0 hval0
  refine (walk ad c D bd bc n F   W hD nD hlc hBl nF hnb hF ).mono fun e W' ⟨he, bel⟩ => ?_
  subst he
  exact ⟨_, rfl, _, _, _, [], _, [], hW', trodAll_mk1 (shut_bool Try.underlying4 _), (trodAll_cons_mk (Below.trod laidOut (by kernel_rfl) (of_decide_eq_true (by kernel_rfl)) k0' bel lt0) trodAll_mk0), rfl, bel.frame _, fun h => by cases h⟩

theorem over : Rows.fnExactClashesOfRow.holds Try.pinned (OpenSpec.ofChange Rows.fnExactClashesOfSpec) :=
  OpenClaim.holds_of_wide 3 Try.f3 rfl rfl rfl rfl rfl rfl rfl ⟨rfl, rfl, rfl, rfl, rfl⟩ rfl rfl rfl rfl rfl (by kernel_rfl) Try.func3 (by kernel_rfl)
    (of_decide_eq_true (by kernel_rfl)) (by unfold Func.isWrapper; first | (rw [if_pos (by decide +kernel)]; kernel_rfl) | (rw [if_neg (by decide +kernel)]; exact ⟨rfl, rfl⟩))
    (fun os started H enc _ => lifted os started H enc)
end Go.Proofs.Ytaniiolphghhiab.fnExactClashesOf

namespace Go.Proofs.Ytaniiolphghhiab
theorem fnExactClashesOf_holds : Rows.FnExactClashesOfSaid := fnExactClashesOf.over
#print axioms fnExactClashesOf_holds
end Go.Proofs.Ytaniiolphghhiab

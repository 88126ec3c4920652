/-
  Proved: whatever the arguments, the memory and the schedule, the law FnExactOwnerAt returns true, and its arguments read afterwards as they read before: OwnerAt of the program tells what the specification's tells, its answer is its own memory. No conditions. Written by wip/build/mk_lawj.py.
-/
import Derived.Test.YtochhnibegcbpaaJnX
import Derived.Test.YtochhnibegcbpaaJnL
import Derived.Deep.RegionHeld3
import Derived.Deep.RegionLaw
import Derived.Deep.AppendLies
import Derived.Deep.CutRange
import Derived.Lib.SmallJoins
import Derived.ChangeOld
import Derived.Below
namespace Go.Proofs.Ytochhnibegcbpaa.fnExactOwnerAt
open Go.ChangeShapes Go.WideShapes Go.ChangeAt Go.RowKit
open Go.Proofs.Ytochhnibegcbpaa.W Go.Joins
set_option linter.unusedVariables false
set_option linter.unusedSimpArgs false

theorem own : ownKnob Try.prog.godebug = none := by kernel_rfl
theorem laidOut : laidOutB Try.prog = true := by kernel_rfl

set_option maxRecDepth 20000 in
set_option maxHeartbeats 8000000 in
theorem walk (ad : Option Addr) (c : Nat) (D : List (List Int)) (als : Option Addr) (cls : Nat) (ls : List Int) (w : World) (hD : QRow w ad D) (nD : QFit D) (hlc : D.length ≤ c) (hls : IRow w als ls) (nls : ls.length ≤ maxLen) :
    Calls Try.prog 6 #[.agg #[.slice ad D.length c], .slice als ls.length cls] w fun r w' => r = .returned (.bool true) ∧ Below w.heap.size w w' := by
  have HR := hide hD
  clear hD
  have HRls := hide hls
  have mls : (ls.length : Int) ≤ 9223372036854775807 := by unfold maxLen at nls; omega
  clear hls nls
  go_enter Try.func6, Try.ntmps6
  go_upto_region 1 with fail
  have HBX := hide (Bx.new w #[.slice ad D.length c] 24)
  have hB : Below w.heap.size w (w.alloc (.cells #[.slice ad D.length c] 24)) := (Below.refl _ _).alloc (Nat.le_refl _) _
  obtain ⟨w0, hw0⟩ : ∃ w0, w0 = w.alloc (.cells #[.slice ad D.length c] 24) := ⟨_, rfl⟩
  obtain ⟨XB, hXB⟩ : ∃ XB, XB = w.heap.size := ⟨_, rfl⟩
  rw [← hw0] at HBX hB ⊢
  rw [← hXB] at HBX ⊢
  have hXw : w.heap.size ≤ XB := by omega
  clear hw0 hXB
  have cX := HBX.out.c
  by_cases bigls : (1048576 : Int) < (ls.length : Int)
  · go_wp2_with fail
    go_ret
    exact ⟨rfl, hB⟩
  have HLls : Hid (ls.length ≤ 1048576) := hide (by omega)
  go_wp2_with fail
  refine Calls.mono (szGraph_any ad c D 1048576 nD HR.out (by omega) (by omega) _ hB) ?_
  rintro r w1 ⟨r, rfl, hr, hbc⟩
  replace HBX := hide (HBX.out.below hbc HBX.out.lt)
  replace hB := hB.trans (hbc.mono hB.size)
  clear hbc
  clear cX nD mls
  by_cases hneg : r < 0
  · clear hr
    go_wp2_with fail
    go_ret
    exact ⟨rfl, hB⟩
  have hQF := hr.resolve_left hneg
  clear hr
  have HQF := hide hQF
  have HT := hide (fun (w' : World) (hb : Below w.heap.size w w') => toGraph_any (.agg #[.slice ad D.length c]) D w' ⟨ad, c, rfl, QRow.below HR.out hb, hQF, hlc⟩)
  have HTls : Hid (∀ (w' : World), Below w.heap.size w w' → Calls Try.prog 19 #[.slice als ls.length cls] w' fun e w'' => ∃ g, e = .returned (.slice (some ⟨g, 0, none⟩) ls.length ls.length) ∧ w'.heap.size ≤ g ∧ IBlk w'' g ls ∧ Below w'.heap.size w' w'') := hide (fun w' hb => (toIntS_any als cls ls w' HLls.out (RRow.below HRls.out hb)).mono (fun e w'' h => ⟨_, h.1, Nat.le_refl _, h.2.1, h.2.2⟩))
  have HQls : Hid (∀ (w' : World) (g1 g2 : Nat), IBlk w' g1 ls → IBlk w' g2 ls → Calls Try.prog 21 #[.slice (some ⟨g1, 0, none⟩) ls.length ls.length, .slice (some ⟨g2, 0, none⟩) ls.length ls.length] w' fun e w'' => e = .returned (.bool true) ∧ Below w'.heap.size w' w'') := hide (fun w' g1 g2 h1 h2 => eqIntS_v _ _ ls _ ⟨_, _, rfl, h1.row, HLls.out⟩ ⟨_, _, rfl, h2.row, HLls.out⟩)
  have HS := hide (fun (vd vls : Value) (w' : World) (hd : GRow w' vd D) (hvls : NV w' vls ls) => specOwner_any vd vls D ls w' hd hvls HLls.out)
  have HI := hide (fun (vd vls : Value) (w' : World) (hd : GRow w' vd D) (hvls : NV w' vls ls) => implOwner_any vd vls D ls w' hd hvls HLls.out)
  have HDr : Hid (∀ (w' : World) (g : Nat), QBlk w' g D → GRow w' (.agg #[.slice (some ⟨g, 0, none⟩) D.length D.length]) D) := hide (fun w' g h => ⟨_, _, rfl, h.row, hQF, Nat.le_refl _⟩)
  have hfl : (owR D ls).length ≤ 1048576 := by have := owR_len D ls; omega
  obtain ⟨FL, hFL⟩ : ∃ FL, FL = owR D ls := ⟨_, rfl⟩
  rw [← hFL] at HS HI hfl
  clear hFL
  obtain ⟨B1, hB1⟩ : ∃ B1, B1 = joB D ls := ⟨_, rfl⟩
  rw [← hB1] at HS HI
  clear hB1 HR hQF HRls
  obtain ⟨Nls, hNls⟩ : ∃ Nls, Nls = ls.length := ⟨_, rfl⟩
  have HNels := hide hNls
  have HNvls : Hid (∀ (w' : World) (g : Nat), IBlk w' g ls → NV w' (.slice (some ⟨g, 0, none⟩) Nls Nls) ls) := hide (fun w' g h => by rw [hNls]; exact h.nv)
  rw [← hNls] at HTls HQls ⊢
  clear hNls bigls
  have cX := HBX.out.c
  have lX := HBX.out.lt
  go_wp2_with fail
  clear cX lX
  refine Calls.mono (HT.out _ hB) ?_
  rintro r w2 ⟨gs, rfl, -, hXd, hbc⟩
  have HDs := hide hXd
  clear hXd
  replace HBX := hide (HBX.out.below hbc HBX.out.lt)
  replace hB := hB.trans (hbc.mono hB.size)
  clear hbc
  go_wp2_with fail
  refine Calls.mono (HTls.out _ hB) ?_
  rintro r w3 ⟨gsls, rfl, -, hI, hbc⟩
  have HIsls := hide hI
  clear hI
  replace HBX := hide (HBX.out.below hbc HBX.out.lt)
  replace hB := hB.trans (hbc.mono hB.size)
  replace HDs := hide (HDs.out.below hbc)
  clear hbc
  go_wp2_with fail
  refine Calls.mono (HS.out _ _ _ (HDr.out _ _ HDs.out) (HNvls.out _ _ HIsls.out)) ?_
  rintro r w4 ⟨vs, rfl, hos, hbc⟩
  have HSr := hide hos.stay
  obtain ⟨sa, sc, rfl, -⟩ := hos.form
  clear hos HDs HIsls HS
  replace HBX := hide (HBX.out.below hbc HBX.out.lt)
  replace hB := hB.trans (hbc.mono hB.size)
  clear hbc
  have hLo : w4.heap.size ≤ w4.heap.size := Nat.le_refl _
  have hXl : XB < w4.heap.size := HBX.out.lt
  have cX := HBX.out.c
  have lX := HBX.out.lt
  go_wp2_with fail
  clear cX lX
  refine Calls.mono (HT.out _ hB) ?_
  rintro r w5 ⟨gx, rfl, hgx, hXd, hbc⟩
  have HXd := hide hXd
  have HQm := hide (hXd.qm (lo := w4.heap.size) hgx)
  clear hXd
  replace HBX := hide (HBX.out.below hbc HBX.out.lt)
  replace HSr := hide (HSr.out.keep (fun k hk => hbc.block k (by omega)))
  replace hLo := Nat.le_trans hLo hbc.size
  replace hB := hB.trans (hbc.mono hB.size)
  clear hbc
  have hHi : w5.heap.size ≤ w5.heap.size := Nat.le_refl _
  have hbc : Below w5.heap.size w5 (w5.alloc (.cells #[.slice (some ⟨gx, 0, none⟩) D.length D.length] 28)) := (Below.refl _ _).alloc (Nat.le_refl _) _
  have HBY := hide (Bx.new w5 #[.slice (some ⟨gx, 0, none⟩) D.length D.length] 28)
  replace HBX := hide (HBX.out.below hbc HBX.out.lt)
  replace HSr := hide (HSr.out.keep (fun k hk => hbc.block k (by omega)))
  replace HXd := hide (QBlk.below HXd.out hbc)
  replace HQm := hide (HQm.out.below hbc)
  replace hLo := Nat.le_trans hLo hbc.size
  replace hHi := Nat.le_trans hHi hbc.size
  replace hB := hB.trans (hbc.mono hB.size)
  clear hbc
  go_upto_region 9 with fail
  obtain ⟨wy, hwy⟩ : ∃ wy, wy = w5.alloc (.cells #[.slice (some ⟨gx, 0, none⟩) D.length D.length] 28) := ⟨_, rfl⟩
  obtain ⟨YB, hYB⟩ : ∃ YB, YB = w5.heap.size := ⟨_, rfl⟩
  rw [← hwy] at HBX HSr HXd HQm hLo hHi hB HBY ⊢
  rw [← hYB] at HBY HQm hHi ⊢
  have hYl : YB < wy.heap.size := HBY.out.lt
  clear hwy hYB
  go_wp2_with fail
  refine Calls.mono (HTls.out _ hB) ?_
  rintro r w6 ⟨gpls, rfl, hgpls, hI, hbc⟩
  have HPls := hide hI
  have hF1ls : w4.heap.size ≤ gpls := Nat.le_trans hLo hgpls
  have hF2ls : YB ≤ gpls := Nat.le_trans hHi hgpls
  have hplls : gpls < w6.heap.size := hI.lt
  clear hI
  replace HBX := hide (HBX.out.below hbc HBX.out.lt)
  replace HBY := hide (HBY.out.below hbc HBY.out.lt)
  replace HSr := hide (HSr.out.keep (fun k hk => hbc.block k (by omega)))
  replace HXd := hide (QBlk.below HXd.out hbc)
  replace HQm := hide (HQm.out.below hbc)
  replace hLo := Nat.le_trans hLo hbc.size
  replace hHi := Nat.le_trans hHi hbc.size
  replace hB := hB.trans (hbc.mono hB.size)
  clear hbc
  have hF3 : w4.heap.size ≤ w6.heap.size := hLo
  have hF4 : YB ≤ w6.heap.size := hHi
  have cY := HBY.out.c
  have lY := HBY.out.lt
  go_wp2_with fail
  clear cY lY
  refine Calls.mono (HI.out _ _ _ (HDr.out _ _ HXd.out) (HNvls.out _ _ HPls.out)) ?_
  rintro r w7 ⟨vg, rfl, hog, hbc⟩
  have HGr := hide hog
  have HGx := hide (own_ge hog)
  obtain ⟨ga, gc, rfl⟩ := own_form hog
  clear hog
  replace HBX := hide (HBX.out.below hbc HBX.out.lt)
  replace HBY := hide (HBY.out.below hbc HBY.out.lt)
  replace HSr := hide (HSr.out.keep (fun k hk => hbc.block k (by omega)))
  replace HXd := hide (QBlk.below HXd.out hbc)
  replace HQm := hide (HQm.out.below hbc)
  replace hLo := Nat.le_trans hLo hbc.size
  replace hHi := Nat.le_trans hHi hbc.size
  replace hB := hB.trans (hbc.mono hB.size)
  replace HPls := hide (HPls.out.below hbc)
  clear hbc
  go_wp2_with fail
  refine Calls.mono (eqIntS_v _ _ FL _ (iv_own HGr.out rfl hfl) (HSr.out.here.iv hfl)) ?_
  rintro r w8 ⟨rfl, hbc⟩
  replace HBX := hide (HBX.out.below hbc HBX.out.lt)
  replace HBY := hide (HBY.out.below hbc HBY.out.lt)
  replace HSr := hide (HSr.out.keep (fun k hk => hbc.block k (by omega)))
  replace HXd := hide (QBlk.below HXd.out hbc)
  replace HQm := hide (HQm.out.below hbc)
  replace HGr := hide (own_keep HGr.out (fun k _ hk => hbc.block k hk))
  replace hLo := Nat.le_trans hLo hbc.size
  replace hHi := Nat.le_trans hHi hbc.size
  replace hB := hB.trans (hbc.mono hB.size)
  replace HPls := hide (HPls.out.below hbc)
  clear hbc
  go_wp2_with fail
  have hbc : Below w8.heap.size w8 w8.drew := belowDrew8 (Below.refl _ _)
  have HZXB := HBX
  have HZYB := HBY
  have b0 : w8.cell? ⟨XB, 0, none⟩ = some (.slice ad D.length c) := HZXB.out.c 0
  have b1 : w8.cell? ⟨YB, 0, none⟩ = some (.slice (some ⟨gx, 0, none⟩) D.length D.length) := HZYB.out.c 0
  refine wp_region_noPanic ?_
  refine wp_region_held_drew (S := fun w' => w'.cell? ⟨XB, 0, none⟩ = some (.slice ad D.length c) ∧ w'.cell? ⟨YB, 0, none⟩ = some (.slice (some ⟨gx, 0, none⟩) D.length D.length)) (by kernel_rfl) ⟨b0, b1⟩ (fun hHeld => ?_)
  clear HZXB HZYB
  have xl6 : XB < w8.heap.size := HBX.out.lt
  have yl6 : YB < w8.heap.size := HBY.out.lt
  replace HBX := hide (HBX.out.below hbc HBX.out.lt)
  replace HBY := hide (HBY.out.below hbc HBY.out.lt)
  replace HSr := hide (HSr.out.keep (fun k hk => hbc.block k (by omega)))
  replace HXd := hide (QBlk.below HXd.out hbc)
  replace HQm := hide (HQm.out.below hbc)
  replace HGr := hide (own_keep HGr.out (fun k _ hk => hbc.block k hk))
  replace hLo := Nat.le_trans hLo hbc.size
  replace hHi := Nat.le_trans hHi hbc.size
  replace hB := hB.trans (hbc.mono hB.size)
  replace HPls := hide (HPls.out.below hbc)
  clear hbc
  refine wpAnyH_take (i := 0) (oi := _) (v := ?_) rfl (by kernel_rfl) (by kernel_rfl) (by kernel_rfl) (fun _ _ _ h => h) (Or.inl ⟨by rfl, ?_⟩) (by assumption) ?_
  rotate_left 1
  · (intro w hSw; (try dsimp only at hSw); (first | (go_simp; done) | (go_simp; with_reducible rfl)))
  try simp only [Act.put, List.getElem_toArray, List.getElem_cons_zero, List.getElem_cons_succ, List.setIfInBounds_toArray, List.set_cons_zero, List.set_cons_succ]
  refine wpAnyH_take (i := 1) (oi := _) (v := ?_) rfl (by kernel_rfl) (by kernel_rfl) (by kernel_rfl) (fun _ _ _ h => h) (Or.inl ⟨by rfl, ?_⟩) (by assumption) ?_
  rotate_left 1
  · (intro w hSw; (try dsimp only at hSw); (first | (go_simp; done) | (go_simp; with_reducible rfl)))
  try simp only [Act.put, List.getElem_toArray, List.getElem_cons_zero, List.getElem_cons_succ, List.setIfInBounds_toArray, List.set_cons_zero, List.set_cons_succ]
  refine wpAnyH_ready (rs := [2]) (by kernel_rfl) (by simp) ?_
  refine AllReadyH.cons (o := _) rfl (fun K hK => ?_) AllReadyH.nil
  go_simp
  (with_reducible refine Calls.mono (HT.out _ hB) ?_)
  rintro r w9 ⟨g7, rfl, -, hd7, hbc⟩
  have HD7 := hide hd7
  have e0 := (hbc.cell (p := ⟨XB, 0, none⟩) xl6).trans b0
  have e1 := (hbc.cell (p := ⟨YB, 0, none⟩) yl6).trans b1
  have xl7 : XB < w9.heap.size := Nat.lt_of_lt_of_le xl6 hbc.size
  have yl7 : YB < w9.heap.size := Nat.lt_of_lt_of_le yl6 hbc.size
  clear hd7
  replace HBX := hide (HBX.out.below hbc HBX.out.lt)
  replace HBY := hide (HBY.out.below hbc HBY.out.lt)
  replace HSr := hide (HSr.out.keep (fun k hk => hbc.block k (by omega)))
  replace HXd := hide (QBlk.below HXd.out hbc)
  replace HQm := hide (HQm.out.below hbc)
  replace HGr := hide (own_keep HGr.out (fun k _ hk => hbc.block k hk))
  replace hLo := Nat.le_trans hLo hbc.size
  replace hHi := Nat.le_trans hHi hbc.size
  replace hB := hB.trans (hbc.mono hB.size)
  replace HPls := hide (HPls.out.below hbc)
  clear hbc
  (try go_wp2_with fail)
  refine hK.out _ _ ⟨e0, e1⟩ (fun hHeld => ?_)
  clear hK K
  try simp only [Act.put, List.getElem_toArray, List.getElem_cons_zero, List.getElem_cons_succ, List.setIfInBounds_toArray, List.set_cons_zero, List.set_cons_succ]
  refine wpAnyH_ready (rs := [3]) (by kernel_rfl) (by simp) ?_
  refine AllReadyH.cons (o := _) rfl (fun K hK => ?_) AllReadyH.nil
  go_simp
  (with_reducible refine Calls.mono (eqGraph_row _ _ D _ (HDr.out _ _ HXd.out) (HDr.out _ _ HD7.out)) ?_)
  rintro r w10 ⟨rfl, hbc⟩
  have g0 := (hbc.cell (p := ⟨XB, 0, none⟩) xl7).trans e0
  have g1 := (hbc.cell (p := ⟨YB, 0, none⟩) yl7).trans e1
  replace HBX := hide (HBX.out.below hbc HBX.out.lt)
  replace HBY := hide (HBY.out.below hbc HBY.out.lt)
  replace HSr := hide (HSr.out.keep (fun k hk => hbc.block k (by omega)))
  replace HQm := hide (HQm.out.below hbc)
  replace HGr := hide (own_keep HGr.out (fun k _ hk => hbc.block k hk))
  replace hLo := Nat.le_trans hLo hbc.size
  replace hHi := Nat.le_trans hHi hbc.size
  replace hB := hB.trans (hbc.mono hB.size)
  replace HPls := hide (HPls.out.below hbc)
  clear hbc
  (try go_wp2_with fail)
  refine hK.out _ _ ⟨g0, g1⟩ (fun hHeld => ?_)
  clear hK K
  try simp only [Act.put, List.getElem_toArray, List.getElem_cons_zero, List.getElem_cons_succ, List.setIfInBounds_toArray, List.set_cons_zero, List.set_cons_succ]
  refine wpAnyH_take (i := 4) (oi := _) (v := ?_) rfl (by kernel_rfl) (by kernel_rfl) (by kernel_rfl) (fun _ _ _ h => h) (Or.inl ⟨by rfl, ?_⟩) (by assumption) ?_
  rotate_left 1
  · (intro w hSw; (try dsimp only at hSw); (first | (go_simp; done) | (go_simp; with_reducible rfl)))
  try simp only [Act.put, List.getElem_toArray, List.getElem_cons_zero, List.getElem_cons_succ, List.setIfInBounds_toArray, List.set_cons_zero, List.set_cons_succ]
  refine wpAnyH_done (by kernel_rfl) ?_ _
  refine NoPanic.normal ?_
  clear b0 b1 e0 e1 g0 g1 xl6 yl6 xl7 yl7 HD7 HXd
  go_wp2_with fail
  refine Calls.mono (HTls.out _ hB) ?_
  rintro r w11 ⟨gqls, rfl, -, hI, hbc⟩
  have HI8 := hide hI
  clear hI
  replace HBX := hide (HBX.out.below hbc HBX.out.lt)
  replace HBY := hide (HBY.out.below hbc HBY.out.lt)
  replace HSr := hide (HSr.out.keep (fun k hk => hbc.block k (by omega)))
  replace HQm := hide (HQm.out.below hbc)
  replace HGr := hide (own_keep HGr.out (fun k _ hk => hbc.block k hk))
  replace hLo := Nat.le_trans hLo hbc.size
  replace hHi := Nat.le_trans hHi hbc.size
  replace hB := hB.trans (hbc.mono hB.size)
  replace HPls := hide (HPls.out.below hbc)
  clear hbc
  go_wp2_with fail
  refine Calls.mono (HQls.out _ _ _ HPls.out HI8.out) ?_
  rintro r w12 ⟨rfl, hbc⟩
  clear HI8
  replace HBX := hide (HBX.out.below hbc HBX.out.lt)
  replace HBY := hide (HBY.out.below hbc HBY.out.lt)
  replace HSr := hide (HSr.out.keep (fun k hk => hbc.block k (by omega)))
  replace HQm := hide (HQm.out.below hbc)
  replace HGr := hide (own_keep HGr.out (fun k _ hk => hbc.block k hk))
  replace hLo := Nat.le_trans hLo hbc.size
  replace hHi := Nat.le_trans hHi hbc.size
  replace hB := hB.trans (hbc.mono hB.size)
  replace HPls := hide (HPls.out.below hbc)
  clear hbc
  have HMG : Hid (∀ (w' : World), QM w' w4.heap.size YB gx D → YB ≤ w'.heap.size → Calls Try.prog 15 #[.agg #[.slice (some ⟨gx, 0, none⟩) D.length D.length], .int .i64 1] w' fun e w'' => (∃ k : Nat, e = .returned (.int .i64 (k : Int)) ∧ k ≤ 1000000000000000) ∧ Bet w4.heap.size YB w' w'') := hide (fun w' h hh => markGraph_b gx w4.heap.size YB D.length 1 D w' HQF.out (by omega) h hh)
  have cY := HBY.out.c
  have lY := HBY.out.lt
  go_wp2_with fail
  clear cY lY
  refine Calls.mono (HMG.out _ HQm.out hHi) ?_
  rintro r w13 ⟨⟨K2, rfl, hK2⟩, hO⟩
  replace HBX : Hid (Bx w13 XB _ _) := hide ((hO.block XB HBX.out.lt (.inl (by omega))).trans HBX.out)
  replace HSr := hide (HSr.out.keep (w' := w13) (fun k hk => hO.block k (by omega) (.inl hk)))
  replace HGr := hide (own_keep HGr.out (w' := w13) (fun k h1 h2 => hO.block k h2 (.inr (by omega))))
  obtain ⟨culs, hcls, hfls⟩ := HPls.out
  replace hcls : w13.heap[gpls]? = some (.cells culs 3 (0, 0)) := (hO.block gpls (Array.getElem?_eq_some_iff.1 hcls).1 (.inr (by omega))).trans hcls
  have hzls : Nls ≤ culs.size := by have := hfls.1; have := HNels.out; omega
  clear hfls HPls
  replace hB := hB.trans (hO.below hB.size (by omega))
  replace hLo := Nat.le_trans hLo hO.size
  replace hHi := Nat.le_trans hHi hO.size
  clear hO HQm HBY HMG
  have HMS : Hid (∀ (w' : World), w'.heap[gpls]? = some (.cells culs 3 (0, 0)) → Calls Try.prog 22 #[.slice (some ⟨gpls, 0, none⟩) Nls Nls, .int .i64 (K2 : Int)] w' fun e w'' => (∃ k : Nat, e = .returned (.int .i64 (k : Int))) ∧ Oth gpls w' w'') := hide (fun w' h => (markIntS_w gpls Nls Nls K2 culs w' (by have := HLls.out; have := HNels.out; omega) hK2 h hzls).mono (fun e w'' h => ⟨⟨_, h.1⟩, h.2.2⟩))
  have Hcls := hide hcls
  clear hcls hzls hK2
  go_wp2_with fail
  refine Calls.mono (HMS.out _ Hcls.out) ?_
  rintro r w14 ⟨⟨K3, rfl⟩, hO⟩
  replace HBX : Hid (Bx w14 XB _ _) := hide ((hO.block XB HBX.out.lt (by omega)).trans HBX.out)
  replace HSr := hide (HSr.out.keep (w' := w14) (fun k hk => hO.block k (by omega) (by omega)))
  replace HGr := hide (own_keep HGr.out (w' := w14) (fun k h1 h2 => hO.block k h2 (by omega)))
  replace hB := hB.trans (hO.below hB.size (by omega))
  replace hLo := Nat.le_trans hLo hO.size
  replace hHi := Nat.le_trans hHi hO.size
  clear hO HMS Hcls
  have hk3 : ¬ ((K3 : Nat) : Int) < 0 := by omega
  go_wp2_with fail
  refine Calls.mono (eqIntS_v _ _ FL _ (iv_own HGr.out rfl hfl) (HSr.out.here.iv hfl)) ?_
  rintro r w15 ⟨rfl, hbc⟩
  replace HBX := hide (HBX.out.below hbc HBX.out.lt)
  replace HSr := hide (HSr.out.keep (fun k hk => hbc.block k (by omega)))
  replace HGr := hide (own_keep HGr.out (fun k _ hk => hbc.block k hk))
  replace hLo := Nat.le_trans hLo hbc.size
  replace hHi := Nat.le_trans hHi hbc.size
  replace hB := hB.trans (hbc.mono hB.size)
  clear hbc
  have HMk : Hid (∀ (v : Value) (base : Nat) (xs : List Value) (w' : World), w'.ownsRow base 3 1 v FL.length xs → Calls Try.prog 22 #[v, .int .i64 1] w' fun e w'' => e = .returned (.int .i64 ((1 + FL.length * 1 : Nat) : Int)) ∧ RMk iM w'' v 3 1 1 FL.length ∧ w'.grownBy w'' v.ownBlock) := hide (fun v base xs w' h => markIntS_own v base FL.length 1 xs w' hfl (by omega) h)
  have HHd : Hid (∀ (v : Value) (w' : World), RMk iM w' v 3 1 1 FL.length → Calls Try.prog 23 #[v, .int .i64 1] w' fun e w'' => e = .returned (.int .i64 ((1 + FL.length * 1 : Nat) : Int)) ∧ Below w'.heap.size w' w'') := hide (fun v w' h => heldIntS_own v FL.length 1 w' hfl (by omega) h)
  obtain ⟨KM, hKM⟩ : ∃ KM, KM = 1 + FL.length * 1 := ⟨_, rfl⟩
  rw [← hKM] at HMk HHd
  clear hKM
  go_wp2_with fail
  refine Calls.mono (HMk.out _ _ _ _ HGr.out) ?_
  rintro r w16 ⟨rfl, hmk, hgr⟩
  have HK := hide hmk
  replace HBX : Hid (Bx w16 XB _ _) := hide ((hgr.block XB HBX.out.lt (fun e => by have := HGx.out XB e.symm; omega)).trans HBX.out)
  replace HSr := hide (HSr.out.keep (fun k hk => hgr.block k (by omega) (fun e => by have := HGx.out k e.symm; omega)))
  replace hB := hB.grown hgr hB.size (fun k hk => by have := HGx.out k hk; omega)
  replace hLo := Nat.le_trans hLo hgr.size
  replace hHi := Nat.le_trans hHi hgr.size
  clear hmk hgr HGr HMk
  go_wp2_with fail
  refine Calls.mono (HHd.out _ _ HK.out) ?_
  rintro r w17 ⟨rfl, hbc⟩
  replace HBX := hide (HBX.out.below hbc HBX.out.lt)
  replace HSr := hide (HSr.out.keep (fun k hk => hbc.block k (by omega)))
  replace HK := hide (HK.out.below hbc)
  replace hLo := Nat.le_trans hLo hbc.size
  replace hHi := Nat.le_trans hHi hbc.size
  replace hB := hB.trans (hbc.mono hB.size)
  clear hbc
  have cX := HBX.out.c
  have lX := HBX.out.lt
  go_wp2_with fail
  clear cX lX
  refine Calls.mono (HT.out _ hB) ?_
  rintro r w18 ⟨gt, rfl, -, hXd, hbc⟩
  have HDt := hide hXd
  clear hXd
  replace HBX := hide (HBX.out.below hbc HBX.out.lt)
  replace HSr := hide (HSr.out.keep (fun k hk => hbc.block k (by omega)))
  replace HK := hide (HK.out.below hbc)
  replace hLo := Nat.le_trans hLo hbc.size
  replace hHi := Nat.le_trans hHi hbc.size
  replace hB := hB.trans (hbc.mono hB.size)
  clear hbc
  go_wp2_with fail
  refine Calls.mono (HTls.out _ hB) ?_
  rintro r w19 ⟨gtls, rfl, -, hI, hbc⟩
  have HItls := hide hI
  clear hI
  replace HBX := hide (HBX.out.below hbc HBX.out.lt)
  replace HSr := hide (HSr.out.keep (fun k hk => hbc.block k (by omega)))
  replace HK := hide (HK.out.below hbc)
  replace hLo := Nat.le_trans hLo hbc.size
  replace hHi := Nat.le_trans hHi hbc.size
  replace hB := hB.trans (hbc.mono hB.size)
  replace HDt := hide (HDt.out.below hbc)
  clear hbc
  go_wp2_with fail
  refine Calls.mono (HI.out _ _ _ (HDr.out _ _ HDt.out) (HNvls.out _ _ HItls.out)) ?_
  rintro r w20 ⟨vh, rfl, hoh, hbc⟩
  have HGr := hide hoh
  obtain ⟨ha, hc, rfl⟩ := own_form hoh
  clear hoh HDt HItls HBX
  replace HSr := hide (HSr.out.keep (fun k hk => hbc.block k (by omega)))
  replace HK := hide (HK.out.below hbc)
  replace hLo := Nat.le_trans hLo hbc.size
  replace hHi := Nat.le_trans hHi hbc.size
  replace hB := hB.trans (hbc.mono hB.size)
  clear hbc
  go_wp2_with fail
  refine Calls.mono (eqIntS_v _ _ FL _ (iv_own HGr.out rfl hfl) (HSr.out.here.iv hfl)) ?_
  rintro r w21 ⟨rfl, hbc⟩
  replace HK := hide (HK.out.below hbc)
  replace hB := hB.trans (hbc.mono hB.size)
  clear hbc
  go_wp2_with fail
  refine Calls.mono (HHd.out _ _ HK.out) ?_
  rintro r w22 ⟨rfl, hbc⟩
  replace hB := hB.trans (hbc.mono hB.size)
  clear hbc
  go_wp2_with fail
  go_ret
  exact ⟨rfl, hB⟩

set_option maxRecDepth 100000 in
theorem lifted (os : Os) (started : os.Started) (H : Type) (enc : TypeId × Value → H) :
    ReturnsInHanded {} Try.checked os 6 .any (Rows.fnExactOwnerAtSpec.pre6 enc Try.prog Try.f6 Rows.fnExactOwnerAtRow.domain false) (Rows.fnExactOwnerAtSpec.post enc Try.prog Try.f6 false true false false) := by
  refine returnsInHanded_of_change (C := Try.checked) own started (by kernel_rfl) Try.func6
    (ChangeSpec.witness6 (enc := enc) (C := Try.checked) false ⟨#[], #[.agg #[.slice none 0 0], .slice none 0 0], []⟩ 8 (by kernel_rfl) (by kernel_rfl) (by kernel_rfl) (by kernel_rfl)) ?_
  intro W base args ds gs before hval0 hW hcnd _
  have hval : ∀ (j : Nat) t v, Try.f6.params[j]? = some t → args[j]? = some v → Value.okWide Try.prog W .any base t v := hval0
  have hW' := hW
  obtain ⟨p, q, hA0, hV, rfl, hfz, hnd⟩ := hW
  have hA : DataW.TrodAll enc Try.prog W 0 (fun _ => true) true Try.f6.params.toList args.toList ds p := hA0
  rw [Try.params6] at hA hval
  obtain ⟨v0, vs0, d0, ds0, p0, q0, hargs, rfl, rfl, h0, r0⟩ := trodAll_cons hA
  obtain ⟨v1, vs1, d1, ds1, p1, q1, rfl, rfl, rfl, h1, r1⟩ := trodAll_cons r0
  obtain ⟨rfl, rfl, rfl⟩ := trodAll_nil r1
  obtain rfl : args = #[v0, v1] := by cases args; simp_all
  obtain ⟨rfl, rfl⟩ := trodVars_none hV
  have k0' := h0
  have k1' := h1
  have lt0 : ∀ x ∈ p0, x.block < W.heap.size := by obtain ⟨m, hm⟩ := k0'; exact DataW.trod_lt m _ _ _ hm
  have lt1 : ∀ x ∈ p1, x.block < W.heap.size := by obtain ⟨m, hm⟩ := k1'; exact DataW.trod_lt m _ _ _ hm
  obtain ⟨D, ad, c, rfl, hD, nD, hlc⟩ := open_graph (hval 0 24 v0 rfl rfl) h0
  obtain ⟨als, zls, cls, rfl⟩ := okWide_slice Try.underlying35 (hval 1 35 v1 rfl rfl)
  obtain ⟨fuls, hfls⟩ := h1
  obtain ⟨ls, rfl, nls, hls⟩ := open_ints hfls
  clear hA0 hval0
  refine (walk ad c D als cls ls W hD nD hlc hls nls).mono fun e W' ⟨he, bel⟩ => ?_
  subst he
  exact ⟨_, rfl, _, _, _, [], _, [], hW', trodAll_mk1 (shut_bool Try.underlying4 _), (trodAll_cons_mk (Below.trod laidOut (by kernel_rfl) (of_decide_eq_true (by kernel_rfl)) k0' bel lt0) (trodAll_cons_mk (Below.trod laidOut (by kernel_rfl) (of_decide_eq_true (by kernel_rfl)) k1' bel lt1) trodAll_mk0)), rfl, bel.frame _, fun h => by cases h⟩

theorem over : Rows.fnExactOwnerAtRow.holds Try.pinned (OpenSpec.ofChange Rows.fnExactOwnerAtSpec) :=
  OpenClaim.holds_of_wide 6 Try.f6 rfl rfl rfl rfl rfl rfl rfl ⟨rfl, rfl, rfl, rfl, rfl⟩ rfl rfl rfl rfl rfl (by kernel_rfl) Try.func6 (by kernel_rfl)
    (of_decide_eq_true (by kernel_rfl)) (by unfold Func.isWrapper; first | (rw [if_pos (by decide +kernel)]; kernel_rfl) | (rw [if_neg (by decide +kernel)]; exact ⟨rfl, rfl⟩))
    (fun os started H enc _ => lifted os started H enc)
end Go.Proofs.Ytochhnibegcbpaa.fnExactOwnerAt

namespace Go.Proofs.Ytochhnibegcbpaa
theorem fnExactOwnerAt_holds : Rows.FnExactOwnerAtSaid := fnExactOwnerAt.over
#print axioms fnExactOwnerAt_holds
end Go.Proofs.Ytochhnibegcbpaa

/-
  Proved: whatever the handler, the row of cells, the memory and the schedule, the law FnExactHandleComp returns true, and the two read afterwards as they read before: HandleComp of the program tells what the specification's tells, in memory of its own. No conditions.
-/
import Derived.Test.YtaddopoafaojdaaHcU
import Derived.Test.YtaddopoafaojdaaHaH
import Derived.Test.YtaddopoafaojdaaCoQ
import Derived.Test.YtaddopoafaojdaaRwG
import Derived.Deep.RegionHeld3
import Derived.Test.YtaddopoafaojdaaCoK
import Derived.Test.YtaddopoafaojdaaCoO
import Derived.Lib.SmallJoins
import Derived.ChangeOld
import Derived.Below
namespace Go.Proofs.Ytaddopoafaojdaa.fnExactHandleComp
open Go.ChangeShapes Go.WideShapes Go.ChangeAt Go.RowKit
open Go.Proofs.Ytaddopoafaojdaa.W Go.Proofs.Ytaddopoafaojdaa.C Go.Joins
set_option linter.unusedVariables false
set_option linter.unusedSimpArgs false

theorem own : ownKnob Try.prog.godebug = none := by kernel_rfl
theorem laidOut : laidOutB Try.prog = true := by kernel_rfl

theorem eqOwn (v1 v2 : Value) (b1 b2 : Nat) (L : List Cc) (w : World) (hl : L.length ≤ 1048576) (h1 : w.ownsRow b1 52 2 v1 L.length (cv L)) (h2 : w.ownsRow b2 52 2 v2 L.length (cv L)) :
    Calls Try.prog 10 #[v1, v2] w fun e w' => e = .returned (.bool true) ∧ Below w.heap.size w w' := by
  obtain ⟨a1, c1, rfl, -, r1⟩ := cOwn_row h1
  obtain ⟨a2, c2, rfl, -, r2⟩ := cOwn_row h2
  exact eqCellS_row a1 a2 c1 c2 L w hl r1 r2
set_option maxRecDepth 20000 in
set_option maxHeartbeats 8000000 in
theorem walk (q : Int) (R : List Ru) (ha : Option Addr) (hc : Nat) (ad : Option Addr) (c : Nat) (l : List Cc) (w : World) (m1 : R.length ≤ maxLen) (hu : RuRow w ha R) (hl : l.length ≤ maxLen) (h : CRow w ad l) :
    Calls Try.prog 3 #[.agg #[.int .i64 q, .slice ha R.length hc], .slice ad l.length c] w fun e w' => e = .returned (.bool true) ∧ Below w.heap.size w w' := by
  have HU := hide hu
  have HR := hide h
  clear hu h
  go_enter Try.func3, Try.ntmps3
  go_upto_region 2 with fail
  have HX0 := hide (Bx.new w #[.int .i64 q, .slice ha R.length hc] 24)
  have hB0 : Below w.heap.size w (w.alloc (.cells #[.int .i64 q, .slice ha R.length hc] 24)) := (Below.refl _ _).alloc (Nat.le_refl _) _
  obtain ⟨w0, hw0⟩ : ∃ w0, w0 = w.alloc (.cells #[.int .i64 q, .slice ha R.length hc] 24) := ⟨_, rfl⟩
  obtain ⟨XB, hXB⟩ : ∃ XB, XB = w.heap.size := ⟨_, rfl⟩
  rw [← hw0] at HX0 hB0 ⊢
  rw [← hXB] at HX0 ⊢
  have hXw : w.heap.size ≤ XB := by omega
  have xl0 : XB < w0.heap.size := HX0.out.lt
  clear hw0 hXB
  have cx := HX0.out.c
  go_wp2_with fail
  refine Calls.mono (szHandler_any ha hc R.length q 1048576 _ m1 (by omega) (by omega)) ?_
  rintro e w1 ⟨r, rfl, hr, hb1⟩
  have hB := hB0.trans (hb1.mono hB0.size)
  have HA := hide (HX0.out.below hb1 xl0)
  clear hb1 cx HX0 m1 hB0 xl0
  by_cases hneg : r < 0
  · clear hr
    go_wp2_with fail
    go_ret
    exact ⟨rfl, hB⟩
  obtain ⟨r0, r1, hRl⟩ := hr.resolve_left hneg
  clear hr
  go_wp2_with fail
  refine (szCompS_any _ _ _ r _ hl r0 r1).mono ?_
  rintro e w2 ⟨r', rfl, hr, hw⟩
  obtain rfl := hw.symm
  clear hl hneg r0 r1
  by_cases hneg : r' < 0
  · clear hr
    go_wp2_with fail
    go_ret
    exact ⟨rfl, hB⟩
  · obtain ⟨-, -, hl⟩ := hr.resolve_left hneg
    clear hr
    have HTh := hide (fun (w' : World) (hb : Below w.heap.size w w') => toHandler_row (.agg #[.int .i64 q, .slice ha R.length hc]) ⟨q, R⟩ w' ⟨ha, hc, rfl, RRow.below HU.out hb, hRl⟩)
    have HTg := hide (fun (w' : World) (hb : Below w.heap.size w w') => toHandler_any (.agg #[.int .i64 q, .slice ha R.length hc]) ⟨q, R⟩ w' ⟨ha, hc, rfl, RRow.below HU.out hb, hRl⟩)
    have HTc := hide (fun (w' : World) (hb : Below w.heap.size w w') => toCellS_any ad c l w' hl (HR.out.below hb))
    have HS := hide (fun (v : Value) (a : Option Addr) (k : Nat) (w' : World) (h0 : HRow w' v ⟨q, R⟩) (h1 : CRow w' a l) => specHandle_any v ⟨q, R⟩ a k l w' hl h0 h1)
    have HI := hide (fun (v : Value) (a : Option Addr) (k : Nat) (w' : World) (hk : l.length ≤ k) (h0 : HRow w' v ⟨q, R⟩) (h1 : CRow w' a l) => implHandle_any v ⟨q, R⟩ a k l w' hl hk h0 h1)
    have hfl := hdR_len ⟨q, R⟩ l
    obtain ⟨FL, hFL⟩ : ∃ FL, FL = oF (hdR ⟨q, R⟩ l) := ⟨_, rfl⟩
    obtain ⟨OK, hOK⟩ : ∃ OK, OK = (hdR ⟨q, R⟩ l).isSome := ⟨_, rfl⟩
    unfold RU2 at HS HI
    simp only [← hFL, ← hOK] at HS HI
    rw [← hFL] at hfl
    simp only at HTg
    clear hFL hOK HU HR
    have cA := HA.out.c
    go_wp2_with fail
    refine Calls.mono (HTh.out _ hB) ?_
    rintro e w3 ⟨va, rfl, hva, hbc⟩
    have HVa := hide hva
    obtain ⟨vad, vac, rfl⟩ := hva.form
    clear hva
    have HAn := hide (HA.out.below hbc HA.out.lt)
    clear HA
    have HA := HAn
    clear HAn
    replace hB := hB.trans (hbc.mono hB.size)
    clear hbc
    clear cA
    go_wp2_with fail
    refine Calls.mono (HTc.out _ hB) ?_
    rintro e w4 ⟨rfl, hx, hbc⟩
    have HX := hide hx
    replace HVa := hide (HVa.out.below hbc)
    clear hx
    have HAn := hide (HA.out.below hbc HA.out.lt)
    clear HA
    have HA := HAn
    clear HAn
    replace hB := hB.trans (hbc.mono hB.size)
    clear hbc
    go_wp2_with fail
    refine Calls.mono (HS.out _ _ _ _ HVa.out HX.out.row) ?_
    rintro e w5 ⟨vs, rfl, hos, hbc⟩
    have HSr := hide hos
    have HSx := hide (fun k hk => (hos.lt k hk).2)
    obtain ⟨sa, sc, rfl⟩ := iOwn_form hos
    clear hos HX HVa HS
    have HAn := hide (HA.out.below hbc HA.out.lt)
    clear HA
    have HA := HAn
    clear HAn
    replace hB := hB.trans (hbc.mono hB.size)
    clear hbc
    obtain ⟨S0, hS0⟩ : ∃ S0, S0 = w5.heap.size := ⟨_, rfl⟩
    have hxS : XB < S0 := by rw [hS0]; exact HA.out.lt
    rw [← hS0] at HSx
    have HS0 := hide hS0
    clear hS0
    have cA := HA.out.c
    go_wp2_with fail
    refine Calls.mono (HTg.out _ hB) ?_
    rintro e w6 ⟨g0, rfl, hg0, hrb, hbc⟩
    rw [← HS0.out] at hg0
    have HRb := hide hrb
    clear hrb
    replace HSr := hide (tOwn_keep HSr.out (fun k _ hk => hbc.block k hk))
    have HAn := hide (HA.out.below hbc HA.out.lt)
    clear HA
    have HA := HAn
    clear HAn
    replace hB := hB.trans (hbc.mono hB.size)
    clear hbc
    clear cA
    have hgl := HRb.out.lt
    have hbc : Below w6.heap.size w6 (w6.alloc (.cells #[.int .i64 q, .slice (some ⟨g0, 0, none⟩) R.length R.length] 33)) := (Below.refl _ _).alloc (Nat.le_refl _) _
    have HY := hide (Bx.new w6 #[.int .i64 q, .slice (some ⟨g0, 0, none⟩) R.length R.length] 33)
    replace HRb := hide (HRb.out.below hbc)
    replace HSr := hide (tOwn_keep HSr.out (fun k _ hk => hbc.block k hk))
    have HAn := hide (HA.out.below hbc HA.out.lt)
    clear HA
    have HA := HAn
    clear HAn
    replace hB := hB.trans (hbc.mono hB.size)
    clear hbc
    obtain ⟨YW, hYW⟩ : ∃ YW, YW = w6.alloc (.cells #[.int .i64 q, .slice (some ⟨g0, 0, none⟩) R.length R.length] 33) := ⟨_, rfl⟩
    obtain ⟨YB, hYB⟩ : ∃ YB, YB = w6.heap.size := ⟨_, rfl⟩
    rw [← hYW] at HY HRb HSr HA hB
    rw [← hYB] at HY hgl
    have HYW := hide hYW
    have HYB := hide hYB
    clear hYW hYB
    go_upto_region 10 with fail
    rw [← HYW.out, ← HYB.out]
    clear HYW HYB
    have YLT := HY.out.lt
    go_wp2_with fail
    refine Calls.mono (HTc.out _ hB) ?_
    rintro e w7 ⟨rfl, hx, hbc⟩
    have HX := hide hx
    clear hx
    have HYn := hide (HY.out.below hbc HY.out.lt)
    clear HY
    have HY := HYn
    clear HYn
    replace HRb := hide (HRb.out.below hbc)
    replace HSr := hide (tOwn_keep HSr.out (fun k _ hk => hbc.block k hk))
    have HAn := hide (HA.out.below hbc HA.out.lt)
    clear HA
    have HA := HAn
    clear HAn
    replace hB := hB.trans (hbc.mono hB.size)
    clear hbc
    obtain ⟨XC, hXC⟩ : ∃ XC, XC = YW.heap.size := ⟨_, rfl⟩
    rw [← hXC] at HX ⊢
    have hYX : YB < XC := by rw [hXC]; exact YLT
    clear hXC
    have HVy : Hid (HRow w7 (.agg #[.int .i64 q, .slice (some ⟨g0, 0, none⟩) R.length R.length]) ⟨q, R⟩) := hide ⟨_, _, rfl, HRb.out.row, hRl⟩
    have hXl := HX.out.lt
    have cY := HY.out.c
    go_wp2_with fail
    refine Calls.mono (HI.out _ _ _ _ (Nat.le_refl _) HVy.out HX.out.row) ?_
    rintro e w8 ⟨vg, rfl, hog, hbc⟩
    have HGr := hide hog
    have HGx := hide (fun k hk => (hog.lt k hk).1)
    obtain ⟨ga, gc, rfl⟩ := iOwn_form hog
    clear hog HVy
    replace HX := hide (HX.out.below hbc)
    have HYn := hide (HY.out.below hbc HY.out.lt)
    clear HY
    have HY := HYn
    clear HYn
    replace HRb := hide (HRb.out.below hbc)
    replace HSr := hide (tOwn_keep HSr.out (fun k _ hk => hbc.block k hk))
    have HAn := hide (HA.out.below hbc HA.out.lt)
    clear HA
    have HA := HAn
    clear HAn
    replace hB := hB.trans (hbc.mono hB.size)
    clear hbc
    clear cY
    obtain ⟨G0, hG0⟩ : ∃ G0, G0 = w7.heap.size := ⟨_, rfl⟩
    rw [← hG0] at HGx HGr hXl
    clear hG0
    go_wp2_with fail
    refine Calls.mono (eqOwn _ _ _ _ FL _ hfl HGr.out HSr.out) ?_
    rintro e w9 ⟨rfl, hbc⟩
    replace HGr := hide (tOwn_keep HGr.out (fun k _ hk => hbc.block k hk))
    replace HSr := hide (tOwn_keep HSr.out (fun k _ hk => hbc.block k hk))
    replace HX := hide (HX.out.below hbc)
    have HYn := hide (HY.out.below hbc HY.out.lt)
    clear HY
    have HY := HYn
    clear HYn
    replace HRb := hide (HRb.out.below hbc)
    have HAn := hide (HA.out.below hbc HA.out.lt)
    clear HA
    have HA := HAn
    clear HAn
    replace hB := hB.trans (hbc.mono hB.size)
    clear hbc
    go_wp2_with fail
    have HBd : Hid (Below w.heap.size w w9.drew) := hide (belowDrewH hB)
    have HDd : Hid (Below w9.heap.size w9 w9.drew) := hide (belowDrewH (Below.refl _ _))
    have b0 : w9.cell? ⟨XB, 0, none⟩ = some (.int .i64 q) := HA.out.c 0
    have b1 : w9.cell? ⟨XB, 1, none⟩ = some (.slice ha R.length hc) := HA.out.c 1
    have b2 : w9.cell? ⟨YB, 0, none⟩ = some (.int .i64 q) := HY.out.c 0
    have b3 : w9.cell? ⟨YB, 1, none⟩ = some (.slice (some ⟨g0, 0, none⟩) R.length R.length) := HY.out.c 1
    have xlb : XB < w9.heap.size := HA.out.lt
    have ylb : YB < w9.heap.size := HY.out.lt
    have HVd : Hid (HRow w9.drew (.agg #[.int .i64 q, .slice (some ⟨g0, 0, none⟩) R.length R.length]) ⟨q, R⟩) := hide ⟨_, _, rfl, RRow.below HRb.out.row HDd.out, hRl⟩
    refine wp_region_noPanic ?_
    refine wp_region_held_drew (S := fun w' => w'.cell? ⟨XB, 0, none⟩ = some (.int .i64 q) ∧ w'.cell? ⟨XB, 1, none⟩ = some (.slice ha R.length hc) ∧ w'.cell? ⟨YB, 0, none⟩ = some (.int .i64 q) ∧ w'.cell? ⟨YB, 1, none⟩ = some (.slice (some ⟨g0, 0, none⟩) R.length R.length)) (by kernel_rfl) ⟨b0, b1, b2, b3⟩ (fun hHeld => ?_)
    refine wpAnyH_take (i := 0) (oi := _) (v := ?_) rfl (by kernel_rfl) (by kernel_rfl) (by kernel_rfl) (fun _ _ _ h => h) (Or.inl ⟨by rfl, ?_⟩) (by assumption) ?_
    rotate_left 1
    · (intro w hSw; (try dsimp only at hSw); (first | (go_simp; done) | (go_simp; with_reducible rfl)))
    try simp only [Act.put, List.getElem_toArray, List.getElem_cons_zero, List.getElem_cons_succ, List.setIfInBounds_toArray, List.set_cons_zero, List.set_cons_succ]
    refine wpAnyH_take (i := 1) (oi := _) (v := ?_) rfl (by kernel_rfl) (by kernel_rfl) (by kernel_rfl) (fun _ _ _ h => h) (Or.inl ⟨by rfl, ?_⟩) (by assumption) ?_
    rotate_left 1
    · (intro w hSw; (try dsimp only at hSw); (first | (go_simp; done) | (go_simp; with_reducible rfl)))
    try simp only [Act.put, List.getElem_toArray, List.getElem_cons_zero, List.getElem_cons_succ, List.setIfInBounds_toArray, List.set_cons_zero, List.set_cons_succ]
    refine wpAnyH_ready (rs := [2]) (by kernel_rfl) (by simp) ?_
    refine AllReadyH.cons (o := _) rfl (fun K hK => ?_) AllReadyH.nil
    go_simp
    (with_reducible refine Calls.mono (HTh.out _ HBd.out) ?_)
    rintro r wd ⟨vd, rfl, hvd, hbd⟩
    have HD7 := hide hvd
    have HE7 := hide (HVd.out.below hbd)
    have e0 := (hbd.cell (p := ⟨XB, 0, none⟩) (xlb)).trans b0
    have e1 := (hbd.cell (p := ⟨XB, 1, none⟩) (xlb)).trans b1
    have e2 := (hbd.cell (p := ⟨YB, 0, none⟩) (ylb)).trans b2
    have e3 := (hbd.cell (p := ⟨YB, 1, none⟩) (ylb)).trans b3
    have xle : XB < wd.heap.size := Nat.lt_of_lt_of_le xlb hbd.size
    have yle : YB < wd.heap.size := Nat.lt_of_lt_of_le ylb hbd.size
    have HDe := hide (HDd.out.trans (hbd.mono HDd.out.size))
    obtain ⟨da, dc, rfl⟩ := hvd.form
    clear hbd hvd HVd
    (try go_wp2_with fail)
    refine hK.out _ _ ⟨e0, e1, e2, e3⟩ (fun hHeld => ?_)
    clear hK K
    try simp only [Act.put, List.getElem_toArray, List.getElem_cons_zero, List.getElem_cons_succ, List.setIfInBounds_toArray, List.set_cons_zero, List.set_cons_succ]
    refine wpAnyH_ready (rs := [3]) (by kernel_rfl) (by simp) ?_
    refine AllReadyH.cons (o := _) rfl (fun K hK => ?_) AllReadyH.nil
    go_simp
    (with_reducible refine Calls.mono (eqHandler_row _ _ ⟨q, R⟩ _ HE7.out HD7.out) ?_)
    rintro r we ⟨rfl, hbe⟩
    have j0 := (hbe.cell (p := ⟨XB, 0, none⟩) (xle)).trans e0
    have j1 := (hbe.cell (p := ⟨XB, 1, none⟩) (xle)).trans e1
    have j2 := (hbe.cell (p := ⟨YB, 0, none⟩) (yle)).trans e2
    have j3 := (hbe.cell (p := ⟨YB, 1, none⟩) (yle)).trans e3
    have HDf := hide (HDe.out.trans (hbe.mono HDe.out.size))
    clear hbe HE7 HD7
    (try go_wp2_with fail)
    refine hK.out _ _ ⟨j0, j1, j2, j3⟩ (fun hHeld => ?_)
    clear hK K
    try simp only [Act.put, List.getElem_toArray, List.getElem_cons_zero, List.getElem_cons_succ, List.setIfInBounds_toArray, List.set_cons_zero, List.set_cons_succ]
    refine wpAnyH_take (i := 4) (oi := _) (v := ?_) rfl (by kernel_rfl) (by kernel_rfl) (by kernel_rfl) (fun _ _ _ h => h) (Or.inl ⟨by rfl, ?_⟩) (by assumption) ?_
    rotate_left 1
    · (intro w hSw; (try dsimp only at hSw); (first | (go_simp; done) | (go_simp; with_reducible rfl)))
    try simp only [Act.put, List.getElem_toArray, List.getElem_cons_zero, List.getElem_cons_succ, List.setIfInBounds_toArray, List.set_cons_zero, List.set_cons_succ]
    refine wpAnyH_done (by kernel_rfl) ?_ _
    refine NoPanic.normal ?_
    have hbc : Below w9.heap.size w9 we := HDf.out
    clear hHeld b0 b1 b2 b3 e0 e1 e2 e3 j0 j1 j2 j3 xlb ylb xle yle HDf HDe HDd HBd
    replace HGr := hide (tOwn_keep HGr.out (fun k _ hk => hbc.block k hk))
    replace HSr := hide (tOwn_keep HSr.out (fun k _ hk => hbc.block k hk))
    replace HX := hide (HX.out.below hbc)
    have HYn := hide (HY.out.below hbc HY.out.lt)
    clear HY
    have HY := HYn
    clear HYn
    replace HRb := hide (HRb.out.below hbc)
    have HAn := hide (HA.out.below hbc HA.out.lt)
    clear HA
    have HA := HAn
    clear HAn
    replace hB := hB.trans (hbc.mono hB.size)
    clear hbc
    go_wp2_with fail
    refine Calls.mono (HTc.out _ hB) ?_
    rintro e w10 ⟨rfl, hx2, hbc⟩
    have HX2 := hide hx2
    clear hx2
    replace HGr := hide (tOwn_keep HGr.out (fun k _ hk => hbc.block k hk))
    replace HSr := hide (tOwn_keep HSr.out (fun k _ hk => hbc.block k hk))
    replace HX := hide (HX.out.below hbc)
    have HYn := hide (HY.out.below hbc HY.out.lt)
    clear HY
    have HY := HYn
    clear HYn
    replace HRb := hide (HRb.out.below hbc)
    have HAn := hide (HA.out.below hbc HA.out.lt)
    clear HA
    have HA := HAn
    clear HAn
    replace hB := hB.trans (hbc.mono hB.size)
    clear hbc
    go_wp2_with fail
    refine Calls.mono (eqCellS_row _ _ _ _ l _ hl HX.out.row HX2.out.row) ?_
    rintro e w11 ⟨rfl, hbc⟩
    clear HX2
    replace HGr := hide (tOwn_keep HGr.out (fun k _ hk => hbc.block k hk))
    replace HSr := hide (tOwn_keep HSr.out (fun k _ hk => hbc.block k hk))
    replace HX := hide (HX.out.below hbc)
    have HYn := hide (HY.out.below hbc HY.out.lt)
    clear HY
    have HY := HYn
    clear HYn
    replace HRb := hide (HRb.out.below hbc)
    have HAn := hide (HA.out.below hbc HA.out.lt)
    clear HA
    have HA := HAn
    clear HAn
    replace hB := hB.trans (hbc.mono hB.size)
    clear hbc
    have HO0 := hide (SOwn.ofBlk HRb.out (base := S0) hg0 hRl)
    have cY := HY.out.c
    go_wp2_with fail
    refine Calls.mono (markHandler_any q _ _ S0 R.length 1 _ _ hRl (by omega) HO0.out) ?_
    rintro e w12 ⟨rfl, -, hgr⟩
    replace HSr := hide (iOwn_grown HSr.out hgr (fun k hk e => by have h1 := HSx.out k hk; simp only [Value.ownBlock, Option.some.injEq] at e; omega))
    replace HGr := hide (iOwn_grown HGr.out hgr (fun k hk e => by have h1 := HGx.out k hk; simp only [Value.ownBlock, Option.some.injEq] at e; omega))
    have HX9 : Hid (CBlk w12 XC l) := hide (by
      obtain ⟨cur, hh, hF⟩ := HX.out
      exact ⟨cur, (hgr.block XC HX.out.lt (fun e => by simp only [Value.ownBlock, Option.some.injEq] at e; omega)).trans hh, hF⟩)
    have HA9 : Hid (Bx w12 XB #[.int .i64 q, .slice ha R.length hc] 24) := hide ((hgr.block XB HA.out.lt (fun e => by simp only [Value.ownBlock, Option.some.injEq] at e; omega)).trans HA.out)
    replace hB := hB.grown hgr hB.size (fun k hk => by simp only [Value.ownBlock, Option.some.injEq] at hk; omega)
    clear hgr HX HA HO0 HY HRb cY
    obtain ⟨K9, hK9⟩ : ∃ K9, K9 = 1 + R.length * 2 := ⟨_, rfl⟩
    rw [← hK9]
    have hk9 : K9 ≤ 100000000 := by omega
    clear hK9
    obtain ⟨cur, hcb, hcf⟩ := HX9.out
    have HCB := hide hcb
    have hcs : l.length * 2 ≤ cur.size := by rw [hcf.1]; exact Nat.le_refl _
    clear hcb hcf
    go_wp2_with fail
    refine Calls.mono (markCompS_w XC l.length _ K9 cur _ hl (by omega) HCB.out hcs) ?_
    rintro e w13 ⟨rfl, -, hO⟩
    replace HSr := hide (own_same HSr.out (w' := w13) (fun k h1 h2 h3 => hO.block k h3 (by have h4 := HSx.out k h1; omega)))
    replace HGr := hide (tOwn_keep HGr.out (w' := w13) (fun k h1 h2 => hO.block k h2 (by omega)))
    have HA : Hid (Bx w13 XB #[.int .i64 q, .slice ha R.length hc] 24) := hide ((hO.block XB HA9.out.lt (by omega)).trans HA9.out)
    replace hB := hB.trans (hO.below hB.size (by omega))
    clear hO HX9 HA9 HCB hcs
    have hk2 : ¬ ((K9 + l.length * 2 : Nat) : Int) < 0 := by omega
    obtain ⟨K2, hK2⟩ : ∃ K2, K2 = K9 + l.length * 2 := ⟨_, rfl⟩
    rw [← hK2] at hk2 ⊢
    clear hK2
    go_wp2_with fail
    refine Calls.mono (eqOwn _ _ _ _ FL _ hfl HGr.out HSr.out) ?_
    rintro e w14 ⟨rfl, hbc⟩
    replace HGr := hide (tOwn_keep HGr.out (fun k _ hk => hbc.block k hk))
    replace HSr := hide (tOwn_keep HSr.out (fun k _ hk => hbc.block k hk))
    have HAn := hide (HA.out.below hbc HA.out.lt)
    clear HA
    have HA := HAn
    clear HAn
    replace hB := hB.trans (hbc.mono hB.size)
    clear hbc
    have HH := hide (fun (w : World) (h : IMk w (.slice ga FL.length gc) 52 2 1 FL.length) => heldCellS_any _ FL.length w hfl h)
    have HMk := hide (fun (w : World) (b : Nat) (xs : List Value) (h : w.ownsRow b 52 2 (.slice ga FL.length gc) FL.length xs) => markCellS_any _ b FL.length xs w hfl h)
    obtain ⟨M, hM⟩ : ∃ M, M = 1 + FL.length * 2 := ⟨_, rfl⟩
    rw [← hM] at HH HMk
    clear hM hk2 hk9
    go_wp2_with fail
    refine Calls.mono (HMk.out _ _ _ HGr.out) ?_
    rintro e w15 ⟨rfl, hmk, hgr⟩
    have HK := hide hmk
    replace HSr := hide (iOwn_grown HSr.out hgr (fun k hk e => by have h1 := HSx.out k hk; have h2 := HGx.out k e; omega))
    have HA9 : Hid (Bx w15 XB #[.int .i64 q, .slice ha R.length hc] 24) := hide ((hgr.block XB HA.out.lt (fun e => by have h2 := HGx.out XB e.symm; omega)).trans HA.out)
    replace hB := hB.grown hgr hB.size (fun k hk => by have h2 := HGx.out k hk; omega)
    clear HA
    have HA := HA9
    clear hmk hgr HGr HMk HA9
    go_wp2_with fail
    refine Calls.mono (HH.out _ HK.out) ?_
    rintro e w16 ⟨rfl, hbc⟩
    replace HSr := hide (tOwn_keep HSr.out (fun k _ hk => hbc.block k hk))
    replace HK := hide (HK.out.below hbc)
    have HAn := hide (HA.out.below hbc HA.out.lt)
    clear HA
    have HA := HAn
    clear HAn
    replace hB := hB.trans (hbc.mono hB.size)
    clear hbc
    have cA := HA.out.c
    go_wp2_with fail
    refine Calls.mono (HTh.out _ hB) ?_
    rintro e w17 ⟨va, rfl, hva, hbc⟩
    have HVa := hide hva
    obtain ⟨vad, vac, rfl⟩ := hva.form
    clear hva
    replace HSr := hide (tOwn_keep HSr.out (fun k _ hk => hbc.block k hk))
    replace HK := hide (HK.out.below hbc)
    have HAn := hide (HA.out.below hbc HA.out.lt)
    clear HA
    have HA := HAn
    clear HAn
    replace hB := hB.trans (hbc.mono hB.size)
    clear hbc
    clear cA
    go_wp2_with fail
    refine Calls.mono (HTc.out _ hB) ?_
    rintro e w18 ⟨rfl, hx, hbc⟩
    have HX := hide hx
    replace HVa := hide (HVa.out.below hbc)
    clear hx
    replace HSr := hide (tOwn_keep HSr.out (fun k _ hk => hbc.block k hk))
    replace HK := hide (HK.out.below hbc)
    have HAn := hide (HA.out.below hbc HA.out.lt)
    clear HA
    have HA := HAn
    clear HAn
    replace hB := hB.trans (hbc.mono hB.size)
    clear hbc
    go_wp2_with fail
    refine Calls.mono (HI.out _ _ _ _ (Nat.le_refl _) HVa.out HX.out.row) ?_
    rintro e w19 ⟨vh, rfl, hoh, hbc⟩
    have HGr := hide hoh
    obtain ⟨hha, hhc, rfl⟩ := iOwn_form hoh
    clear hoh HX HVa HA
    replace HSr := hide (tOwn_keep HSr.out (fun k _ hk => hbc.block k hk))
    replace HK := hide (HK.out.below hbc)
    replace hB := hB.trans (hbc.mono hB.size)
    clear hbc
    go_wp2_with fail
    refine Calls.mono (eqOwn _ _ _ _ FL _ hfl HGr.out HSr.out) ?_
    rintro e w20 ⟨rfl, hbc⟩
    clear HGr HSr
    replace HK := hide (HK.out.below hbc)
    replace hB := hB.trans (hbc.mono hB.size)
    clear hbc
    go_wp2_with fail
    refine Calls.mono (HH.out _ HK.out) ?_
    rintro e w21 ⟨rfl, hbc⟩
    replace hB := hB.trans (hbc.mono hB.size)
    clear hbc
    go_wp2_with fail
    go_ret
    exact ⟨rfl, hB⟩

set_option maxRecDepth 100000 in
theorem lifted (os : Os) (started : os.Started) (H : Type) (enc : TypeId × Value → H) :
    ReturnsInHanded {} Try.checked os 3 .any (Rows.fnExactHandleCompSpec.pre6 enc Try.prog Try.f3 Rows.fnExactHandleCompRow.domain false) (Rows.fnExactHandleCompSpec.post enc Try.prog Try.f3 false true false false) := by
  refine returnsInHanded_of_change (C := Try.checked) own started (by kernel_rfl) Try.func3
    (ChangeSpec.witness6 (enc := enc) (C := Try.checked) false ⟨#[], #[.agg #[.int .i64 0, .slice none 0 0], .slice none 0 0], []⟩ 8 (by kernel_rfl) (by kernel_rfl) (by kernel_rfl) (by kernel_rfl)) ?_
  intro W base args ds gs before hval0 hW hcnd _
  have hval : ∀ (j : Nat) t v, Try.f3.params[j]? = some t → args[j]? = some v → Value.okWide Try.prog W .any base t v := hval0
  have hW' := hW
  obtain ⟨p, q, hA0, hV, rfl, hfz, hnd⟩ := hW
  have hA : DataW.TrodAll enc Try.prog W 0 (fun _ => true) true Try.f3.params.toList args.toList ds p := hA0
  rw [Try.params3] at hA hval
  obtain ⟨v0, vs0, d0, ds0, p0, q0, hargs, rfl, rfl, h0, r0⟩ := trodAll_cons hA
  obtain ⟨v1, vs1, d1, ds1, p1, q1, rfl, rfl, rfl, h1, r1⟩ := trodAll_cons r0
  obtain ⟨rfl, rfl, rfl⟩ := trodAll_nil r1
  obtain rfl : args = #[v0, v1] := by cases args; simp_all
  obtain ⟨rfl, rfl⟩ := trodVars_none hV
  have k0 := h0
  have k1' := h1
  have lt0 : ∀ x ∈ p0, x.block < W.heap.size := by obtain ⟨m, hm⟩ := k0; exact DataW.trod_lt m _ _ _ hm
  have lt1 : ∀ x ∈ p1, x.block < W.heap.size := by obtain ⟨m, hm⟩ := k1'; exact DataW.trod_lt m _ _ _ hm
  obtain ⟨D, ha, hc, rfl, hD, nD⟩ := open_handler (hval 0 24 v0 rfl rfl) h0
  obtain ⟨q, R⟩ := D
  obtain ⟨ad, len, cap, rfl⟩ := okWide_slice Try.underlying25 (hval 1 25 v1 rfl rfl)
  obtain ⟨fuel, hf⟩ := h1
  obtain ⟨l, rfl, hl, hR⟩ := open_cells hf
  clear hA0 hval0
  refine (walk q R ha hc ad cap l W nD hD hl hR).mono fun e W' ⟨he, bel⟩ => ?_
  subst he
  exact ⟨_, rfl, _, _, _, [], _, [], hW', trodAll_mk1 (shut_bool Try.underlying4 _), (trodAll_cons_mk (Below.trod laidOut (by kernel_rfl) (of_decide_eq_true (by kernel_rfl)) k0 bel lt0) (trodAll_cons_mk (Below.trod laidOut (by kernel_rfl) (of_decide_eq_true (by kernel_rfl)) k1' bel lt1) trodAll_mk0)), rfl, bel.frame _, fun h => by cases h⟩

theorem over : Rows.fnExactHandleCompRow.holds Try.pinned (OpenSpec.ofChange Rows.fnExactHandleCompSpec) :=
  OpenClaim.holds_of_wide 3 Try.f3 rfl rfl rfl rfl rfl rfl rfl ⟨rfl, rfl, rfl, rfl, rfl⟩ rfl rfl rfl rfl rfl (by kernel_rfl) Try.func3 (by kernel_rfl)
    (of_decide_eq_true (by kernel_rfl)) (by unfold Func.isWrapper; first | (rw [if_pos (by decide +kernel)]; kernel_rfl) | (rw [if_neg (by decide +kernel)]; exact ⟨rfl, rfl⟩))
    (fun os started H enc _ => lifted os started H enc)
end Go.Proofs.Ytaddopoafaojdaa.fnExactHandleComp

namespace Go.Proofs.Ytaddopoafaojdaa
theorem fnExactHandleComp_holds : Rows.FnExactHandleCompSaid := fnExactHandleComp.over
#print axioms fnExactHandleComp_holds
end Go.Proofs.Ytaddopoafaojdaa

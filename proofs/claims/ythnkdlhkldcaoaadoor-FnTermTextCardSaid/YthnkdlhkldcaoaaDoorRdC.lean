/-
  A word's cell by the program: the contract of cellOf. Conditions: at most 2000 bytes; the library's variables hold a number, two errors, and the table of powers of ten. Written by wip/build/mk_rdc.py.
-/
import Derived.Test.YthnkdlhkldcaoaaDoorRdA
import Derived.Test.YthnkdlhkldcaoaaDoorRwG
import Derived.Deep.RegionHeld3
namespace Go.Proofs.YthnkdlhkldcaoaaDoor.W
open Go.ChangeShapes Go.WideShapes Go.ChangeAt Go.RowKit
set_option linter.unusedVariables false
set_option linter.unusedSimpArgs false

theorem belowDrewR {B : Nat} {x y : World} (h : Below B x y) : Below B x y.drew := ⟨h.os, h.tape, h.output, h.size, h.block⟩
theorem Oth.cell' {b : Nat} {w w' : World} {a : Addr} (h : Oth b w w') (hl : a.block < w.heap.size) (hn : a.block ≠ b) : w'.cell? a = w.cell? a := World.cell?_of_block (h.block _ hl hn)

set_option maxRecDepth 20000 in
set_option maxHeartbeats 8000000 in
theorem cellOf_any (x : ByteArray) (w : World) (hx : x.size ≤ 2000) (hv : VR w) :
    Calls Tryd.prog 19 #[.string x] w fun e w' => e = .returned (.tuple #[.agg #[.int .i64 (prg x.data.toList).k, .int .i64 (prg x.data.toList).n], .bool (prB x.data.toList)]) ∧ Below w.heap.size w w' := by
  obtain ⟨L, hL⟩ : ∃ L, L = x.data.toList := ⟨_, rfl⟩
  rw [← hL]
  have hLl : L.length = x.size := by rw [hL]; simp
  obtain ⟨AT, hAT⟩ : ∃ AT, AT = Lib.index tsg L := ⟨_, rfl⟩
  have hat := idx_bd L
  rw [← hAT] at hat
  obtain ⟨hat1, hat2⟩ := hat
  obtain ⟨D, hD⟩ : ∃ D : ByteArray, D = ⟨(Lib.trimPrefix L [118]).toArray⟩ := ⟨_, rfl⟩
  have hDs : D.size ≤ 2000 := by
    rw [hD]
    have : (Lib.trimPrefix L [118]).length ≤ L.length := by
      unfold Lib.trimPrefix
      split
      · simp
      · exact Nat.le_refl _
    show (Lib.trimPrefix L [118]).toArray.size ≤ 2000
    rw [List.size_toArray]; omega
  have hDd : D.data.toList = Lib.trimPrefix L [118] := by rw [hD]
  obtain ⟨IV, hIV⟩ : ∃ IV, IV = Lib.hasPrefix L [118] := ⟨_, rfl⟩
  have HCut : Hid (∀ w', Calls Tryd.prog 33 #[.string x, .string ⟨#[118]⟩] w' fun e w'' => e = .returned (.tuple #[.string D, .bool IV]) ∧ w'' = w') := hide (fun w' => by
    rw [hD, hIV, hL]
    exact Tryd.strings_CutPrefix x ⟨#[118]⟩ w')
  have HIdx : Hid (∀ w', VR w' → Calls Tryd.prog 34 #[.string ⟨#[92, 64, 43, 63, 61]⟩, .string x] w' fun e w'' => e = .returned (.int .i64 AT) ∧ w'' = w') := hide (fun w' hv => by
    obtain ⟨m, hm⟩ := hv.len
    rw [hAT, hL]
    exact Tryd.strings_Index ⟨#[92, 64, 43, 63, 61]⟩ x m w' (by decide) hm)
  obtain ⟨C, hC⟩ : ∃ C, C = prg L := ⟨_, rfl⟩
  have hB : prB L = (goodC C && decide (wdL C = L)) := by rw [hC]; rfl
  have HPr : Hid (C = if 0 ≤ AT ∧ L.length = 1 then ⟨3 + AT, 0⟩ else match Lib.atoiAll D.data.toList with | .ok v => if IV = true then ⟨1, v⟩ else ⟨2, v⟩ | _ => ⟨0, 0⟩) := hide (by rw [hC, hAT, hDd, hIV]; rfl)
  rw [← hC]
  have HVR := hide hv
  have hV0 : VR ((w.alloc (.cells #[.int .i64 0, .int .i64 0] 37)).alloc (.cells #[.int .i64 0, .int .i64 0] 37)) := (hv.below ((Below.refl _ _).alloc (Nat.le_refl _) _)).below ((Below.refl _ _).alloc (Nat.le_refl _) _)
  have HV0 := hide hV0
  have HAtoi := hide (Atoi_any D _ hDs hV0)
  have HLx := hide hL
  obtain ⟨B, hBB⟩ : ∃ B, B = prB L := ⟨_, rfl⟩
  rw [← hBB]
  rw [← hBB] at hB
  have HB := hide hB
  rw [hLl] at HPr
  clear hL hLl hAT hD hDd hIV hC hB hBB hv hV0 hx hDs
  by_cases hA : 0 ≤ AT ∧ x.size = 1
  · obtain ⟨hA1, hA2⟩ := hA
    have hA2' : (x.size : Int) = 1 := by omega
    have HC : Hid (C = ⟨3 + AT, 0⟩) := hide (by rw [HPr.out, if_pos ⟨hA1, hA2⟩])
    go_enter Tryd.func19, Tryd.ntmps19
    go_upto_region 11 with (first | (go_at_call 33; (with_reducible refine Calls.mono (HCut.out _) ?_); rintro e w3 ⟨rfl, hw⟩; obtain rfl := hw.symm; clear hw) | (go_at_call 34; (with_reducible refine Calls.mono (HIdx.out _ HV0.out) ?_); rintro e w3 ⟨rfl, hw⟩; obtain rfl := hw.symm; clear hw))
    obtain ⟨W, hW⟩ : ∃ W, W = (w.alloc (.cells #[.int .i64 0, .int .i64 0] 37)).alloc (.cells #[.int .i64 (3 + AT), .int .i64 0] 37) := ⟨_, rfl⟩
    rw [← hW]
    have HBW : Hid (Below w.heap.size w W) := hide (by rw [hW]; exact ((Below.refl _ _).alloc (Nat.le_refl _) _).alloc (by simp) _)
    have HXr : Hid (Bx W (w.heap.size) #[.int .i64 0, .int .i64 0] 37) := hide (by rw [hW]; exact (Bx.new w _ _).alloc _)
    have HXc : Hid (Bx W (w.heap.size + 1) #[.int .i64 (3 + AT), .int .i64 0] 37) := hide (by
      rw [hW]
      have := Bx.new (w.alloc (.cells #[.int .i64 0, .int .i64 0] 37)) #[.int .i64 (3 + AT), .int .i64 0] 37
      simpa using this)
    have HVw := hide (HVR.out.below HBW.out)
    clear hW HAtoi HCut HIdx hA1 hA2 hA2' HPr
    have c0 : W.cell? ⟨w.heap.size + 1, 0, none⟩ = some (.int .i64 (3 + AT)) := HXc.out.c 0
    have c1 : W.cell? ⟨w.heap.size + 1, 1, none⟩ = some (.int .i64 0) := HXc.out.c 1
    have HWd : Hid (Below W.heap.size W W.drew) := hide (belowDrewR (Below.refl _ _))
    have hcl : w.heap.size + 1 < W.heap.size := HXc.out.lt
    have hrl : w.heap.size < W.heap.size := HXr.out.lt
    have HGC := hide (goodCell_any ⟨(3 + AT), 0⟩ W.drew)
    by_cases hg : goodC ⟨(3 + AT), 0⟩ = true
    · have HGd := hide hg
      have HTx := hide (fun (w' : World) (hb : Below W.heap.size W w') => cellText_any ⟨(3 + AT), 0⟩ w' HGd.out ((HVw.out.below hb).tab))
      rw [hg] at HGC
      clear hg
      obtain ⟨he, HB2⟩ | ⟨he, HB2⟩ : ((((wd ⟨(3 + AT), 0⟩).toList == x.toList) = true) ∧ Hid (B = true)) ∨ ((((wd ⟨(3 + AT), 0⟩).toList == x.toList) = false) ∧ Hid (B = false)) := by
        rw [Lib.toList_data, Lib.toList_data, ← HLx.out]
        by_cases e : wdL ⟨(3 + AT), 0⟩ = L
        · exact .inl ⟨beq_iff_eq.2 e, hide (by rw [HB.out, HC.out, HGd.out, decide_eq_true e]; rfl)⟩
        · exact .inr ⟨beq_eq_false_iff_ne.2 e, hide (by rw [HB.out, HC.out, HGd.out, decide_eq_false e]; rfl)⟩
      · refine wp_region_noPanic ?_
        refine wp_region_held_drew (S := fun w' => w'.cell? ⟨w.heap.size + 1, 0, none⟩ = some (.int .i64 (3 + AT)) ∧ w'.cell? ⟨w.heap.size + 1, 1, none⟩ = some (.int .i64 0)) (by kernel_rfl) ⟨c0, c1⟩ (fun hHeld => ?_)
        refine wpAnyH_take (i := 0) (oi := _) (v := ?_) rfl (by kernel_rfl) (by kernel_rfl) (by kernel_rfl) (fun _ _ _ h => h) (Or.inl ⟨by rfl, ?_⟩) (by assumption) ?_
        rotate_left 1
        · (intro w hSw; (try dsimp only at hSw); (first | (go_simp; done) | (go_simp; with_reducible rfl)))
        try simp only [Act.put, List.getElem_toArray, List.getElem_cons_zero, List.getElem_cons_succ, List.setIfInBounds_toArray, List.set_cons_zero, List.set_cons_succ]
        refine wpAnyH_take (i := 1) (oi := _) (v := ?_) rfl (by kernel_rfl) (by kernel_rfl) (by kernel_rfl) (fun _ _ _ h => h) (Or.inl ⟨by rfl, ?_⟩) (by assumption) ?_
        rotate_left 1
        · (intro w hSw; (try dsimp only at hSw); (first | (go_simp; done) | (go_simp; with_reducible rfl)))
        try simp only [Act.put, List.getElem_toArray, List.getElem_cons_zero, List.getElem_cons_succ, List.setIfInBounds_toArray, List.set_cons_zero, List.set_cons_succ]
        refine wpAnyH_ready (rs := [2]) (by kernel_rfl) (by simp) ?_
        refine AllReadyH.cons (o := _) rfl (fun K hK => ?_) AllReadyH.nil
        go_simp
        (with_reducible refine Calls.mono HGC.out ?_)
        rintro r wa ⟨rfl, hba⟩
        have HBa := hide (HWd.out.trans (hba.mono HWd.out.size))
        have a0 := (HBa.out.cell (p := ⟨w.heap.size + 1, 0, none⟩) hcl).trans c0
        have a1 := (HBa.out.cell (p := ⟨w.heap.size + 1, 1, none⟩) hcl).trans c1
        clear hba HGC
        (try go_wp2_with fail)
        refine hK.out _ _ ⟨a0, a1⟩ (fun hHeld => ?_)
        clear hK K
        try simp only [Act.put, List.getElem_toArray, List.getElem_cons_zero, List.getElem_cons_succ, List.setIfInBounds_toArray, List.set_cons_zero, List.set_cons_succ]
        refine wpAnyH_take (i := 3) (oi := _) (v := ?_) rfl (by kernel_rfl) (by kernel_rfl) (by kernel_rfl) (fun _ _ _ h => h) (Or.inl ⟨by rfl, ?_⟩) (by assumption) ?_
        rotate_left 1
        · (intro w hSw; (try dsimp only at hSw); (first | (go_simp; done) | (go_simp; with_reducible rfl)))
        try simp only [Act.put, List.getElem_toArray, List.getElem_cons_zero, List.getElem_cons_succ, List.setIfInBounds_toArray, List.set_cons_zero, List.set_cons_succ]
        refine wpAnyH_take (i := 4) (oi := _) (v := ?_) rfl (by kernel_rfl) (by kernel_rfl) (by kernel_rfl) (fun _ _ _ h => h) (Or.inl ⟨by rfl, ?_⟩) (by assumption) ?_
        rotate_left 1
        · (intro w hSw; (try dsimp only at hSw); (first | (go_simp; done) | (go_simp; with_reducible rfl)))
        try simp only [Act.put, List.getElem_toArray, List.getElem_cons_zero, List.getElem_cons_succ, List.setIfInBounds_toArray, List.set_cons_zero, List.set_cons_succ]
        refine wpAnyH_take (i := 6) (oi := _) (v := ?_) rfl (by kernel_rfl) (by kernel_rfl) (by kernel_rfl) (fun _ _ _ h => h) (Or.inl ⟨by rfl, ?_⟩) (by assumption) ?_
        rotate_left 1
        · (intro w hSw; (try dsimp only at hSw); (first | (go_simp; done) | (go_simp; with_reducible rfl)))
        try simp only [Act.put, List.getElem_toArray, List.getElem_cons_zero, List.getElem_cons_succ, List.setIfInBounds_toArray, List.set_cons_zero, List.set_cons_succ]
        refine wpAnyH_ready (rs := [5]) (by kernel_rfl) (by simp) ?_
        refine AllReadyH.cons (o := _) rfl (fun K hK => ?_) AllReadyH.nil
        go_simp
        (with_reducible refine Calls.mono (HTx.out _ HBa.out) ?_)
        rintro r wb ⟨rfl, hbb⟩
        have HBb := hide (HBa.out.trans (hbb.mono HBa.out.size))
        have b0 := (HBb.out.cell (p := ⟨w.heap.size + 1, 0, none⟩) hcl).trans c0
        have b1 := (HBb.out.cell (p := ⟨w.heap.size + 1, 1, none⟩) hcl).trans c1
        have HZ := hide (HXr.out.below HBb.out hrl)
        clear hbb HTx a0 a1
        (try go_wp2_with fail)
        refine hK.out _ _ ⟨b0, b1⟩ (fun hHeld => ?_)
        clear hK K
        try simp only [Act.put, List.getElem_toArray, List.getElem_cons_zero, List.getElem_cons_succ, List.setIfInBounds_toArray, List.set_cons_zero, List.set_cons_succ]
        refine wpAnyH_take (i := 7) (oi := _) (v := ?_) rfl (by kernel_rfl) (by kernel_rfl) (by kernel_rfl) (fun _ _ _ h => h) (Or.inl ⟨by rfl, ?_⟩) (by assumption) ?_
        rotate_left 1
        · (intro w hSw; (try dsimp only at hSw); (first | (go_simp; done) | (go_simp; with_reducible rfl)))
        try simp only [Act.put, List.getElem_toArray, List.getElem_cons_zero, List.getElem_cons_succ, List.setIfInBounds_toArray, List.set_cons_zero, List.set_cons_succ]
        refine wpAnyH_take (i := 8) (oi := _) (v := ?_) rfl (by kernel_rfl) (by kernel_rfl) (by kernel_rfl) (fun _ _ _ h => h) (Or.inl ⟨by rfl, ?_⟩) (by assumption) ?_
        rotate_left 1
        · (intro w hSw; (try dsimp only at hSw); (first | (go_simp; done) | (go_simp; with_reducible rfl)))
        try simp only [Act.put, List.getElem_toArray, List.getElem_cons_zero, List.getElem_cons_succ, List.setIfInBounds_toArray, List.set_cons_zero, List.set_cons_succ]
        have cl := HZ.out.c
        have fl := HZ.out.f
        refine wpAnyH_ready (rs := [9]) (by kernel_rfl) (by simp) ?_
        refine AllReadyH.cons (o := _) rfl (fun K hK => ?_) AllReadyH.nil
        have hzf := (HZ.out.set 0 (.int .i64 (3 + AT))).set 1 (.int .i64 0)
        simp only [List.setIfInBounds_toArray, List.set_cons_zero, List.set_cons_succ] at hzf
        have HZf := hide hzf
        have HOt := hide (((Oth.refl (w.heap.size) wb).setCell 0 (.int .i64 (3 + AT))).setCell 1 (.int .i64 0))
        have d0 := (HOt.out.cell' (a := ⟨w.heap.size + 1, 0, none⟩) (Nat.lt_of_lt_of_le hcl HBb.out.size) (by simp)).trans b0
        have d1 := (HOt.out.cell' (a := ⟨w.heap.size + 1, 1, none⟩) (Nat.lt_of_lt_of_le hcl HBb.out.size) (by simp)).trans b1
        clear hzf
        go_simp
        (try go_wp2_with fail)
        refine hK.out _ _ ⟨d0, d1⟩ (fun hHeld => ?_)
        clear hK K
        try simp only [Act.put, List.getElem_toArray, List.getElem_cons_zero, List.getElem_cons_succ, List.setIfInBounds_toArray, List.set_cons_zero, List.set_cons_succ]
        clear cl fl
        refine wpAnyH_take (i := 10) (oi := _) (v := ?_) rfl (by kernel_rfl) (by kernel_rfl) (by kernel_rfl) (fun _ _ _ h => h) (Or.inl ⟨by rfl, ?_⟩) (by assumption) ?_
        rotate_left 1
        · (intro w hSw; (try dsimp only at hSw); (first | (go_simp; done) | (go_simp; with_reducible rfl)))
        try simp only [Act.put, List.getElem_toArray, List.getElem_cons_zero, List.getElem_cons_succ, List.setIfInBounds_toArray, List.set_cons_zero, List.set_cons_succ]
        refine wpAnyH_done (by kernel_rfl) ?_ _
        refine NoPanic.normal ?_
        have r0 := HZf.out.c 0
        have r1 := HZf.out.c 1
        clear hHeld b0 b1 d0 d1 c0 c1
        go_wp2_with fail
        refine bodyPost_ret (v := .tuple #[.agg #[.int .i64 (3 + AT), .int .i64 0], .bool true]) (by simp [results, Tryd.results19, go_sem, r0, r1]) rfl ⟨by rw [HC.out, HB2.out], ?_⟩
        exact (HBW.out.trans (HBb.out.mono HBW.out.size)).trans (HOt.out.below (by have := HBW.out.size; have := HBb.out.size; omega) (Nat.le_refl _))
      · refine wp_region_noPanic ?_
        refine wp_region_held_drew (S := fun w' => w'.cell? ⟨w.heap.size + 1, 0, none⟩ = some (.int .i64 (3 + AT)) ∧ w'.cell? ⟨w.heap.size + 1, 1, none⟩ = some (.int .i64 0)) (by kernel_rfl) ⟨c0, c1⟩ (fun hHeld => ?_)
        refine wpAnyH_take (i := 0) (oi := _) (v := ?_) rfl (by kernel_rfl) (by kernel_rfl) (by kernel_rfl) (fun _ _ _ h => h) (Or.inl ⟨by rfl, ?_⟩) (by assumption) ?_
        rotate_left 1
        · (intro w hSw; (try dsimp only at hSw); (first | (go_simp; done) | (go_simp; with_reducible rfl)))
        try simp only [Act.put, List.getElem_toArray, List.getElem_cons_zero, List.getElem_cons_succ, List.setIfInBounds_toArray, List.set_cons_zero, List.set_cons_succ]
        refine wpAnyH_take (i := 1) (oi := _) (v := ?_) rfl (by kernel_rfl) (by kernel_rfl) (by kernel_rfl) (fun _ _ _ h => h) (Or.inl ⟨by rfl, ?_⟩) (by assumption) ?_
        rotate_left 1
        · (intro w hSw; (try dsimp only at hSw); (first | (go_simp; done) | (go_simp; with_reducible rfl)))
        try simp only [Act.put, List.getElem_toArray, List.getElem_cons_zero, List.getElem_cons_succ, List.setIfInBounds_toArray, List.set_cons_zero, List.set_cons_succ]
        refine wpAnyH_ready (rs := [2]) (by kernel_rfl) (by simp) ?_
        refine AllReadyH.cons (o := _) rfl (fun K hK => ?_) AllReadyH.nil
        go_simp
        (with_reducible refine Calls.mono HGC.out ?_)
        rintro r wa ⟨rfl, hba⟩
        have HBa := hide (HWd.out.trans (hba.mono HWd.out.size))
        have a0 := (HBa.out.cell (p := ⟨w.heap.size + 1, 0, none⟩) hcl).trans c0
        have a1 := (HBa.out.cell (p := ⟨w.heap.size + 1, 1, none⟩) hcl).trans c1
        clear hba HGC
        (try go_wp2_with fail)
        refine hK.out _ _ ⟨a0, a1⟩ (fun hHeld => ?_)
        clear hK K
        try simp only [Act.put, List.getElem_toArray, List.getElem_cons_zero, List.getElem_cons_succ, List.setIfInBounds_toArray, List.set_cons_zero, List.set_cons_succ]
        refine wpAnyH_take (i := 3) (oi := _) (v := ?_) rfl (by kernel_rfl) (by kernel_rfl) (by kernel_rfl) (fun _ _ _ h => h) (Or.inl ⟨by rfl, ?_⟩) (by assumption) ?_
        rotate_left 1
        · (intro w hSw; (try dsimp only at hSw); (first | (go_simp; done) | (go_simp; with_reducible rfl)))
        try simp only [Act.put, List.getElem_toArray, List.getElem_cons_zero, List.getElem_cons_succ, List.setIfInBounds_toArray, List.set_cons_zero, List.set_cons_succ]
        refine wpAnyH_take (i := 4) (oi := _) (v := ?_) rfl (by kernel_rfl) (by kernel_rfl) (by kernel_rfl) (fun _ _ _ h => h) (Or.inl ⟨by rfl, ?_⟩) (by assumption) ?_
        rotate_left 1
        · (intro w hSw; (try dsimp only at hSw); (first | (go_simp; done) | (go_simp; with_reducible rfl)))
        try simp only [Act.put, List.getElem_toArray, List.getElem_cons_zero, List.getElem_cons_succ, List.setIfInBounds_toArray, List.set_cons_zero, List.set_cons_succ]
        refine wpAnyH_take (i := 6) (oi := _) (v := ?_) rfl (by kernel_rfl) (by kernel_rfl) (by kernel_rfl) (fun _ _ _ h => h) (Or.inl ⟨by rfl, ?_⟩) (by assumption) ?_
        rotate_left 1
        · (intro w hSw; (try dsimp only at hSw); (first | (go_simp; done) | (go_simp; with_reducible rfl)))
        try simp only [Act.put, List.getElem_toArray, List.getElem_cons_zero, List.getElem_cons_succ, List.setIfInBounds_toArray, List.set_cons_zero, List.set_cons_succ]
        refine wpAnyH_ready (rs := [5]) (by kernel_rfl) (by simp) ?_
        refine AllReadyH.cons (o := _) rfl (fun K hK => ?_) AllReadyH.nil
        go_simp
        (with_reducible refine Calls.mono (HTx.out _ HBa.out) ?_)
        rintro r wb ⟨rfl, hbb⟩
        have HBb := hide (HBa.out.trans (hbb.mono HBa.out.size))
        have b0 := (HBb.out.cell (p := ⟨w.heap.size + 1, 0, none⟩) hcl).trans c0
        have b1 := (HBb.out.cell (p := ⟨w.heap.size + 1, 1, none⟩) hcl).trans c1
        have HZ := hide (HXr.out.below HBb.out hrl)
        clear hbb HTx a0 a1
        (try go_wp2_with fail)
        refine hK.out _ _ ⟨b0, b1⟩ (fun hHeld => ?_)
        clear hK K
        try simp only [Act.put, List.getElem_toArray, List.getElem_cons_zero, List.getElem_cons_succ, List.setIfInBounds_toArray, List.set_cons_zero, List.set_cons_succ]
        refine wpAnyH_take (i := 7) (oi := _) (v := ?_) rfl (by kernel_rfl) (by kernel_rfl) (by kernel_rfl) (fun _ _ _ h => h) (Or.inl ⟨by rfl, ?_⟩) (by assumption) ?_
        rotate_left 1
        · (intro w hSw; (try dsimp only at hSw); (first | (go_simp; done) | (go_simp; with_reducible rfl)))
        try simp only [Act.put, List.getElem_toArray, List.getElem_cons_zero, List.getElem_cons_succ, List.setIfInBounds_toArray, List.set_cons_zero, List.set_cons_succ]
        refine wpAnyH_take (i := 8) (oi := _) (v := ?_) rfl (by kernel_rfl) (by kernel_rfl) (by kernel_rfl) (fun _ _ _ h => h) (Or.inl ⟨by rfl, ?_⟩) (by assumption) ?_
        rotate_left 1
        · (intro w hSw; (try dsimp only at hSw); (first | (go_simp; done) | (go_simp; with_reducible rfl)))
        try simp only [Act.put, List.getElem_toArray, List.getElem_cons_zero, List.getElem_cons_succ, List.setIfInBounds_toArray, List.set_cons_zero, List.set_cons_succ]
        have cl := HZ.out.c
        have fl := HZ.out.f
        refine wpAnyH_ready (rs := [9]) (by kernel_rfl) (by simp) ?_
        refine AllReadyH.cons (o := _) rfl (fun K hK => ?_) AllReadyH.nil
        have hzf := (HZ.out.set 0 (.int .i64 (3 + AT))).set 1 (.int .i64 0)
        simp only [List.setIfInBounds_toArray, List.set_cons_zero, List.set_cons_succ] at hzf
        have HZf := hide hzf
        have HOt := hide (((Oth.refl (w.heap.size) wb).setCell 0 (.int .i64 (3 + AT))).setCell 1 (.int .i64 0))
        have d0 := (HOt.out.cell' (a := ⟨w.heap.size + 1, 0, none⟩) (Nat.lt_of_lt_of_le hcl HBb.out.size) (by simp)).trans b0
        have d1 := (HOt.out.cell' (a := ⟨w.heap.size + 1, 1, none⟩) (Nat.lt_of_lt_of_le hcl HBb.out.size) (by simp)).trans b1
        clear hzf
        go_simp
        (try go_wp2_with fail)
        refine hK.out _ _ ⟨d0, d1⟩ (fun hHeld => ?_)
        clear hK K
        try simp only [Act.put, List.getElem_toArray, List.getElem_cons_zero, List.getElem_cons_succ, List.setIfInBounds_toArray, List.set_cons_zero, List.set_cons_succ]
        clear cl fl
        refine wpAnyH_take (i := 10) (oi := _) (v := ?_) rfl (by kernel_rfl) (by kernel_rfl) (by kernel_rfl) (fun _ _ _ h => h) (Or.inl ⟨by rfl, ?_⟩) (by assumption) ?_
        rotate_left 1
        · (intro w hSw; (try dsimp only at hSw); (first | (go_simp; done) | (go_simp; with_reducible rfl)))
        try simp only [Act.put, List.getElem_toArray, List.getElem_cons_zero, List.getElem_cons_succ, List.setIfInBounds_toArray, List.set_cons_zero, List.set_cons_succ]
        refine wpAnyH_done (by kernel_rfl) ?_ _
        refine NoPanic.normal ?_
        have r0 := HZf.out.c 0
        have r1 := HZf.out.c 1
        clear hHeld b0 b1 d0 d1 c0 c1
        go_wp2_with fail
        refine bodyPost_ret (v := .tuple #[.agg #[.int .i64 (3 + AT), .int .i64 0], .bool false]) (by simp [results, Tryd.results19, go_sem, r0, r1]) rfl ⟨by rw [HC.out, HB2.out], ?_⟩
        exact (HBW.out.trans (HBb.out.mono HBW.out.size)).trans (HOt.out.below (by have := HBW.out.size; have := HBb.out.size; omega) (Nat.le_refl _))
    · rw [Bool.not_eq_true] at hg
      have HB2 : Hid (B = false) := hide (by rw [HB.out, HC.out, hg]; rfl)
      rw [hg] at HGC
      clear hg
      refine wp_region_noPanic ?_
      refine wp_region_held_drew (S := fun w' => w'.cell? ⟨w.heap.size + 1, 0, none⟩ = some (.int .i64 (3 + AT)) ∧ w'.cell? ⟨w.heap.size + 1, 1, none⟩ = some (.int .i64 0)) (by kernel_rfl) ⟨c0, c1⟩ (fun hHeld => ?_)
      refine wpAnyH_take (i := 0) (oi := _) (v := ?_) rfl (by kernel_rfl) (by kernel_rfl) (by kernel_rfl) (fun _ _ _ h => h) (Or.inl ⟨by rfl, ?_⟩) (by assumption) ?_
      rotate_left 1
      · (intro w hSw; (try dsimp only at hSw); (first | (go_simp; done) | (go_simp; with_reducible rfl)))
      try simp only [Act.put, List.getElem_toArray, List.getElem_cons_zero, List.getElem_cons_succ, List.setIfInBounds_toArray, List.set_cons_zero, List.set_cons_succ]
      refine wpAnyH_take (i := 1) (oi := _) (v := ?_) rfl (by kernel_rfl) (by kernel_rfl) (by kernel_rfl) (fun _ _ _ h => h) (Or.inl ⟨by rfl, ?_⟩) (by assumption) ?_
      rotate_left 1
      · (intro w hSw; (try dsimp only at hSw); (first | (go_simp; done) | (go_simp; with_reducible rfl)))
      try simp only [Act.put, List.getElem_toArray, List.getElem_cons_zero, List.getElem_cons_succ, List.setIfInBounds_toArray, List.set_cons_zero, List.set_cons_succ]
      refine wpAnyH_ready (rs := [2]) (by kernel_rfl) (by simp) ?_
      refine AllReadyH.cons (o := _) rfl (fun K hK => ?_) AllReadyH.nil
      go_simp
      (with_reducible refine Calls.mono HGC.out ?_)
      rintro r wa ⟨rfl, hba⟩
      have HBa := hide (HWd.out.trans (hba.mono HWd.out.size))
      have b0 := (HBa.out.cell (p := ⟨w.heap.size + 1, 0, none⟩) hcl).trans c0
      have b1 := (HBa.out.cell (p := ⟨w.heap.size + 1, 1, none⟩) hcl).trans c1
      have HZ := hide (HXr.out.below HBa.out hrl)
      clear hba HGC
      (try go_wp2_with fail)
      refine hK.out _ _ ⟨b0, b1⟩ (fun hHeld => ?_)
      clear hK K
      try simp only [Act.put, List.getElem_toArray, List.getElem_cons_zero, List.getElem_cons_succ, List.setIfInBounds_toArray, List.set_cons_zero, List.set_cons_succ]
      refine wpAnyH_take (i := 3) (oi := _) (v := ?_) rfl (by kernel_rfl) (by kernel_rfl) (by kernel_rfl) (fun _ _ _ h => h) (Or.inl ⟨by rfl, ?_⟩) (by assumption) ?_
      rotate_left 1
      · (intro w hSw; (try dsimp only at hSw); (first | (go_simp; done) | (go_simp; with_reducible rfl)))
      try simp only [Act.put, List.getElem_toArray, List.getElem_cons_zero, List.getElem_cons_succ, List.setIfInBounds_toArray, List.set_cons_zero, List.set_cons_succ]
      refine wpAnyH_take (i := 4) (oi := _) (v := undef) rfl (by kernel_rfl) (by kernel_rfl) (by kernel_rfl) (fun _ _ _ h => h) (Or.inr ⟨by rfl, rfl⟩) (by assumption) ?_
      try simp only [Act.put, List.getElem_toArray, List.getElem_cons_zero, List.getElem_cons_succ, List.setIfInBounds_toArray, List.set_cons_zero, List.set_cons_succ]
      refine wpAnyH_take (i := 5) (oi := _) (v := undef) rfl (by kernel_rfl) (by kernel_rfl) (by kernel_rfl) (fun _ _ _ h => h) (Or.inr ⟨by rfl, rfl⟩) (by assumption) ?_
      try simp only [Act.put, List.getElem_toArray, List.getElem_cons_zero, List.getElem_cons_succ, List.setIfInBounds_toArray, List.set_cons_zero, List.set_cons_succ]
      refine wpAnyH_take (i := 6) (oi := _) (v := undef) rfl (by kernel_rfl) (by kernel_rfl) (by kernel_rfl) (fun _ _ _ h => h) (Or.inr ⟨by rfl, rfl⟩) (by assumption) ?_
      try simp only [Act.put, List.getElem_toArray, List.getElem_cons_zero, List.getElem_cons_succ, List.setIfInBounds_toArray, List.set_cons_zero, List.set_cons_succ]
      refine wpAnyH_take (i := 7) (oi := _) (v := undef) rfl (by kernel_rfl) (by kernel_rfl) (by kernel_rfl) (fun _ _ _ h => h) (Or.inr ⟨by rfl, rfl⟩) (by assumption) ?_
      try simp only [Act.put, List.getElem_toArray, List.getElem_cons_zero, List.getElem_cons_succ, List.setIfInBounds_toArray, List.set_cons_zero, List.set_cons_succ]
      refine wpAnyH_take (i := 8) (oi := _) (v := ?_) rfl (by kernel_rfl) (by kernel_rfl) (by kernel_rfl) (fun _ _ _ h => h) (Or.inl ⟨by rfl, ?_⟩) (by assumption) ?_
      rotate_left 1
      · (intro w hSw; (try dsimp only at hSw); (first | (go_simp; done) | (go_simp; with_reducible rfl)))
      try simp only [Act.put, List.getElem_toArray, List.getElem_cons_zero, List.getElem_cons_succ, List.setIfInBounds_toArray, List.set_cons_zero, List.set_cons_succ]
      have cl := HZ.out.c
      have fl := HZ.out.f
      refine wpAnyH_ready (rs := [9]) (by kernel_rfl) (by simp) ?_
      refine AllReadyH.cons (o := _) rfl (fun K hK => ?_) AllReadyH.nil
      have hzf := (HZ.out.set 0 (.int .i64 (3 + AT))).set 1 (.int .i64 0)
      simp only [List.setIfInBounds_toArray, List.set_cons_zero, List.set_cons_succ] at hzf
      have HZf := hide hzf
      have HOt := hide (((Oth.refl (w.heap.size) wa).setCell 0 (.int .i64 (3 + AT))).setCell 1 (.int .i64 0))
      have d0 := (HOt.out.cell' (a := ⟨w.heap.size + 1, 0, none⟩) (Nat.lt_of_lt_of_le hcl HBa.out.size) (by simp)).trans b0
      have d1 := (HOt.out.cell' (a := ⟨w.heap.size + 1, 1, none⟩) (Nat.lt_of_lt_of_le hcl HBa.out.size) (by simp)).trans b1
      clear hzf
      go_simp
      (try go_wp2_with fail)
      refine hK.out _ _ ⟨d0, d1⟩ (fun hHeld => ?_)
      clear hK K
      try simp only [Act.put, List.getElem_toArray, List.getElem_cons_zero, List.getElem_cons_succ, List.setIfInBounds_toArray, List.set_cons_zero, List.set_cons_succ]
      clear cl fl
      refine wpAnyH_take (i := 10) (oi := _) (v := ?_) rfl (by kernel_rfl) (by kernel_rfl) (by kernel_rfl) (fun _ _ _ h => h) (Or.inl ⟨by rfl, ?_⟩) (by assumption) ?_
      rotate_left 1
      · (intro w hSw; (try dsimp only at hSw); (first | (go_simp; done) | (go_simp; with_reducible rfl)))
      try simp only [Act.put, List.getElem_toArray, List.getElem_cons_zero, List.getElem_cons_succ, List.setIfInBounds_toArray, List.set_cons_zero, List.set_cons_succ]
      refine wpAnyH_done (by kernel_rfl) ?_ _
      refine NoPanic.normal ?_
      have r0 := HZf.out.c 0
      have r1 := HZf.out.c 1
      clear hHeld b0 b1 d0 d1 c0 c1
      go_wp2_with fail
      refine bodyPost_ret (v := .tuple #[.agg #[.int .i64 (3 + AT), .int .i64 0], .bool false]) (by simp [results, Tryd.results19, go_sem, r0, r1]) rfl ⟨by rw [HC.out, HB2.out], ?_⟩
      exact (HBW.out.trans (HBa.out.mono HBW.out.size)).trans (HOt.out.below (by have := HBW.out.size; have := HBa.out.size; omega) (Nat.le_refl _))
  · have hAi : 0 ≤ AT → ¬ (x.size : Int) = 1 := fun h1 h2 => hA ⟨h1, by omega⟩
    have hPr := HPr.out
    rw [if_neg hA] at hPr
    have hsplit : AT < 0 ∨ (0 ≤ AT ∧ ((x.size : Int) == 1) = false) := by
      by_cases h : AT < 0
      · exact .inl h
      · exact .inr ⟨by omega, beq_eq_false_iff_ne.2 (hAi (by omega))⟩
    have hB0 : Below w.heap.size w ((w.alloc (.cells #[.int .i64 0, .int .i64 0] 37)).alloc (.cells #[.int .i64 0, .int .i64 0] 37)) := ((Below.refl _ _).alloc (Nat.le_refl _) _).alloc (by simp) _
    have hR0 : Bx ((w.alloc (.cells #[.int .i64 0, .int .i64 0] 37)).alloc (.cells #[.int .i64 0, .int .i64 0] 37)) (w.heap.size) #[.int .i64 0, .int .i64 0] 37 := (Bx.new w _ _).alloc _
    have hX0 : Bx ((w.alloc (.cells #[.int .i64 0, .int .i64 0] 37)).alloc (.cells #[.int .i64 0, .int .i64 0] 37)) (w.heap.size + 1) #[.int .i64 0, .int .i64 0] 37 := by
      have := Bx.new (w.alloc (.cells #[.int .i64 0, .int .i64 0] 37)) #[.int .i64 0, .int .i64 0] 37
      simpa using this
    have HB0 := hide hB0
    have HR0 := hide hR0
    have HX0 := hide hX0
    clear hB0 hR0 hX0 hAi HPr
    have HPr := hide hPr
    clear hPr
    rcases HAtoi.out with ⟨v, hv, hAt⟩ | ⟨hv, hAt⟩
    · have HAt := hide hAt
      have hP := HPr.out
      rw [hv] at hP
      clear hAt HAtoi
      cases IV
      · have HC : Hid (C = ⟨2, v⟩) := hide (by rw [hP]; rfl)
        clear hP hv
        rcases hsplit with hlt | ⟨hge, hne⟩
        · go_enter Tryd.func19, Tryd.ntmps19
          go_upto_region 11 with (first | (go_at_call 33; (with_reducible refine Calls.mono (HCut.out _) ?_); rintro e w3 ⟨rfl, hw⟩; obtain rfl := hw.symm; clear hw) | (go_at_call 34; (with_reducible refine Calls.mono (HIdx.out _ HV0.out) ?_); rintro e w3 ⟨rfl, hw⟩; obtain rfl := hw.symm; clear hw) | (go_at_call 35; (with_reducible refine Calls.mono HAt.out ?_); rintro e W1 ⟨rfl, hb⟩; have HBW1 := hide (HB0.out.trans (hb.mono HB0.out.size)); have HX1 := hide (HX0.out.below hb HX0.out.lt); have HR1 := hide (HR0.out.below hb HR0.out.lt); have cX := HX1.out.c; have fX := HX1.out.f; clear hb HB0 HX0 HR0))
          obtain ⟨W, hW⟩ : ∃ W, W = (W1.setCell ⟨w.heap.size + 1, 0, none⟩ (.int .i64 2)).setCell ⟨w.heap.size + 1, 1, none⟩ (.int .i64 v) := ⟨_, rfl⟩
          rw [← hW]
          have HOw : Hid (Oth (w.heap.size + 1) W1 W) := hide (by rw [hW]; exact ((Oth.refl (w.heap.size + 1) W1).setCell 0 _).setCell 1 _)
          have HBW : Hid (Below w.heap.size w W) := hide (HBW1.out.trans (HOw.out.below HBW1.out.size (by omega)))
          have HXc : Hid (Bx W (w.heap.size + 1) #[.int .i64 2, .int .i64 v] 37) := hide (by
            have hzf := (HX1.out.set 0 (.int .i64 2)).set 1 (.int .i64 v)
            simp only [List.setIfInBounds_toArray, List.set_cons_zero, List.set_cons_succ] at hzf
            rw [hW]; exact hzf)
          have HXr : Hid (Bx W (w.heap.size) #[.int .i64 0, .int .i64 0] 37) := hide ((HOw.out.block _ HR1.out.lt (by omega)).trans HR1.out)
          have HVw := hide (HVR.out.below HBW.out)
          clear hW cX fX HX1 HR1 HOw HBW1 HCut HIdx HPr hA HAt
          have c0 : W.cell? ⟨w.heap.size + 1, 0, none⟩ = some (.int .i64 2) := HXc.out.c 0
          have c1 : W.cell? ⟨w.heap.size + 1, 1, none⟩ = some (.int .i64 v) := HXc.out.c 1
          have HWd : Hid (Below W.heap.size W W.drew) := hide (belowDrewR (Below.refl _ _))
          have hcl : w.heap.size + 1 < W.heap.size := HXc.out.lt
          have hrl : w.heap.size < W.heap.size := HXr.out.lt
          have HGC := hide (goodCell_any ⟨2, v⟩ W.drew)
          by_cases hg : goodC ⟨2, v⟩ = true
          · have HGd := hide hg
            have HTx := hide (fun (w' : World) (hb : Below W.heap.size W w') => cellText_any ⟨2, v⟩ w' HGd.out ((HVw.out.below hb).tab))
            rw [hg] at HGC
            clear hg
            obtain ⟨he, HB2⟩ | ⟨he, HB2⟩ : ((((wd ⟨2, v⟩).toList == x.toList) = true) ∧ Hid (B = true)) ∨ ((((wd ⟨2, v⟩).toList == x.toList) = false) ∧ Hid (B = false)) := by
              rw [Lib.toList_data, Lib.toList_data, ← HLx.out]
              by_cases e : wdL ⟨2, v⟩ = L
              · exact .inl ⟨beq_iff_eq.2 e, hide (by rw [HB.out, HC.out, HGd.out, decide_eq_true e]; rfl)⟩
              · exact .inr ⟨beq_eq_false_iff_ne.2 e, hide (by rw [HB.out, HC.out, HGd.out, decide_eq_false e]; rfl)⟩
            · refine wp_region_noPanic ?_
              refine wp_region_held_drew (S := fun w' => w'.cell? ⟨w.heap.size + 1, 0, none⟩ = some (.int .i64 2) ∧ w'.cell? ⟨w.heap.size + 1, 1, none⟩ = some (.int .i64 v)) (by kernel_rfl) ⟨c0, c1⟩ (fun hHeld => ?_)
              refine wpAnyH_take (i := 0) (oi := _) (v := ?_) rfl (by kernel_rfl) (by kernel_rfl) (by kernel_rfl) (fun _ _ _ h => h) (Or.inl ⟨by rfl, ?_⟩) (by assumption) ?_
              rotate_left 1
              · (intro w hSw; (try dsimp only at hSw); (first | (go_simp; done) | (go_simp; with_reducible rfl)))
              try simp only [Act.put, List.getElem_toArray, List.getElem_cons_zero, List.getElem_cons_succ, List.setIfInBounds_toArray, List.set_cons_zero, List.set_cons_succ]
              refine wpAnyH_take (i := 1) (oi := _) (v := ?_) rfl (by kernel_rfl) (by kernel_rfl) (by kernel_rfl) (fun _ _ _ h => h) (Or.inl ⟨by rfl, ?_⟩) (by assumption) ?_
              rotate_left 1
              · (intro w hSw; (try dsimp only at hSw); (first | (go_simp; done) | (go_simp; with_reducible rfl)))
              try simp only [Act.put, List.getElem_toArray, List.getElem_cons_zero, List.getElem_cons_succ, List.setIfInBounds_toArray, List.set_cons_zero, List.set_cons_succ]
              refine wpAnyH_ready (rs := [2]) (by kernel_rfl) (by simp) ?_
              refine AllReadyH.cons (o := _) rfl (fun K hK => ?_) AllReadyH.nil
              go_simp
              (with_reducible refine Calls.mono HGC.out ?_)
              rintro r wa ⟨rfl, hba⟩
              have HBa := hide (HWd.out.trans (hba.mono HWd.out.size))
              have a0 := (HBa.out.cell (p := ⟨w.heap.size + 1, 0, none⟩) hcl).trans c0
              have a1 := (HBa.out.cell (p := ⟨w.heap.size + 1, 1, none⟩) hcl).trans c1
              clear hba HGC
              (try go_wp2_with fail)
              refine hK.out _ _ ⟨a0, a1⟩ (fun hHeld => ?_)
              clear hK K
              try simp only [Act.put, List.getElem_toArray, List.getElem_cons_zero, List.getElem_cons_succ, List.setIfInBounds_toArray, List.set_cons_zero, List.set_cons_succ]
              refine wpAnyH_take (i := 3) (oi := _) (v := ?_) rfl (by kernel_rfl) (by kernel_rfl) (by kernel_rfl) (fun _ _ _ h => h) (Or.inl ⟨by rfl, ?_⟩) (by assumption) ?_
              rotate_left 1
              · (intro w hSw; (try dsimp only at hSw); (first | (go_simp; done) | (go_simp; with_reducible rfl)))
              try simp only [Act.put, List.getElem_toArray, List.getElem_cons_zero, List.getElem_cons_succ, List.setIfInBounds_toArray, List.set_cons_zero, List.set_cons_succ]
              refine wpAnyH_take (i := 4) (oi := _) (v := ?_) rfl (by kernel_rfl) (by kernel_rfl) (by kernel_rfl) (fun _ _ _ h => h) (Or.inl ⟨by rfl, ?_⟩) (by assumption) ?_
              rotate_left 1
              · (intro w hSw; (try dsimp only at hSw); (first | (go_simp; done) | (go_simp; with_reducible rfl)))
              try simp only [Act.put, List.getElem_toArray, List.getElem_cons_zero, List.getElem_cons_succ, List.setIfInBounds_toArray, List.set_cons_zero, List.set_cons_succ]
              refine wpAnyH_take (i := 6) (oi := _) (v := ?_) rfl (by kernel_rfl) (by kernel_rfl) (by kernel_rfl) (fun _ _ _ h => h) (Or.inl ⟨by rfl, ?_⟩) (by assumption) ?_
              rotate_left 1
              · (intro w hSw; (try dsimp only at hSw); (first | (go_simp; done) | (go_simp; with_reducible rfl)))
              try simp only [Act.put, List.getElem_toArray, List.getElem_cons_zero, List.getElem_cons_succ, List.setIfInBounds_toArray, List.set_cons_zero, List.set_cons_succ]
              refine wpAnyH_ready (rs := [5]) (by kernel_rfl) (by simp) ?_
              refine AllReadyH.cons (o := _) rfl (fun K hK => ?_) AllReadyH.nil
              go_simp
              (with_reducible refine Calls.mono (HTx.out _ HBa.out) ?_)
              rintro r wb ⟨rfl, hbb⟩
              have HBb := hide (HBa.out.trans (hbb.mono HBa.out.size))
              have b0 := (HBb.out.cell (p := ⟨w.heap.size + 1, 0, none⟩) hcl).trans c0
              have b1 := (HBb.out.cell (p := ⟨w.heap.size + 1, 1, none⟩) hcl).trans c1
              have HZ := hide (HXr.out.below HBb.out hrl)
              clear hbb HTx a0 a1
              (try go_wp2_with fail)
              refine hK.out _ _ ⟨b0, b1⟩ (fun hHeld => ?_)
              clear hK K
              try simp only [Act.put, List.getElem_toArray, List.getElem_cons_zero, List.getElem_cons_succ, List.setIfInBounds_toArray, List.set_cons_zero, List.set_cons_succ]
              refine wpAnyH_take (i := 7) (oi := _) (v := ?_) rfl (by kernel_rfl) (by kernel_rfl) (by kernel_rfl) (fun _ _ _ h => h) (Or.inl ⟨by rfl, ?_⟩) (by assumption) ?_
              rotate_left 1
              · (intro w hSw; (try dsimp only at hSw); (first | (go_simp; done) | (go_simp; with_reducible rfl)))
              try simp only [Act.put, List.getElem_toArray, List.getElem_cons_zero, List.getElem_cons_succ, List.setIfInBounds_toArray, List.set_cons_zero, List.set_cons_succ]
              refine wpAnyH_take (i := 8) (oi := _) (v := ?_) rfl (by kernel_rfl) (by kernel_rfl) (by kernel_rfl) (fun _ _ _ h => h) (Or.inl ⟨by rfl, ?_⟩) (by assumption) ?_
              rotate_left 1
              · (intro w hSw; (try dsimp only at hSw); (first | (go_simp; done) | (go_simp; with_reducible rfl)))
              try simp only [Act.put, List.getElem_toArray, List.getElem_cons_zero, List.getElem_cons_succ, List.setIfInBounds_toArray, List.set_cons_zero, List.set_cons_succ]
              have cl := HZ.out.c
              have fl := HZ.out.f
              refine wpAnyH_ready (rs := [9]) (by kernel_rfl) (by simp) ?_
              refine AllReadyH.cons (o := _) rfl (fun K hK => ?_) AllReadyH.nil
              have hzf := (HZ.out.set 0 (.int .i64 2)).set 1 (.int .i64 v)
              simp only [List.setIfInBounds_toArray, List.set_cons_zero, List.set_cons_succ] at hzf
              have HZf := hide hzf
              have HOt := hide (((Oth.refl (w.heap.size) wb).setCell 0 (.int .i64 2)).setCell 1 (.int .i64 v))
              have d0 := (HOt.out.cell' (a := ⟨w.heap.size + 1, 0, none⟩) (Nat.lt_of_lt_of_le hcl HBb.out.size) (by simp)).trans b0
              have d1 := (HOt.out.cell' (a := ⟨w.heap.size + 1, 1, none⟩) (Nat.lt_of_lt_of_le hcl HBb.out.size) (by simp)).trans b1
              clear hzf
              go_simp
              (try go_wp2_with fail)
              refine hK.out _ _ ⟨d0, d1⟩ (fun hHeld => ?_)
              clear hK K
              try simp only [Act.put, List.getElem_toArray, List.getElem_cons_zero, List.getElem_cons_succ, List.setIfInBounds_toArray, List.set_cons_zero, List.set_cons_succ]
              clear cl fl
              refine wpAnyH_take (i := 10) (oi := _) (v := ?_) rfl (by kernel_rfl) (by kernel_rfl) (by kernel_rfl) (fun _ _ _ h => h) (Or.inl ⟨by rfl, ?_⟩) (by assumption) ?_
              rotate_left 1
              · (intro w hSw; (try dsimp only at hSw); (first | (go_simp; done) | (go_simp; with_reducible rfl)))
              try simp only [Act.put, List.getElem_toArray, List.getElem_cons_zero, List.getElem_cons_succ, List.setIfInBounds_toArray, List.set_cons_zero, List.set_cons_succ]
              refine wpAnyH_done (by kernel_rfl) ?_ _
              refine NoPanic.normal ?_
              have r0 := HZf.out.c 0
              have r1 := HZf.out.c 1
              clear hHeld b0 b1 d0 d1 c0 c1
              go_wp2_with fail
              refine bodyPost_ret (v := .tuple #[.agg #[.int .i64 2, .int .i64 v], .bool true]) (by simp [results, Tryd.results19, go_sem, r0, r1]) rfl ⟨by rw [HC.out, HB2.out], ?_⟩
              exact (HBW.out.trans (HBb.out.mono HBW.out.size)).trans (HOt.out.below (by have := HBW.out.size; have := HBb.out.size; omega) (Nat.le_refl _))
            · refine wp_region_noPanic ?_
              refine wp_region_held_drew (S := fun w' => w'.cell? ⟨w.heap.size + 1, 0, none⟩ = some (.int .i64 2) ∧ w'.cell? ⟨w.heap.size + 1, 1, none⟩ = some (.int .i64 v)) (by kernel_rfl) ⟨c0, c1⟩ (fun hHeld => ?_)
              refine wpAnyH_take (i := 0) (oi := _) (v := ?_) rfl (by kernel_rfl) (by kernel_rfl) (by kernel_rfl) (fun _ _ _ h => h) (Or.inl ⟨by rfl, ?_⟩) (by assumption) ?_
              rotate_left 1
              · (intro w hSw; (try dsimp only at hSw); (first | (go_simp; done) | (go_simp; with_reducible rfl)))
              try simp only [Act.put, List.getElem_toArray, List.getElem_cons_zero, List.getElem_cons_succ, List.setIfInBounds_toArray, List.set_cons_zero, List.set_cons_succ]
              refine wpAnyH_take (i := 1) (oi := _) (v := ?_) rfl (by kernel_rfl) (by kernel_rfl) (by kernel_rfl) (fun _ _ _ h => h) (Or.inl ⟨by rfl, ?_⟩) (by assumption) ?_
              rotate_left 1
              · (intro w hSw; (try dsimp only at hSw); (first | (go_simp; done) | (go_simp; with_reducible rfl)))
              try simp only [Act.put, List.getElem_toArray, List.getElem_cons_zero, List.getElem_cons_succ, List.setIfInBounds_toArray, List.set_cons_zero, List.set_cons_succ]
              refine wpAnyH_ready (rs := [2]) (by kernel_rfl) (by simp) ?_
              refine AllReadyH.cons (o := _) rfl (fun K hK => ?_) AllReadyH.nil
              go_simp
              (with_reducible refine Calls.mono HGC.out ?_)
              rintro r wa ⟨rfl, hba⟩
              have HBa := hide (HWd.out.trans (hba.mono HWd.out.size))
              have a0 := (HBa.out.cell (p := ⟨w.heap.size + 1, 0, none⟩) hcl).trans c0
              have a1 := (HBa.out.cell (p := ⟨w.heap.size + 1, 1, none⟩) hcl).trans c1
              clear hba HGC
              (try go_wp2_with fail)
              refine hK.out _ _ ⟨a0, a1⟩ (fun hHeld => ?_)
              clear hK K
              try simp only [Act.put, List.getElem_toArray, List.getElem_cons_zero, List.getElem_cons_succ, List.setIfInBounds_toArray, List.set_cons_zero, List.set_cons_succ]
              refine wpAnyH_take (i := 3) (oi := _) (v := ?_) rfl (by kernel_rfl) (by kernel_rfl) (by kernel_rfl) (fun _ _ _ h => h) (Or.inl ⟨by rfl, ?_⟩) (by assumption) ?_
              rotate_left 1
              · (intro w hSw; (try dsimp only at hSw); (first | (go_simp; done) | (go_simp; with_reducible rfl)))
              try simp only [Act.put, List.getElem_toArray, List.getElem_cons_zero, List.getElem_cons_succ, List.setIfInBounds_toArray, List.set_cons_zero, List.set_cons_succ]
              refine wpAnyH_take (i := 4) (oi := _) (v := ?_) rfl (by kernel_rfl) (by kernel_rfl) (by kernel_rfl) (fun _ _ _ h => h) (Or.inl ⟨by rfl, ?_⟩) (by assumption) ?_
              rotate_left 1
              · (intro w hSw; (try dsimp only at hSw); (first | (go_simp; done) | (go_simp; with_reducible rfl)))
              try simp only [Act.put, List.getElem_toArray, List.getElem_cons_zero, List.getElem_cons_succ, List.setIfInBounds_toArray, List.set_cons_zero, List.set_cons_succ]
              refine wpAnyH_take (i := 6) (oi := _) (v := ?_) rfl (by kernel_rfl) (by kernel_rfl) (by kernel_rfl) (fun _ _ _ h => h) (Or.inl ⟨by rfl, ?_⟩) (by assumption) ?_
              rotate_left 1
              · (intro w hSw; (try dsimp only at hSw); (first | (go_simp; done) | (go_simp; with_reducible rfl)))
              try simp only [Act.put, List.getElem_toArray, List.getElem_cons_zero, List.getElem_cons_succ, List.setIfInBounds_toArray, List.set_cons_zero, List.set_cons_succ]
              refine wpAnyH_ready (rs := [5]) (by kernel_rfl) (by simp) ?_
              refine AllReadyH.cons (o := _) rfl (fun K hK => ?_) AllReadyH.nil
              go_simp
              (with_reducible refine Calls.mono (HTx.out _ HBa.out) ?_)
              rintro r wb ⟨rfl, hbb⟩
              have HBb := hide (HBa.out.trans (hbb.mono HBa.out.size))
              have b0 := (HBb.out.cell (p := ⟨w.heap.size + 1, 0, none⟩) hcl).trans c0
              have b1 := (HBb.out.cell (p := ⟨w.heap.size + 1, 1, none⟩) hcl).trans c1
              have HZ := hide (HXr.out.below HBb.out hrl)
              clear hbb HTx a0 a1
              (try go_wp2_with fail)
              refine hK.out _ _ ⟨b0, b1⟩ (fun hHeld => ?_)
              clear hK K
              try simp only [Act.put, List.getElem_toArray, List.getElem_cons_zero, List.getElem_cons_succ, List.setIfInBounds_toArray, List.set_cons_zero, List.set_cons_succ]
              refine wpAnyH_take (i := 7) (oi := _) (v := ?_) rfl (by kernel_rfl) (by kernel_rfl) (by kernel_rfl) (fun _ _ _ h => h) (Or.inl ⟨by rfl, ?_⟩) (by assumption) ?_
              rotate_left 1
              · (intro w hSw; (try dsimp only at hSw); (first | (go_simp; done) | (go_simp; with_reducible rfl)))
              try simp only [Act.put, List.getElem_toArray, List.getElem_cons_zero, List.getElem_cons_succ, List.setIfInBounds_toArray, List.set_cons_zero, List.set_cons_succ]
              refine wpAnyH_take (i := 8) (oi := _) (v := ?_) rfl (by kernel_rfl) (by kernel_rfl) (by kernel_rfl) (fun _ _ _ h => h) (Or.inl ⟨by rfl, ?_⟩) (by assumption) ?_
              rotate_left 1
              · (intro w hSw; (try dsimp only at hSw); (first | (go_simp; done) | (go_simp; with_reducible rfl)))
              try simp only [Act.put, List.getElem_toArray, List.getElem_cons_zero, List.getElem_cons_succ, List.setIfInBounds_toArray, List.set_cons_zero, List.set_cons_succ]
              have cl := HZ.out.c
              have fl := HZ.out.f
              refine wpAnyH_ready (rs := [9]) (by kernel_rfl) (by simp) ?_
              refine AllReadyH.cons (o := _) rfl (fun K hK => ?_) AllReadyH.nil
              have hzf := (HZ.out.set 0 (.int .i64 2)).set 1 (.int .i64 v)
              simp only [List.setIfInBounds_toArray, List.set_cons_zero, List.set_cons_succ] at hzf
              have HZf := hide hzf
              have HOt := hide (((Oth.refl (w.heap.size) wb).setCell 0 (.int .i64 2)).setCell 1 (.int .i64 v))
              have d0 := (HOt.out.cell' (a := ⟨w.heap.size + 1, 0, none⟩) (Nat.lt_of_lt_of_le hcl HBb.out.size) (by simp)).trans b0
              have d1 := (HOt.out.cell' (a := ⟨w.heap.size + 1, 1, none⟩) (Nat.lt_of_lt_of_le hcl HBb.out.size) (by simp)).trans b1
              clear hzf
              go_simp
              (try go_wp2_with fail)
              refine hK.out _ _ ⟨d0, d1⟩ (fun hHeld => ?_)
              clear hK K
              try simp only [Act.put, List.getElem_toArray, List.getElem_cons_zero, List.getElem_cons_succ, List.setIfInBounds_toArray, List.set_cons_zero, List.set_cons_succ]
              clear cl fl
              refine wpAnyH_take (i := 10) (oi := _) (v := ?_) rfl (by kernel_rfl) (by kernel_rfl) (by kernel_rfl) (fun _ _ _ h => h) (Or.inl ⟨by rfl, ?_⟩) (by assumption) ?_
              rotate_left 1
              · (intro w hSw; (try dsimp only at hSw); (first | (go_simp; done) | (go_simp; with_reducible rfl)))
              try simp only [Act.put, List.getElem_toArray, List.getElem_cons_zero, List.getElem_cons_succ, List.setIfInBounds_toArray, List.set_cons_zero, List.set_cons_succ]
              refine wpAnyH_done (by kernel_rfl) ?_ _
              refine NoPanic.normal ?_
              have r0 := HZf.out.c 0
              have r1 := HZf.out.c 1
              clear hHeld b0 b1 d0 d1 c0 c1
              go_wp2_with fail
              refine bodyPost_ret (v := .tuple #[.agg #[.int .i64 2, .int .i64 v], .bool false]) (by simp [results, Tryd.results19, go_sem, r0, r1]) rfl ⟨by rw [HC.out, HB2.out], ?_⟩
              exact (HBW.out.trans (HBb.out.mono HBW.out.size)).trans (HOt.out.below (by have := HBW.out.size; have := HBb.out.size; omega) (Nat.le_refl _))
          · rw [Bool.not_eq_true] at hg
            have HB2 : Hid (B = false) := hide (by rw [HB.out, HC.out, hg]; rfl)
            rw [hg] at HGC
            clear hg
            refine wp_region_noPanic ?_
            refine wp_region_held_drew (S := fun w' => w'.cell? ⟨w.heap.size + 1, 0, none⟩ = some (.int .i64 2) ∧ w'.cell? ⟨w.heap.size + 1, 1, none⟩ = some (.int .i64 v)) (by kernel_rfl) ⟨c0, c1⟩ (fun hHeld => ?_)
            refine wpAnyH_take (i := 0) (oi := _) (v := ?_) rfl (by kernel_rfl) (by kernel_rfl) (by kernel_rfl) (fun _ _ _ h => h) (Or.inl ⟨by rfl, ?_⟩) (by assumption) ?_
            rotate_left 1
            · (intro w hSw; (try dsimp only at hSw); (first | (go_simp; done) | (go_simp; with_reducible rfl)))
            try simp only [Act.put, List.getElem_toArray, List.getElem_cons_zero, List.getElem_cons_succ, List.setIfInBounds_toArray, List.set_cons_zero, List.set_cons_succ]
            refine wpAnyH_take (i := 1) (oi := _) (v := ?_) rfl (by kernel_rfl) (by kernel_rfl) (by kernel_rfl) (fun _ _ _ h => h) (Or.inl ⟨by rfl, ?_⟩) (by assumption) ?_
            rotate_left 1
            · (intro w hSw; (try dsimp only at hSw); (first | (go_simp; done) | (go_simp; with_reducible rfl)))
            try simp only [Act.put, List.getElem_toArray, List.getElem_cons_zero, List.getElem_cons_succ, List.setIfInBounds_toArray, List.set_cons_zero, List.set_cons_succ]
            refine wpAnyH_ready (rs := [2]) (by kernel_rfl) (by simp) ?_
            refine AllReadyH.cons (o := _) rfl (fun K hK => ?_) AllReadyH.nil
            go_simp
            (with_reducible refine Calls.mono HGC.out ?_)
            rintro r wa ⟨rfl, hba⟩
            have HBa := hide (HWd.out.trans (hba.mono HWd.out.size))
            have b0 := (HBa.out.cell (p := ⟨w.heap.size + 1, 0, none⟩) hcl).trans c0
            have b1 := (HBa.out.cell (p := ⟨w.heap.size + 1, 1, none⟩) hcl).trans c1
            have HZ := hide (HXr.out.below HBa.out hrl)
            clear hba HGC
            (try go_wp2_with fail)
            refine hK.out _ _ ⟨b0, b1⟩ (fun hHeld => ?_)
            clear hK K
            try simp only [Act.put, List.getElem_toArray, List.getElem_cons_zero, List.getElem_cons_succ, List.setIfInBounds_toArray, List.set_cons_zero, List.set_cons_succ]
            refine wpAnyH_take (i := 3) (oi := _) (v := ?_) rfl (by kernel_rfl) (by kernel_rfl) (by kernel_rfl) (fun _ _ _ h => h) (Or.inl ⟨by rfl, ?_⟩) (by assumption) ?_
            rotate_left 1
            · (intro w hSw; (try dsimp only at hSw); (first | (go_simp; done) | (go_simp; with_reducible rfl)))
            try simp only [Act.put, List.getElem_toArray, List.getElem_cons_zero, List.getElem_cons_succ, List.setIfInBounds_toArray, List.set_cons_zero, List.set_cons_succ]
            refine wpAnyH_take (i := 4) (oi := _) (v := undef) rfl (by kernel_rfl) (by kernel_rfl) (by kernel_rfl) (fun _ _ _ h => h) (Or.inr ⟨by rfl, rfl⟩) (by assumption) ?_
            try simp only [Act.put, List.getElem_toArray, List.getElem_cons_zero, List.getElem_cons_succ, List.setIfInBounds_toArray, List.set_cons_zero, List.set_cons_succ]
            refine wpAnyH_take (i := 5) (oi := _) (v := undef) rfl (by kernel_rfl) (by kernel_rfl) (by kernel_rfl) (fun _ _ _ h => h) (Or.inr ⟨by rfl, rfl⟩) (by assumption) ?_
            try simp only [Act.put, List.getElem_toArray, List.getElem_cons_zero, List.getElem_cons_succ, List.setIfInBounds_toArray, List.set_cons_zero, List.set_cons_succ]
            refine wpAnyH_take (i := 6) (oi := _) (v := undef) rfl (by kernel_rfl) (by kernel_rfl) (by kernel_rfl) (fun _ _ _ h => h) (Or.inr ⟨by rfl, rfl⟩) (by assumption) ?_
            try simp only [Act.put, List.getElem_toArray, List.getElem_cons_zero, List.getElem_cons_succ, List.setIfInBounds_toArray, List.set_cons_zero, List.set_cons_succ]
            refine wpAnyH_take (i := 7) (oi := _) (v := undef) rfl (by kernel_rfl) (by kernel_rfl) (by kernel_rfl) (fun _ _ _ h => h) (Or.inr ⟨by rfl, rfl⟩) (by assumption) ?_
            try simp only [Act.put, List.getElem_toArray, List.getElem_cons_zero, List.getElem_cons_succ, List.setIfInBounds_toArray, List.set_cons_zero, List.set_cons_succ]
            refine wpAnyH_take (i := 8) (oi := _) (v := ?_) rfl (by kernel_rfl) (by kernel_rfl) (by kernel_rfl) (fun _ _ _ h => h) (Or.inl ⟨by rfl, ?_⟩) (by assumption) ?_
            rotate_left 1
            · (intro w hSw; (try dsimp only at hSw); (first | (go_simp; done) | (go_simp; with_reducible rfl)))
            try simp only [Act.put, List.getElem_toArray, List.getElem_cons_zero, List.getElem_cons_succ, List.setIfInBounds_toArray, List.set_cons_zero, List.set_cons_succ]
            have cl := HZ.out.c
            have fl := HZ.out.f
            refine wpAnyH_ready (rs := [9]) (by kernel_rfl) (by simp) ?_
            refine AllReadyH.cons (o := _) rfl (fun K hK => ?_) AllReadyH.nil
            have hzf := (HZ.out.set 0 (.int .i64 2)).set 1 (.int .i64 v)
            simp only [List.setIfInBounds_toArray, List.set_cons_zero, List.set_cons_succ] at hzf
            have HZf := hide hzf
            have HOt := hide (((Oth.refl (w.heap.size) wa).setCell 0 (.int .i64 2)).setCell 1 (.int .i64 v))
            have d0 := (HOt.out.cell' (a := ⟨w.heap.size + 1, 0, none⟩) (Nat.lt_of_lt_of_le hcl HBa.out.size) (by simp)).trans b0
            have d1 := (HOt.out.cell' (a := ⟨w.heap.size + 1, 1, none⟩) (Nat.lt_of_lt_of_le hcl HBa.out.size) (by simp)).trans b1
            clear hzf
            go_simp
            (try go_wp2_with fail)
            refine hK.out _ _ ⟨d0, d1⟩ (fun hHeld => ?_)
            clear hK K
            try simp only [Act.put, List.getElem_toArray, List.getElem_cons_zero, List.getElem_cons_succ, List.setIfInBounds_toArray, List.set_cons_zero, List.set_cons_succ]
            clear cl fl
            refine wpAnyH_take (i := 10) (oi := _) (v := ?_) rfl (by kernel_rfl) (by kernel_rfl) (by kernel_rfl) (fun _ _ _ h => h) (Or.inl ⟨by rfl, ?_⟩) (by assumption) ?_
            rotate_left 1
            · (intro w hSw; (try dsimp only at hSw); (first | (go_simp; done) | (go_simp; with_reducible rfl)))
            try simp only [Act.put, List.getElem_toArray, List.getElem_cons_zero, List.getElem_cons_succ, List.setIfInBounds_toArray, List.set_cons_zero, List.set_cons_succ]
            refine wpAnyH_done (by kernel_rfl) ?_ _
            refine NoPanic.normal ?_
            have r0 := HZf.out.c 0
            have r1 := HZf.out.c 1
            clear hHeld b0 b1 d0 d1 c0 c1
            go_wp2_with fail
            refine bodyPost_ret (v := .tuple #[.agg #[.int .i64 2, .int .i64 v], .bool false]) (by simp [results, Tryd.results19, go_sem, r0, r1]) rfl ⟨by rw [HC.out, HB2.out], ?_⟩
            exact (HBW.out.trans (HBa.out.mono HBW.out.size)).trans (HOt.out.below (by have := HBW.out.size; have := HBa.out.size; omega) (Nat.le_refl _))
        · go_enter Tryd.func19, Tryd.ntmps19
          go_upto_region 11 with (first | (go_at_call 33; (with_reducible refine Calls.mono (HCut.out _) ?_); rintro e w3 ⟨rfl, hw⟩; obtain rfl := hw.symm; clear hw) | (go_at_call 34; (with_reducible refine Calls.mono (HIdx.out _ HV0.out) ?_); rintro e w3 ⟨rfl, hw⟩; obtain rfl := hw.symm; clear hw) | (go_at_call 35; (with_reducible refine Calls.mono HAt.out ?_); rintro e W1 ⟨rfl, hb⟩; have HBW1 := hide (HB0.out.trans (hb.mono HB0.out.size)); have HX1 := hide (HX0.out.below hb HX0.out.lt); have HR1 := hide (HR0.out.below hb HR0.out.lt); have cX := HX1.out.c; have fX := HX1.out.f; clear hb HB0 HX0 HR0))
          obtain ⟨W, hW⟩ : ∃ W, W = (W1.setCell ⟨w.heap.size + 1, 0, none⟩ (.int .i64 2)).setCell ⟨w.heap.size + 1, 1, none⟩ (.int .i64 v) := ⟨_, rfl⟩
          rw [← hW]
          have HOw : Hid (Oth (w.heap.size + 1) W1 W) := hide (by rw [hW]; exact ((Oth.refl (w.heap.size + 1) W1).setCell 0 _).setCell 1 _)
          have HBW : Hid (Below w.heap.size w W) := hide (HBW1.out.trans (HOw.out.below HBW1.out.size (by omega)))
          have HXc : Hid (Bx W (w.heap.size + 1) #[.int .i64 2, .int .i64 v] 37) := hide (by
            have hzf := (HX1.out.set 0 (.int .i64 2)).set 1 (.int .i64 v)
            simp only [List.setIfInBounds_toArray, List.set_cons_zero, List.set_cons_succ] at hzf
            rw [hW]; exact hzf)
          have HXr : Hid (Bx W (w.heap.size) #[.int .i64 0, .int .i64 0] 37) := hide ((HOw.out.block _ HR1.out.lt (by omega)).trans HR1.out)
          have HVw := hide (HVR.out.below HBW.out)
          clear hW cX fX HX1 HR1 HOw HBW1 HCut HIdx HPr hA HAt
          have c0 : W.cell? ⟨w.heap.size + 1, 0, none⟩ = some (.int .i64 2) := HXc.out.c 0
          have c1 : W.cell? ⟨w.heap.size + 1, 1, none⟩ = some (.int .i64 v) := HXc.out.c 1
          have HWd : Hid (Below W.heap.size W W.drew) := hide (belowDrewR (Below.refl _ _))
          have hcl : w.heap.size + 1 < W.heap.size := HXc.out.lt
          have hrl : w.heap.size < W.heap.size := HXr.out.lt
          have HGC := hide (goodCell_any ⟨2, v⟩ W.drew)
          by_cases hg : goodC ⟨2, v⟩ = true
          · have HGd := hide hg
            have HTx := hide (fun (w' : World) (hb : Below W.heap.size W w') => cellText_any ⟨2, v⟩ w' HGd.out ((HVw.out.below hb).tab))
            rw [hg] at HGC
            clear hg
            obtain ⟨he, HB2⟩ | ⟨he, HB2⟩ : ((((wd ⟨2, v⟩).toList == x.toList) = true) ∧ Hid (B = true)) ∨ ((((wd ⟨2, v⟩).toList == x.toList) = false) ∧ Hid (B = false)) := by
              rw [Lib.toList_data, Lib.toList_data, ← HLx.out]
              by_cases e : wdL ⟨2, v⟩ = L
              · exact .inl ⟨beq_iff_eq.2 e, hide (by rw [HB.out, HC.out, HGd.out, decide_eq_true e]; rfl)⟩
              · exact .inr ⟨beq_eq_false_iff_ne.2 e, hide (by rw [HB.out, HC.out, HGd.out, decide_eq_false e]; rfl)⟩
            · refine wp_region_noPanic ?_
              refine wp_region_held_drew (S := fun w' => w'.cell? ⟨w.heap.size + 1, 0, none⟩ = some (.int .i64 2) ∧ w'.cell? ⟨w.heap.size + 1, 1, none⟩ = some (.int .i64 v)) (by kernel_rfl) ⟨c0, c1⟩ (fun hHeld => ?_)
              refine wpAnyH_take (i := 0) (oi := _) (v := ?_) rfl (by kernel_rfl) (by kernel_rfl) (by kernel_rfl) (fun _ _ _ h => h) (Or.inl ⟨by rfl, ?_⟩) (by assumption) ?_
              rotate_left 1
              · (intro w hSw; (try dsimp only at hSw); (first | (go_simp; done) | (go_simp; with_reducible rfl)))
              try simp only [Act.put, List.getElem_toArray, List.getElem_cons_zero, List.getElem_cons_succ, List.setIfInBounds_toArray, List.set_cons_zero, List.set_cons_succ]
              refine wpAnyH_take (i := 1) (oi := _) (v := ?_) rfl (by kernel_rfl) (by kernel_rfl) (by kernel_rfl) (fun _ _ _ h => h) (Or.inl ⟨by rfl, ?_⟩) (by assumption) ?_
              rotate_left 1
              · (intro w hSw; (try dsimp only at hSw); (first | (go_simp; done) | (go_simp; with_reducible rfl)))
              try simp only [Act.put, List.getElem_toArray, List.getElem_cons_zero, List.getElem_cons_succ, List.setIfInBounds_toArray, List.set_cons_zero, List.set_cons_succ]
              refine wpAnyH_ready (rs := [2]) (by kernel_rfl) (by simp) ?_
              refine AllReadyH.cons (o := _) rfl (fun K hK => ?_) AllReadyH.nil
              go_simp
              (with_reducible refine Calls.mono HGC.out ?_)
              rintro r wa ⟨rfl, hba⟩
              have HBa := hide (HWd.out.trans (hba.mono HWd.out.size))
              have a0 := (HBa.out.cell (p := ⟨w.heap.size + 1, 0, none⟩) hcl).trans c0
              have a1 := (HBa.out.cell (p := ⟨w.heap.size + 1, 1, none⟩) hcl).trans c1
              clear hba HGC
              (try go_wp2_with fail)
              refine hK.out _ _ ⟨a0, a1⟩ (fun hHeld => ?_)
              clear hK K
              try simp only [Act.put, List.getElem_toArray, List.getElem_cons_zero, List.getElem_cons_succ, List.setIfInBounds_toArray, List.set_cons_zero, List.set_cons_succ]
              refine wpAnyH_take (i := 3) (oi := _) (v := ?_) rfl (by kernel_rfl) (by kernel_rfl) (by kernel_rfl) (fun _ _ _ h => h) (Or.inl ⟨by rfl, ?_⟩) (by assumption) ?_
              rotate_left 1
              · (intro w hSw; (try dsimp only at hSw); (first | (go_simp; done) | (go_simp; with_reducible rfl)))
              try simp only [Act.put, List.getElem_toArray, List.getElem_cons_zero, List.getElem_cons_succ, List.setIfInBounds_toArray, List.set_cons_zero, List.set_cons_succ]
              refine wpAnyH_take (i := 4) (oi := _) (v := ?_) rfl (by kernel_rfl) (by kernel_rfl) (by kernel_rfl) (fun _ _ _ h => h) (Or.inl ⟨by rfl, ?_⟩) (by assumption) ?_
              rotate_left 1
              · (intro w hSw; (try dsimp only at hSw); (first | (go_simp; done) | (go_simp; with_reducible rfl)))
              try simp only [Act.put, List.getElem_toArray, List.getElem_cons_zero, List.getElem_cons_succ, List.setIfInBounds_toArray, List.set_cons_zero, List.set_cons_succ]
              refine wpAnyH_take (i := 6) (oi := _) (v := ?_) rfl (by kernel_rfl) (by kernel_rfl) (by kernel_rfl) (fun _ _ _ h => h) (Or.inl ⟨by rfl, ?_⟩) (by assumption) ?_
              rotate_left 1
              · (intro w hSw; (try dsimp only at hSw); (first | (go_simp; done) | (go_simp; with_reducible rfl)))
              try simp only [Act.put, List.getElem_toArray, List.getElem_cons_zero, List.getElem_cons_succ, List.setIfInBounds_toArray, List.set_cons_zero, List.set_cons_succ]
              refine wpAnyH_ready (rs := [5]) (by kernel_rfl) (by simp) ?_
              refine AllReadyH.cons (o := _) rfl (fun K hK => ?_) AllReadyH.nil
              go_simp
              (with_reducible refine Calls.mono (HTx.out _ HBa.out) ?_)
              rintro r wb ⟨rfl, hbb⟩
              have HBb := hide (HBa.out.trans (hbb.mono HBa.out.size))
              have b0 := (HBb.out.cell (p := ⟨w.heap.size + 1, 0, none⟩) hcl).trans c0
              have b1 := (HBb.out.cell (p := ⟨w.heap.size + 1, 1, none⟩) hcl).trans c1
              have HZ := hide (HXr.out.below HBb.out hrl)
              clear hbb HTx a0 a1
              (try go_wp2_with fail)
              refine hK.out _ _ ⟨b0, b1⟩ (fun hHeld => ?_)
              clear hK K
              try simp only [Act.put, List.getElem_toArray, List.getElem_cons_zero, List.getElem_cons_succ, List.setIfInBounds_toArray, List.set_cons_zero, List.set_cons_succ]
              refine wpAnyH_take (i := 7) (oi := _) (v := ?_) rfl (by kernel_rfl) (by kernel_rfl) (by kernel_rfl) (fun _ _ _ h => h) (Or.inl ⟨by rfl, ?_⟩) (by assumption) ?_
              rotate_left 1
              · (intro w hSw; (try dsimp only at hSw); (first | (go_simp; done) | (go_simp; with_reducible rfl)))
              try simp only [Act.put, List.getElem_toArray, List.getElem_cons_zero, List.getElem_cons_succ, List.setIfInBounds_toArray, List.set_cons_zero, List.set_cons_succ]
              refine wpAnyH_take (i := 8) (oi := _) (v := ?_) rfl (by kernel_rfl) (by kernel_rfl) (by kernel_rfl) (fun _ _ _ h => h) (Or.inl ⟨by rfl, ?_⟩) (by assumption) ?_
              rotate_left 1
              · (intro w hSw; (try dsimp only at hSw); (first | (go_simp; done) | (go_simp; with_reducible rfl)))
              try simp only [Act.put, List.getElem_toArray, List.getElem_cons_zero, List.getElem_cons_succ, List.setIfInBounds_toArray, List.set_cons_zero, List.set_cons_succ]
              have cl := HZ.out.c
              have fl := HZ.out.f
              refine wpAnyH_ready (rs := [9]) (by kernel_rfl) (by simp) ?_
              refine AllReadyH.cons (o := _) rfl (fun K hK => ?_) AllReadyH.nil
              have hzf := (HZ.out.set 0 (.int .i64 2)).set 1 (.int .i64 v)
              simp only [List.setIfInBounds_toArray, List.set_cons_zero, List.set_cons_succ] at hzf
              have HZf := hide hzf
              have HOt := hide (((Oth.refl (w.heap.size) wb).setCell 0 (.int .i64 2)).setCell 1 (.int .i64 v))
              have d0 := (HOt.out.cell' (a := ⟨w.heap.size + 1, 0, none⟩) (Nat.lt_of_lt_of_le hcl HBb.out.size) (by simp)).trans b0
              have d1 := (HOt.out.cell' (a := ⟨w.heap.size + 1, 1, none⟩) (Nat.lt_of_lt_of_le hcl HBb.out.size) (by simp)).trans b1
              clear hzf
              go_simp
              (try go_wp2_with fail)
              refine hK.out _ _ ⟨d0, d1⟩ (fun hHeld => ?_)
              clear hK K
              try simp only [Act.put, List.getElem_toArray, List.getElem_cons_zero, List.getElem_cons_succ, List.setIfInBounds_toArray, List.set_cons_zero, List.set_cons_succ]
              clear cl fl
              refine wpAnyH_take (i := 10) (oi := _) (v := ?_) rfl (by kernel_rfl) (by kernel_rfl) (by kernel_rfl) (fun _ _ _ h => h) (Or.inl ⟨by rfl, ?_⟩) (by assumption) ?_
              rotate_left 1
              · (intro w hSw; (try dsimp only at hSw); (first | (go_simp; done) | (go_simp; with_reducible rfl)))
              try simp only [Act.put, List.getElem_toArray, List.getElem_cons_zero, List.getElem_cons_succ, List.setIfInBounds_toArray, List.set_cons_zero, List.set_cons_succ]
              refine wpAnyH_done (by kernel_rfl) ?_ _
              refine NoPanic.normal ?_
              have r0 := HZf.out.c 0
              have r1 := HZf.out.c 1
              clear hHeld b0 b1 d0 d1 c0 c1
              go_wp2_with fail
              refine bodyPost_ret (v := .tuple #[.agg #[.int .i64 2, .int .i64 v], .bool true]) (by simp [results, Tryd.results19, go_sem, r0, r1]) rfl ⟨by rw [HC.out, HB2.out], ?_⟩
              exact (HBW.out.trans (HBb.out.mono HBW.out.size)).trans (HOt.out.below (by have := HBW.out.size; have := HBb.out.size; omega) (Nat.le_refl _))
            · refine wp_region_noPanic ?_
              refine wp_region_held_drew (S := fun w' => w'.cell? ⟨w.heap.size + 1, 0, none⟩ = some (.int .i64 2) ∧ w'.cell? ⟨w.heap.size + 1, 1, none⟩ = some (.int .i64 v)) (by kernel_rfl) ⟨c0, c1⟩ (fun hHeld => ?_)
              refine wpAnyH_take (i := 0) (oi := _) (v := ?_) rfl (by kernel_rfl) (by kernel_rfl) (by kernel_rfl) (fun _ _ _ h => h) (Or.inl ⟨by rfl, ?_⟩) (by assumption) ?_
              rotate_left 1
              · (intro w hSw; (try dsimp only at hSw); (first | (go_simp; done) | (go_simp; with_reducible rfl)))
              try simp only [Act.put, List.getElem_toArray, List.getElem_cons_zero, List.getElem_cons_succ, List.setIfInBounds_toArray, List.set_cons_zero, List.set_cons_succ]
              refine wpAnyH_take (i := 1) (oi := _) (v := ?_) rfl (by kernel_rfl) (by kernel_rfl) (by kernel_rfl) (fun _ _ _ h => h) (Or.inl ⟨by rfl, ?_⟩) (by assumption) ?_
              rotate_left 1
              · (intro w hSw; (try dsimp only at hSw); (first | (go_simp; done) | (go_simp; with_reducible rfl)))
              try simp only [Act.put, List.getElem_toArray, List.getElem_cons_zero, List.getElem_cons_succ, List.setIfInBounds_toArray, List.set_cons_zero, List.set_cons_succ]
              refine wpAnyH_ready (rs := [2]) (by kernel_rfl) (by simp) ?_
              refine AllReadyH.cons (o := _) rfl (fun K hK => ?_) AllReadyH.nil
              go_simp
              (with_reducible refine Calls.mono HGC.out ?_)
              rintro r wa ⟨rfl, hba⟩
              have HBa := hide (HWd.out.trans (hba.mono HWd.out.size))
              have a0 := (HBa.out.cell (p := ⟨w.heap.size + 1, 0, none⟩) hcl).trans c0
              have a1 := (HBa.out.cell (p := ⟨w.heap.size + 1, 1, none⟩) hcl).trans c1
              clear hba HGC
              (try go_wp2_with fail)
              refine hK.out _ _ ⟨a0, a1⟩ (fun hHeld => ?_)
              clear hK K
              try simp only [Act.put, List.getElem_toArray, List.getElem_cons_zero, List.getElem_cons_succ, List.setIfInBounds_toArray, List.set_cons_zero, List.set_cons_succ]
              refine wpAnyH_take (i := 3) (oi := _) (v := ?_) rfl (by kernel_rfl) (by kernel_rfl) (by kernel_rfl) (fun _ _ _ h => h) (Or.inl ⟨by rfl, ?_⟩) (by assumption) ?_
              rotate_left 1
              · (intro w hSw; (try dsimp only at hSw); (first | (go_simp; done) | (go_simp; with_reducible rfl)))
              try simp only [Act.put, List.getElem_toArray, List.getElem_cons_zero, List.getElem_cons_succ, List.setIfInBounds_toArray, List.set_cons_zero, List.set_cons_succ]
              refine wpAnyH_take (i := 4) (oi := _) (v := ?_) rfl (by kernel_rfl) (by kernel_rfl) (by kernel_rfl) (fun _ _ _ h => h) (Or.inl ⟨by rfl, ?_⟩) (by assumption) ?_
              rotate_left 1
              · (intro w hSw; (try dsimp only at hSw); (first | (go_simp; done) | (go_simp; with_reducible rfl)))
              try simp only [Act.put, List.getElem_toArray, List.getElem_cons_zero, List.getElem_cons_succ, List.setIfInBounds_toArray, List.set_cons_zero, List.set_cons_succ]
              refine wpAnyH_take (i := 6) (oi := _) (v := ?_) rfl (by kernel_rfl) (by kernel_rfl) (by kernel_rfl) (fun _ _ _ h => h) (Or.inl ⟨by rfl, ?_⟩) (by assumption) ?_
              rotate_left 1
              · (intro w hSw; (try dsimp only at hSw); (first | (go_simp; done) | (go_simp; with_reducible rfl)))
              try simp only [Act.put, List.getElem_toArray, List.getElem_cons_zero, List.getElem_cons_succ, List.setIfInBounds_toArray, List.set_cons_zero, List.set_cons_succ]
              refine wpAnyH_ready (rs := [5]) (by kernel_rfl) (by simp) ?_
              refine AllReadyH.cons (o := _) rfl (fun K hK => ?_) AllReadyH.nil
              go_simp
              (with_reducible refine Calls.mono (HTx.out _ HBa.out) ?_)
              rintro r wb ⟨rfl, hbb⟩
              have HBb := hide (HBa.out.trans (hbb.mono HBa.out.size))
              have b0 := (HBb.out.cell (p := ⟨w.heap.size + 1, 0, none⟩) hcl).trans c0
              have b1 := (HBb.out.cell (p := ⟨w.heap.size + 1, 1, none⟩) hcl).trans c1
              have HZ := hide (HXr.out.below HBb.out hrl)
              clear hbb HTx a0 a1
              (try go_wp2_with fail)
              refine hK.out _ _ ⟨b0, b1⟩ (fun hHeld => ?_)
              clear hK K
              try simp only [Act.put, List.getElem_toArray, List.getElem_cons_zero, List.getElem_cons_succ, List.setIfInBounds_toArray, List.set_cons_zero, List.set_cons_succ]
              refine wpAnyH_take (i := 7) (oi := _) (v := ?_) rfl (by kernel_rfl) (by kernel_rfl) (by kernel_rfl) (fun _ _ _ h => h) (Or.inl ⟨by rfl, ?_⟩) (by assumption) ?_
              rotate_left 1
              · (intro w hSw; (try dsimp only at hSw); (first | (go_simp; done) | (go_simp; with_reducible rfl)))
              try simp only [Act.put, List.getElem_toArray, List.getElem_cons_zero, List.getElem_cons_succ, List.setIfInBounds_toArray, List.set_cons_zero, List.set_cons_succ]
              refine wpAnyH_take (i := 8) (oi := _) (v := ?_) rfl (by kernel_rfl) (by kernel_rfl) (by kernel_rfl) (fun _ _ _ h => h) (Or.inl ⟨by rfl, ?_⟩) (by assumption) ?_
              rotate_left 1
              · (intro w hSw; (try dsimp only at hSw); (first | (go_simp; done) | (go_simp; with_reducible rfl)))
              try simp only [Act.put, List.getElem_toArray, List.getElem_cons_zero, List.getElem_cons_succ, List.setIfInBounds_toArray, List.set_cons_zero, List.set_cons_succ]
              have cl := HZ.out.c
              have fl := HZ.out.f
              refine wpAnyH_ready (rs := [9]) (by kernel_rfl) (by simp) ?_
              refine AllReadyH.cons (o := _) rfl (fun K hK => ?_) AllReadyH.nil
              have hzf := (HZ.out.set 0 (.int .i64 2)).set 1 (.int .i64 v)
              simp only [List.setIfInBounds_toArray, List.set_cons_zero, List.set_cons_succ] at hzf
              have HZf := hide hzf
              have HOt := hide (((Oth.refl (w.heap.size) wb).setCell 0 (.int .i64 2)).setCell 1 (.int .i64 v))
              have d0 := (HOt.out.cell' (a := ⟨w.heap.size + 1, 0, none⟩) (Nat.lt_of_lt_of_le hcl HBb.out.size) (by simp)).trans b0
              have d1 := (HOt.out.cell' (a := ⟨w.heap.size + 1, 1, none⟩) (Nat.lt_of_lt_of_le hcl HBb.out.size) (by simp)).trans b1
              clear hzf
              go_simp
              (try go_wp2_with fail)
              refine hK.out _ _ ⟨d0, d1⟩ (fun hHeld => ?_)
              clear hK K
              try simp only [Act.put, List.getElem_toArray, List.getElem_cons_zero, List.getElem_cons_succ, List.setIfInBounds_toArray, List.set_cons_zero, List.set_cons_succ]
              clear cl fl
              refine wpAnyH_take (i := 10) (oi := _) (v := ?_) rfl (by kernel_rfl) (by kernel_rfl) (by kernel_rfl) (fun _ _ _ h => h) (Or.inl ⟨by rfl, ?_⟩) (by assumption) ?_
              rotate_left 1
              · (intro w hSw; (try dsimp only at hSw); (first | (go_simp; done) | (go_simp; with_reducible rfl)))
              try simp only [Act.put, List.getElem_toArray, List.getElem_cons_zero, List.getElem_cons_succ, List.setIfInBounds_toArray, List.set_cons_zero, List.set_cons_succ]
              refine wpAnyH_done (by kernel_rfl) ?_ _
              refine NoPanic.normal ?_
              have r0 := HZf.out.c 0
              have r1 := HZf.out.c 1
              clear hHeld b0 b1 d0 d1 c0 c1
              go_wp2_with fail
              refine bodyPost_ret (v := .tuple #[.agg #[.int .i64 2, .int .i64 v], .bool false]) (by simp [results, Tryd.results19, go_sem, r0, r1]) rfl ⟨by rw [HC.out, HB2.out], ?_⟩
              exact (HBW.out.trans (HBb.out.mono HBW.out.size)).trans (HOt.out.below (by have := HBW.out.size; have := HBb.out.size; omega) (Nat.le_refl _))
          · rw [Bool.not_eq_true] at hg
            have HB2 : Hid (B = false) := hide (by rw [HB.out, HC.out, hg]; rfl)
            rw [hg] at HGC
            clear hg
            refine wp_region_noPanic ?_
            refine wp_region_held_drew (S := fun w' => w'.cell? ⟨w.heap.size + 1, 0, none⟩ = some (.int .i64 2) ∧ w'.cell? ⟨w.heap.size + 1, 1, none⟩ = some (.int .i64 v)) (by kernel_rfl) ⟨c0, c1⟩ (fun hHeld => ?_)
            refine wpAnyH_take (i := 0) (oi := _) (v := ?_) rfl (by kernel_rfl) (by kernel_rfl) (by kernel_rfl) (fun _ _ _ h => h) (Or.inl ⟨by rfl, ?_⟩) (by assumption) ?_
            rotate_left 1
            · (intro w hSw; (try dsimp only at hSw); (first | (go_simp; done) | (go_simp; with_reducible rfl)))
            try simp only [Act.put, List.getElem_toArray, List.getElem_cons_zero, List.getElem_cons_succ, List.setIfInBounds_toArray, List.set_cons_zero, List.set_cons_succ]
            refine wpAnyH_take (i := 1) (oi := _) (v := ?_) rfl (by kernel_rfl) (by kernel_rfl) (by kernel_rfl) (fun _ _ _ h => h) (Or.inl ⟨by rfl, ?_⟩) (by assumption) ?_
            rotate_left 1
            · (intro w hSw; (try dsimp only at hSw); (first | (go_simp; done) | (go_simp; with_reducible rfl)))
            try simp only [Act.put, List.getElem_toArray, List.getElem_cons_zero, List.getElem_cons_succ, List.setIfInBounds_toArray, List.set_cons_zero, List.set_cons_succ]
            refine wpAnyH_ready (rs := [2]) (by kernel_rfl) (by simp) ?_
            refine AllReadyH.cons (o := _) rfl (fun K hK => ?_) AllReadyH.nil
            go_simp
            (with_reducible refine Calls.mono HGC.out ?_)
            rintro r wa ⟨rfl, hba⟩
            have HBa := hide (HWd.out.trans (hba.mono HWd.out.size))
            have b0 := (HBa.out.cell (p := ⟨w.heap.size + 1, 0, none⟩) hcl).trans c0
            have b1 := (HBa.out.cell (p := ⟨w.heap.size + 1, 1, none⟩) hcl).trans c1
            have HZ := hide (HXr.out.below HBa.out hrl)
            clear hba HGC
            (try go_wp2_with fail)
            refine hK.out _ _ ⟨b0, b1⟩ (fun hHeld => ?_)
            clear hK K
            try simp only [Act.put, List.getElem_toArray, List.getElem_cons_zero, List.getElem_cons_succ, List.setIfInBounds_toArray, List.set_cons_zero, List.set_cons_succ]
            refine wpAnyH_take (i := 3) (oi := _) (v := ?_) rfl (by kernel_rfl) (by kernel_rfl) (by kernel_rfl) (fun _ _ _ h => h) (Or.inl ⟨by rfl, ?_⟩) (by assumption) ?_
            rotate_left 1
            · (intro w hSw; (try dsimp only at hSw); (first | (go_simp; done) | (go_simp; with_reducible rfl)))
            try simp only [Act.put, List.getElem_toArray, List.getElem_cons_zero, List.getElem_cons_succ, List.setIfInBounds_toArray, List.set_cons_zero, List.set_cons_succ]
            refine wpAnyH_take (i := 4) (oi := _) (v := undef) rfl (by kernel_rfl) (by kernel_rfl) (by kernel_rfl) (fun _ _ _ h => h) (Or.inr ⟨by rfl, rfl⟩) (by assumption) ?_
            try simp only [Act.put, List.getElem_toArray, List.getElem_cons_zero, List.getElem_cons_succ, List.setIfInBounds_toArray, List.set_cons_zero, List.set_cons_succ]
            refine wpAnyH_take (i := 5) (oi := _) (v := undef) rfl (by kernel_rfl) (by kernel_rfl) (by kernel_rfl) (fun _ _ _ h => h) (Or.inr ⟨by rfl, rfl⟩) (by assumption) ?_
            try simp only [Act.put, List.getElem_toArray, List.getElem_cons_zero, List.getElem_cons_succ, List.setIfInBounds_toArray, List.set_cons_zero, List.set_cons_succ]
            refine wpAnyH_take (i := 6) (oi := _) (v := undef) rfl (by kernel_rfl) (by kernel_rfl) (by kernel_rfl) (fun _ _ _ h => h) (Or.inr ⟨by rfl, rfl⟩) (by assumption) ?_
            try simp only [Act.put, List.getElem_toArray, List.getElem_cons_zero, List.getElem_cons_succ, List.setIfInBounds_toArray, List.set_cons_zero, List.set_cons_succ]
            refine wpAnyH_take (i := 7) (oi := _) (v := undef) rfl (by kernel_rfl) (by kernel_rfl) (by kernel_rfl) (fun _ _ _ h => h) (Or.inr ⟨by rfl, rfl⟩) (by assumption) ?_
            try simp only [Act.put, List.getElem_toArray, List.getElem_cons_zero, List.getElem_cons_succ, List.setIfInBounds_toArray, List.set_cons_zero, List.set_cons_succ]
            refine wpAnyH_take (i := 8) (oi := _) (v := ?_) rfl (by kernel_rfl) (by kernel_rfl) (by kernel_rfl) (fun _ _ _ h => h) (Or.inl ⟨by rfl, ?_⟩) (by assumption) ?_
            rotate_left 1
            · (intro w hSw; (try dsimp only at hSw); (first | (go_simp; done) | (go_simp; with_reducible rfl)))
            try simp only [Act.put, List.getElem_toArray, List.getElem_cons_zero, List.getElem_cons_succ, List.setIfInBounds_toArray, List.set_cons_zero, List.set_cons_succ]
            have cl := HZ.out.c
            have fl := HZ.out.f
            refine wpAnyH_ready (rs := [9]) (by kernel_rfl) (by simp) ?_
            refine AllReadyH.cons (o := _) rfl (fun K hK => ?_) AllReadyH.nil
            have hzf := (HZ.out.set 0 (.int .i64 2)).set 1 (.int .i64 v)
            simp only [List.setIfInBounds_toArray, List.set_cons_zero, List.set_cons_succ] at hzf
            have HZf := hide hzf
            have HOt := hide (((Oth.refl (w.heap.size) wa).setCell 0 (.int .i64 2)).setCell 1 (.int .i64 v))
            have d0 := (HOt.out.cell' (a := ⟨w.heap.size + 1, 0, none⟩) (Nat.lt_of_lt_of_le hcl HBa.out.size) (by simp)).trans b0
            have d1 := (HOt.out.cell' (a := ⟨w.heap.size + 1, 1, none⟩) (Nat.lt_of_lt_of_le hcl HBa.out.size) (by simp)).trans b1
            clear hzf
            go_simp
            (try go_wp2_with fail)
            refine hK.out _ _ ⟨d0, d1⟩ (fun hHeld => ?_)
            clear hK K
            try simp only [Act.put, List.getElem_toArray, List.getElem_cons_zero, List.getElem_cons_succ, List.setIfInBounds_toArray, List.set_cons_zero, List.set_cons_succ]
            clear cl fl
            refine wpAnyH_take (i := 10) (oi := _) (v := ?_) rfl (by kernel_rfl) (by kernel_rfl) (by kernel_rfl) (fun _ _ _ h => h) (Or.inl ⟨by rfl, ?_⟩) (by assumption) ?_
            rotate_left 1
            · (intro w hSw; (try dsimp only at hSw); (first | (go_simp; done) | (go_simp; with_reducible rfl)))
            try simp only [Act.put, List.getElem_toArray, List.getElem_cons_zero, List.getElem_cons_succ, List.setIfInBounds_toArray, List.set_cons_zero, List.set_cons_succ]
            refine wpAnyH_done (by kernel_rfl) ?_ _
            refine NoPanic.normal ?_
            have r0 := HZf.out.c 0
            have r1 := HZf.out.c 1
            clear hHeld b0 b1 d0 d1 c0 c1
            go_wp2_with fail
            refine bodyPost_ret (v := .tuple #[.agg #[.int .i64 2, .int .i64 v], .bool false]) (by simp [results, Tryd.results19, go_sem, r0, r1]) rfl ⟨by rw [HC.out, HB2.out], ?_⟩
            exact (HBW.out.trans (HBa.out.mono HBW.out.size)).trans (HOt.out.below (by have := HBW.out.size; have := HBa.out.size; omega) (Nat.le_refl _))
      · have HC : Hid (C = ⟨1, v⟩) := hide (by rw [hP]; rfl)
        clear hP hv
        rcases hsplit with hlt | ⟨hge, hne⟩
        · go_enter Tryd.func19, Tryd.ntmps19
          go_upto_region 11 with (first | (go_at_call 33; (with_reducible refine Calls.mono (HCut.out _) ?_); rintro e w3 ⟨rfl, hw⟩; obtain rfl := hw.symm; clear hw) | (go_at_call 34; (with_reducible refine Calls.mono (HIdx.out _ HV0.out) ?_); rintro e w3 ⟨rfl, hw⟩; obtain rfl := hw.symm; clear hw) | (go_at_call 35; (with_reducible refine Calls.mono HAt.out ?_); rintro e W1 ⟨rfl, hb⟩; have HBW1 := hide (HB0.out.trans (hb.mono HB0.out.size)); have HX1 := hide (HX0.out.below hb HX0.out.lt); have HR1 := hide (HR0.out.below hb HR0.out.lt); have cX := HX1.out.c; have fX := HX1.out.f; clear hb HB0 HX0 HR0))
          obtain ⟨W, hW⟩ : ∃ W, W = (W1.setCell ⟨w.heap.size + 1, 0, none⟩ (.int .i64 1)).setCell ⟨w.heap.size + 1, 1, none⟩ (.int .i64 v) := ⟨_, rfl⟩
          rw [← hW]
          have HOw : Hid (Oth (w.heap.size + 1) W1 W) := hide (by rw [hW]; exact ((Oth.refl (w.heap.size + 1) W1).setCell 0 _).setCell 1 _)
          have HBW : Hid (Below w.heap.size w W) := hide (HBW1.out.trans (HOw.out.below HBW1.out.size (by omega)))
          have HXc : Hid (Bx W (w.heap.size + 1) #[.int .i64 1, .int .i64 v] 37) := hide (by
            have hzf := (HX1.out.set 0 (.int .i64 1)).set 1 (.int .i64 v)
            simp only [List.setIfInBounds_toArray, List.set_cons_zero, List.set_cons_succ] at hzf
            rw [hW]; exact hzf)
          have HXr : Hid (Bx W (w.heap.size) #[.int .i64 0, .int .i64 0] 37) := hide ((HOw.out.block _ HR1.out.lt (by omega)).trans HR1.out)
          have HVw := hide (HVR.out.below HBW.out)
          clear hW cX fX HX1 HR1 HOw HBW1 HCut HIdx HPr hA HAt
          have c0 : W.cell? ⟨w.heap.size + 1, 0, none⟩ = some (.int .i64 1) := HXc.out.c 0
          have c1 : W.cell? ⟨w.heap.size + 1, 1, none⟩ = some (.int .i64 v) := HXc.out.c 1
          have HWd : Hid (Below W.heap.size W W.drew) := hide (belowDrewR (Below.refl _ _))
          have hcl : w.heap.size + 1 < W.heap.size := HXc.out.lt
          have hrl : w.heap.size < W.heap.size := HXr.out.lt
          have HGC := hide (goodCell_any ⟨1, v⟩ W.drew)
          by_cases hg : goodC ⟨1, v⟩ = true
          · have HGd := hide hg
            have HTx := hide (fun (w' : World) (hb : Below W.heap.size W w') => cellText_any ⟨1, v⟩ w' HGd.out ((HVw.out.below hb).tab))
            rw [hg] at HGC
            clear hg
            obtain ⟨he, HB2⟩ | ⟨he, HB2⟩ : ((((wd ⟨1, v⟩).toList == x.toList) = true) ∧ Hid (B = true)) ∨ ((((wd ⟨1, v⟩).toList == x.toList) = false) ∧ Hid (B = false)) := by
              rw [Lib.toList_data, Lib.toList_data, ← HLx.out]
              by_cases e : wdL ⟨1, v⟩ = L
              · exact .inl ⟨beq_iff_eq.2 e, hide (by rw [HB.out, HC.out, HGd.out, decide_eq_true e]; rfl)⟩
              · exact .inr ⟨beq_eq_false_iff_ne.2 e, hide (by rw [HB.out, HC.out, HGd.out, decide_eq_false e]; rfl)⟩
            · refine wp_region_noPanic ?_
              refine wp_region_held_drew (S := fun w' => w'.cell? ⟨w.heap.size + 1, 0, none⟩ = some (.int .i64 1) ∧ w'.cell? ⟨w.heap.size + 1, 1, none⟩ = some (.int .i64 v)) (by kernel_rfl) ⟨c0, c1⟩ (fun hHeld => ?_)
              refine wpAnyH_take (i := 0) (oi := _) (v := ?_) rfl (by kernel_rfl) (by kernel_rfl) (by kernel_rfl) (fun _ _ _ h => h) (Or.inl ⟨by rfl, ?_⟩) (by assumption) ?_
              rotate_left 1
              · (intro w hSw; (try dsimp only at hSw); (first | (go_simp; done) | (go_simp; with_reducible rfl)))
              try simp only [Act.put, List.getElem_toArray, List.getElem_cons_zero, List.getElem_cons_succ, List.setIfInBounds_toArray, List.set_cons_zero, List.set_cons_succ]
              refine wpAnyH_take (i := 1) (oi := _) (v := ?_) rfl (by kernel_rfl) (by kernel_rfl) (by kernel_rfl) (fun _ _ _ h => h) (Or.inl ⟨by rfl, ?_⟩) (by assumption) ?_
              rotate_left 1
              · (intro w hSw; (try dsimp only at hSw); (first | (go_simp; done) | (go_simp; with_reducible rfl)))
              try simp only [Act.put, List.getElem_toArray, List.getElem_cons_zero, List.getElem_cons_succ, List.setIfInBounds_toArray, List.set_cons_zero, List.set_cons_succ]
              refine wpAnyH_ready (rs := [2]) (by kernel_rfl) (by simp) ?_
              refine AllReadyH.cons (o := _) rfl (fun K hK => ?_) AllReadyH.nil
              go_simp
              (with_reducible refine Calls.mono HGC.out ?_)
              rintro r wa ⟨rfl, hba⟩
              have HBa := hide (HWd.out.trans (hba.mono HWd.out.size))
              have a0 := (HBa.out.cell (p := ⟨w.heap.size + 1, 0, none⟩) hcl).trans c0
              have a1 := (HBa.out.cell (p := ⟨w.heap.size + 1, 1, none⟩) hcl).trans c1
              clear hba HGC
              (try go_wp2_with fail)
              refine hK.out _ _ ⟨a0, a1⟩ (fun hHeld => ?_)
              clear hK K
              try simp only [Act.put, List.getElem_toArray, List.getElem_cons_zero, List.getElem_cons_succ, List.setIfInBounds_toArray, List.set_cons_zero, List.set_cons_succ]
              refine wpAnyH_take (i := 3) (oi := _) (v := ?_) rfl (by kernel_rfl) (by kernel_rfl) (by kernel_rfl) (fun _ _ _ h => h) (Or.inl ⟨by rfl, ?_⟩) (by assumption) ?_
              rotate_left 1
              · (intro w hSw; (try dsimp only at hSw); (first | (go_simp; done) | (go_simp; with_reducible rfl)))
              try simp only [Act.put, List.getElem_toArray, List.getElem_cons_zero, List.getElem_cons_succ, List.setIfInBounds_toArray, List.set_cons_zero, List.set_cons_succ]
              refine wpAnyH_take (i := 4) (oi := _) (v := ?_) rfl (by kernel_rfl) (by kernel_rfl) (by kernel_rfl) (fun _ _ _ h => h) (Or.inl ⟨by rfl, ?_⟩) (by assumption) ?_
              rotate_left 1
              · (intro w hSw; (try dsimp only at hSw); (first | (go_simp; done) | (go_simp; with_reducible rfl)))
              try simp only [Act.put, List.getElem_toArray, List.getElem_cons_zero, List.getElem_cons_succ, List.setIfInBounds_toArray, List.set_cons_zero, List.set_cons_succ]
              refine wpAnyH_take (i := 6) (oi := _) (v := ?_) rfl (by kernel_rfl) (by kernel_rfl) (by kernel_rfl) (fun _ _ _ h => h) (Or.inl ⟨by rfl, ?_⟩) (by assumption) ?_
              rotate_left 1
              · (intro w hSw; (try dsimp only at hSw); (first | (go_simp; done) | (go_simp; with_reducible rfl)))
              try simp only [Act.put, List.getElem_toArray, List.getElem_cons_zero, List.getElem_cons_succ, List.setIfInBounds_toArray, List.set_cons_zero, List.set_cons_succ]
              refine wpAnyH_ready (rs := [5]) (by kernel_rfl) (by simp) ?_
              refine AllReadyH.cons (o := _) rfl (fun K hK => ?_) AllReadyH.nil
              go_simp
              (with_reducible refine Calls.mono (HTx.out _ HBa.out) ?_)
              rintro r wb ⟨rfl, hbb⟩
              have HBb := hide (HBa.out.trans (hbb.mono HBa.out.size))
              have b0 := (HBb.out.cell (p := ⟨w.heap.size + 1, 0, none⟩) hcl).trans c0
              have b1 := (HBb.out.cell (p := ⟨w.heap.size + 1, 1, none⟩) hcl).trans c1
              have HZ := hide (HXr.out.below HBb.out hrl)
              clear hbb HTx a0 a1
              (try go_wp2_with fail)
              refine hK.out _ _ ⟨b0, b1⟩ (fun hHeld => ?_)
              clear hK K
              try simp only [Act.put, List.getElem_toArray, List.getElem_cons_zero, List.getElem_cons_succ, List.setIfInBounds_toArray, List.set_cons_zero, List.set_cons_succ]
              refine wpAnyH_take (i := 7) (oi := _) (v := ?_) rfl (by kernel_rfl) (by kernel_rfl) (by kernel_rfl) (fun _ _ _ h => h) (Or.inl ⟨by rfl, ?_⟩) (by assumption) ?_
              rotate_left 1
              · (intro w hSw; (try dsimp only at hSw); (first | (go_simp; done) | (go_simp; with_reducible rfl)))
              try simp only [Act.put, List.getElem_toArray, List.getElem_cons_zero, List.getElem_cons_succ, List.setIfInBounds_toArray, List.set_cons_zero, List.set_cons_succ]
              refine wpAnyH_take (i := 8) (oi := _) (v := ?_) rfl (by kernel_rfl) (by kernel_rfl) (by kernel_rfl) (fun _ _ _ h => h) (Or.inl ⟨by rfl, ?_⟩) (by assumption) ?_
              rotate_left 1
              · (intro w hSw; (try dsimp only at hSw); (first | (go_simp; done) | (go_simp; with_reducible rfl)))
              try simp only [Act.put, List.getElem_toArray, List.getElem_cons_zero, List.getElem_cons_succ, List.setIfInBounds_toArray, List.set_cons_zero, List.set_cons_succ]
              have cl := HZ.out.c
              have fl := HZ.out.f
              refine wpAnyH_ready (rs := [9]) (by kernel_rfl) (by simp) ?_
              refine AllReadyH.cons (o := _) rfl (fun K hK => ?_) AllReadyH.nil
              have hzf := (HZ.out.set 0 (.int .i64 1)).set 1 (.int .i64 v)
              simp only [List.setIfInBounds_toArray, List.set_cons_zero, List.set_cons_succ] at hzf
              have HZf := hide hzf
              have HOt := hide (((Oth.refl (w.heap.size) wb).setCell 0 (.int .i64 1)).setCell 1 (.int .i64 v))
              have d0 := (HOt.out.cell' (a := ⟨w.heap.size + 1, 0, none⟩) (Nat.lt_of_lt_of_le hcl HBb.out.size) (by simp)).trans b0
              have d1 := (HOt.out.cell' (a := ⟨w.heap.size + 1, 1, none⟩) (Nat.lt_of_lt_of_le hcl HBb.out.size) (by simp)).trans b1
              clear hzf
              go_simp
              (try go_wp2_with fail)
              refine hK.out _ _ ⟨d0, d1⟩ (fun hHeld => ?_)
              clear hK K
              try simp only [Act.put, List.getElem_toArray, List.getElem_cons_zero, List.getElem_cons_succ, List.setIfInBounds_toArray, List.set_cons_zero, List.set_cons_succ]
              clear cl fl
              refine wpAnyH_take (i := 10) (oi := _) (v := ?_) rfl (by kernel_rfl) (by kernel_rfl) (by kernel_rfl) (fun _ _ _ h => h) (Or.inl ⟨by rfl, ?_⟩) (by assumption) ?_
              rotate_left 1
              · (intro w hSw; (try dsimp only at hSw); (first | (go_simp; done) | (go_simp; with_reducible rfl)))
              try simp only [Act.put, List.getElem_toArray, List.getElem_cons_zero, List.getElem_cons_succ, List.setIfInBounds_toArray, List.set_cons_zero, List.set_cons_succ]
              refine wpAnyH_done (by kernel_rfl) ?_ _
              refine NoPanic.normal ?_
              have r0 := HZf.out.c 0
              have r1 := HZf.out.c 1
              clear hHeld b0 b1 d0 d1 c0 c1
              go_wp2_with fail
              refine bodyPost_ret (v := .tuple #[.agg #[.int .i64 1, .int .i64 v], .bool true]) (by simp [results, Tryd.results19, go_sem, r0, r1]) rfl ⟨by rw [HC.out, HB2.out], ?_⟩
              exact (HBW.out.trans (HBb.out.mono HBW.out.size)).trans (HOt.out.below (by have := HBW.out.size; have := HBb.out.size; omega) (Nat.le_refl _))
            · refine wp_region_noPanic ?_
              refine wp_region_held_drew (S := fun w' => w'.cell? ⟨w.heap.size + 1, 0, none⟩ = some (.int .i64 1) ∧ w'.cell? ⟨w.heap.size + 1, 1, none⟩ = some (.int .i64 v)) (by kernel_rfl) ⟨c0, c1⟩ (fun hHeld => ?_)
              refine wpAnyH_take (i := 0) (oi := _) (v := ?_) rfl (by kernel_rfl) (by kernel_rfl) (by kernel_rfl) (fun _ _ _ h => h) (Or.inl ⟨by rfl, ?_⟩) (by assumption) ?_
              rotate_left 1
              · (intro w hSw; (try dsimp only at hSw); (first | (go_simp; done) | (go_simp; with_reducible rfl)))
              try simp only [Act.put, List.getElem_toArray, List.getElem_cons_zero, List.getElem_cons_succ, List.setIfInBounds_toArray, List.set_cons_zero, List.set_cons_succ]
              refine wpAnyH_take (i := 1) (oi := _) (v := ?_) rfl (by kernel_rfl) (by kernel_rfl) (by kernel_rfl) (fun _ _ _ h => h) (Or.inl ⟨by rfl, ?_⟩) (by assumption) ?_
              rotate_left 1
              · (intro w hSw; (try dsimp only at hSw); (first | (go_simp; done) | (go_simp; with_reducible rfl)))
              try simp only [Act.put, List.getElem_toArray, List.getElem_cons_zero, List.getElem_cons_succ, List.setIfInBounds_toArray, List.set_cons_zero, List.set_cons_succ]
              refine wpAnyH_ready (rs := [2]) (by kernel_rfl) (by simp) ?_
              refine AllReadyH.cons (o := _) rfl (fun K hK => ?_) AllReadyH.nil
              go_simp
              (with_reducible refine Calls.mono HGC.out ?_)
              rintro r wa ⟨rfl, hba⟩
              have HBa := hide (HWd.out.trans (hba.mono HWd.out.size))
              have a0 := (HBa.out.cell (p := ⟨w.heap.size + 1, 0, none⟩) hcl).trans c0
              have a1 := (HBa.out.cell (p := ⟨w.heap.size + 1, 1, none⟩) hcl).trans c1
              clear hba HGC
              (try go_wp2_with fail)
              refine hK.out _ _ ⟨a0, a1⟩ (fun hHeld => ?_)
              clear hK K
              try simp only [Act.put, List.getElem_toArray, List.getElem_cons_zero, List.getElem_cons_succ, List.setIfInBounds_toArray, List.set_cons_zero, List.set_cons_succ]
              refine wpAnyH_take (i := 3) (oi := _) (v := ?_) rfl (by kernel_rfl) (by kernel_rfl) (by kernel_rfl) (fun _ _ _ h => h) (Or.inl ⟨by rfl, ?_⟩) (by assumption) ?_
              rotate_left 1
              · (intro w hSw; (try dsimp only at hSw); (first | (go_simp; done) | (go_simp; with_reducible rfl)))
              try simp only [Act.put, List.getElem_toArray, List.getElem_cons_zero, List.getElem_cons_succ, List.setIfInBounds_toArray, List.set_cons_zero, List.set_cons_succ]
              refine wpAnyH_take (i := 4) (oi := _) (v := ?_) rfl (by kernel_rfl) (by kernel_rfl) (by kernel_rfl) (fun _ _ _ h => h) (Or.inl ⟨by rfl, ?_⟩) (by assumption) ?_
              rotate_left 1
              · (intro w hSw; (try dsimp only at hSw); (first | (go_simp; done) | (go_simp; with_reducible rfl)))
              try simp only [Act.put, List.getElem_toArray, List.getElem_cons_zero, List.getElem_cons_succ, List.setIfInBounds_toArray, List.set_cons_zero, List.set_cons_succ]
              refine wpAnyH_take (i := 6) (oi := _) (v := ?_) rfl (by kernel_rfl) (by kernel_rfl) (by kernel_rfl) (fun _ _ _ h => h) (Or.inl ⟨by rfl, ?_⟩) (by assumption) ?_
              rotate_left 1
              · (intro w hSw; (try dsimp only at hSw); (first | (go_simp; done) | (go_simp; with_reducible rfl)))
              try simp only [Act.put, List.getElem_toArray, List.getElem_cons_zero, List.getElem_cons_succ, List.setIfInBounds_toArray, List.set_cons_zero, List.set_cons_succ]
              refine wpAnyH_ready (rs := [5]) (by kernel_rfl) (by simp) ?_
              refine AllReadyH.cons (o := _) rfl (fun K hK => ?_) AllReadyH.nil
              go_simp
              (with_reducible refine Calls.mono (HTx.out _ HBa.out) ?_)
              rintro r wb ⟨rfl, hbb⟩
              have HBb := hide (HBa.out.trans (hbb.mono HBa.out.size))
              have b0 := (HBb.out.cell (p := ⟨w.heap.size + 1, 0, none⟩) hcl).trans c0
              have b1 := (HBb.out.cell (p := ⟨w.heap.size + 1, 1, none⟩) hcl).trans c1
              have HZ := hide (HXr.out.below HBb.out hrl)
              clear hbb HTx a0 a1
              (try go_wp2_with fail)
              refine hK.out _ _ ⟨b0, b1⟩ (fun hHeld => ?_)
              clear hK K
              try simp only [Act.put, List.getElem_toArray, List.getElem_cons_zero, List.getElem_cons_succ, List.setIfInBounds_toArray, List.set_cons_zero, List.set_cons_succ]
              refine wpAnyH_take (i := 7) (oi := _) (v := ?_) rfl (by kernel_rfl) (by kernel_rfl) (by kernel_rfl) (fun _ _ _ h => h) (Or.inl ⟨by rfl, ?_⟩) (by assumption) ?_
              rotate_left 1
              · (intro w hSw; (try dsimp only at hSw); (first | (go_simp; done) | (go_simp; with_reducible rfl)))
              try simp only [Act.put, List.getElem_toArray, List.getElem_cons_zero, List.getElem_cons_succ, List.setIfInBounds_toArray, List.set_cons_zero, List.set_cons_succ]
              refine wpAnyH_take (i := 8) (oi := _) (v := ?_) rfl (by kernel_rfl) (by kernel_rfl) (by kernel_rfl) (fun _ _ _ h => h) (Or.inl ⟨by rfl, ?_⟩) (by assumption) ?_
              rotate_left 1
              · (intro w hSw; (try dsimp only at hSw); (first | (go_simp; done) | (go_simp; with_reducible rfl)))
              try simp only [Act.put, List.getElem_toArray, List.getElem_cons_zero, List.getElem_cons_succ, List.setIfInBounds_toArray, List.set_cons_zero, List.set_cons_succ]
              have cl := HZ.out.c
              have fl := HZ.out.f
              refine wpAnyH_ready (rs := [9]) (by kernel_rfl) (by simp) ?_
              refine AllReadyH.cons (o := _) rfl (fun K hK => ?_) AllReadyH.nil
              have hzf := (HZ.out.set 0 (.int .i64 1)).set 1 (.int .i64 v)
              simp only [List.setIfInBounds_toArray, List.set_cons_zero, List.set_cons_succ] at hzf
              have HZf := hide hzf
              have HOt := hide (((Oth.refl (w.heap.size) wb).setCell 0 (.int .i64 1)).setCell 1 (.int .i64 v))
              have d0 := (HOt.out.cell' (a := ⟨w.heap.size + 1, 0, none⟩) (Nat.lt_of_lt_of_le hcl HBb.out.size) (by simp)).trans b0
              have d1 := (HOt.out.cell' (a := ⟨w.heap.size + 1, 1, none⟩) (Nat.lt_of_lt_of_le hcl HBb.out.size) (by simp)).trans b1
              clear hzf
              go_simp
              (try go_wp2_with fail)
              refine hK.out _ _ ⟨d0, d1⟩ (fun hHeld => ?_)
              clear hK K
              try simp only [Act.put, List.getElem_toArray, List.getElem_cons_zero, List.getElem_cons_succ, List.setIfInBounds_toArray, List.set_cons_zero, List.set_cons_succ]
              clear cl fl
              refine wpAnyH_take (i := 10) (oi := _) (v := ?_) rfl (by kernel_rfl) (by kernel_rfl) (by kernel_rfl) (fun _ _ _ h => h) (Or.inl ⟨by rfl, ?_⟩) (by assumption) ?_
              rotate_left 1
              · (intro w hSw; (try dsimp only at hSw); (first | (go_simp; done) | (go_simp; with_reducible rfl)))
              try simp only [Act.put, List.getElem_toArray, List.getElem_cons_zero, List.getElem_cons_succ, List.setIfInBounds_toArray, List.set_cons_zero, List.set_cons_succ]
              refine wpAnyH_done (by kernel_rfl) ?_ _
              refine NoPanic.normal ?_
              have r0 := HZf.out.c 0
              have r1 := HZf.out.c 1
              clear hHeld b0 b1 d0 d1 c0 c1
              go_wp2_with fail
              refine bodyPost_ret (v := .tuple #[.agg #[.int .i64 1, .int .i64 v], .bool false]) (by simp [results, Tryd.results19, go_sem, r0, r1]) rfl ⟨by rw [HC.out, HB2.out], ?_⟩
              exact (HBW.out.trans (HBb.out.mono HBW.out.size)).trans (HOt.out.below (by have := HBW.out.size; have := HBb.out.size; omega) (Nat.le_refl _))
          · rw [Bool.not_eq_true] at hg
            have HB2 : Hid (B = false) := hide (by rw [HB.out, HC.out, hg]; rfl)
            rw [hg] at HGC
            clear hg
            refine wp_region_noPanic ?_
            refine wp_region_held_drew (S := fun w' => w'.cell? ⟨w.heap.size + 1, 0, none⟩ = some (.int .i64 1) ∧ w'.cell? ⟨w.heap.size + 1, 1, none⟩ = some (.int .i64 v)) (by kernel_rfl) ⟨c0, c1⟩ (fun hHeld => ?_)
            refine wpAnyH_take (i := 0) (oi := _) (v := ?_) rfl (by kernel_rfl) (by kernel_rfl) (by kernel_rfl) (fun _ _ _ h => h) (Or.inl ⟨by rfl, ?_⟩) (by assumption) ?_
            rotate_left 1
            · (intro w hSw; (try dsimp only at hSw); (first | (go_simp; done) | (go_simp; with_reducible rfl)))
            try simp only [Act.put, List.getElem_toArray, List.getElem_cons_zero, List.getElem_cons_succ, List.setIfInBounds_toArray, List.set_cons_zero, List.set_cons_succ]
            refine wpAnyH_take (i := 1) (oi := _) (v := ?_) rfl (by kernel_rfl) (by kernel_rfl) (by kernel_rfl) (fun _ _ _ h => h) (Or.inl ⟨by rfl, ?_⟩) (by assumption) ?_
            rotate_left 1
            · (intro w hSw; (try dsimp only at hSw); (first | (go_simp; done) | (go_simp; with_reducible rfl)))
            try simp only [Act.put, List.getElem_toArray, List.getElem_cons_zero, List.getElem_cons_succ, List.setIfInBounds_toArray, List.set_cons_zero, List.set_cons_succ]
            refine wpAnyH_ready (rs := [2]) (by kernel_rfl) (by simp) ?_
            refine AllReadyH.cons (o := _) rfl (fun K hK => ?_) AllReadyH.nil
            go_simp
            (with_reducible refine Calls.mono HGC.out ?_)
            rintro r wa ⟨rfl, hba⟩
            have HBa := hide (HWd.out.trans (hba.mono HWd.out.size))
            have b0 := (HBa.out.cell (p := ⟨w.heap.size + 1, 0, none⟩) hcl).trans c0
            have b1 := (HBa.out.cell (p := ⟨w.heap.size + 1, 1, none⟩) hcl).trans c1
            have HZ := hide (HXr.out.below HBa.out hrl)
            clear hba HGC
            (try go_wp2_with fail)
            refine hK.out _ _ ⟨b0, b1⟩ (fun hHeld => ?_)
            clear hK K
            try simp only [Act.put, List.getElem_toArray, List.getElem_cons_zero, List.getElem_cons_succ, List.setIfInBounds_toArray, List.set_cons_zero, List.set_cons_succ]
            refine wpAnyH_take (i := 3) (oi := _) (v := ?_) rfl (by kernel_rfl) (by kernel_rfl) (by kernel_rfl) (fun _ _ _ h => h) (Or.inl ⟨by rfl, ?_⟩) (by assumption) ?_
            rotate_left 1
            · (intro w hSw; (try dsimp only at hSw); (first | (go_simp; done) | (go_simp; with_reducible rfl)))
            try simp only [Act.put, List.getElem_toArray, List.getElem_cons_zero, List.getElem_cons_succ, List.setIfInBounds_toArray, List.set_cons_zero, List.set_cons_succ]
            refine wpAnyH_take (i := 4) (oi := _) (v := undef) rfl (by kernel_rfl) (by kernel_rfl) (by kernel_rfl) (fun _ _ _ h => h) (Or.inr ⟨by rfl, rfl⟩) (by assumption) ?_
            try simp only [Act.put, List.getElem_toArray, List.getElem_cons_zero, List.getElem_cons_succ, List.setIfInBounds_toArray, List.set_cons_zero, List.set_cons_succ]
            refine wpAnyH_take (i := 5) (oi := _) (v := undef) rfl (by kernel_rfl) (by kernel_rfl) (by kernel_rfl) (fun _ _ _ h => h) (Or.inr ⟨by rfl, rfl⟩) (by assumption) ?_
            try simp only [Act.put, List.getElem_toArray, List.getElem_cons_zero, List.getElem_cons_succ, List.setIfInBounds_toArray, List.set_cons_zero, List.set_cons_succ]
            refine wpAnyH_take (i := 6) (oi := _) (v := undef) rfl (by kernel_rfl) (by kernel_rfl) (by kernel_rfl) (fun _ _ _ h => h) (Or.inr ⟨by rfl, rfl⟩) (by assumption) ?_
            try simp only [Act.put, List.getElem_toArray, List.getElem_cons_zero, List.getElem_cons_succ, List.setIfInBounds_toArray, List.set_cons_zero, List.set_cons_succ]
            refine wpAnyH_take (i := 7) (oi := _) (v := undef) rfl (by kernel_rfl) (by kernel_rfl) (by kernel_rfl) (fun _ _ _ h => h) (Or.inr ⟨by rfl, rfl⟩) (by assumption) ?_
            try simp only [Act.put, List.getElem_toArray, List.getElem_cons_zero, List.getElem_cons_succ, List.setIfInBounds_toArray, List.set_cons_zero, List.set_cons_succ]
            refine wpAnyH_take (i := 8) (oi := _) (v := ?_) rfl (by kernel_rfl) (by kernel_rfl) (by kernel_rfl) (fun _ _ _ h => h) (Or.inl ⟨by rfl, ?_⟩) (by assumption) ?_
            rotate_left 1
            · (intro w hSw; (try dsimp only at hSw); (first | (go_simp; done) | (go_simp; with_reducible rfl)))
            try simp only [Act.put, List.getElem_toArray, List.getElem_cons_zero, List.getElem_cons_succ, List.setIfInBounds_toArray, List.set_cons_zero, List.set_cons_succ]
            have cl := HZ.out.c
            have fl := HZ.out.f
            refine wpAnyH_ready (rs := [9]) (by kernel_rfl) (by simp) ?_
            refine AllReadyH.cons (o := _) rfl (fun K hK => ?_) AllReadyH.nil
            have hzf := (HZ.out.set 0 (.int .i64 1)).set 1 (.int .i64 v)
            simp only [List.setIfInBounds_toArray, List.set_cons_zero, List.set_cons_succ] at hzf
            have HZf := hide hzf
            have HOt := hide (((Oth.refl (w.heap.size) wa).setCell 0 (.int .i64 1)).setCell 1 (.int .i64 v))
            have d0 := (HOt.out.cell' (a := ⟨w.heap.size + 1, 0, none⟩) (Nat.lt_of_lt_of_le hcl HBa.out.size) (by simp)).trans b0
            have d1 := (HOt.out.cell' (a := ⟨w.heap.size + 1, 1, none⟩) (Nat.lt_of_lt_of_le hcl HBa.out.size) (by simp)).trans b1
            clear hzf
            go_simp
            (try go_wp2_with fail)
            refine hK.out _ _ ⟨d0, d1⟩ (fun hHeld => ?_)
            clear hK K
            try simp only [Act.put, List.getElem_toArray, List.getElem_cons_zero, List.getElem_cons_succ, List.setIfInBounds_toArray, List.set_cons_zero, List.set_cons_succ]
            clear cl fl
            refine wpAnyH_take (i := 10) (oi := _) (v := ?_) rfl (by kernel_rfl) (by kernel_rfl) (by kernel_rfl) (fun _ _ _ h => h) (Or.inl ⟨by rfl, ?_⟩) (by assumption) ?_
            rotate_left 1
            · (intro w hSw; (try dsimp only at hSw); (first | (go_simp; done) | (go_simp; with_reducible rfl)))
            try simp only [Act.put, List.getElem_toArray, List.getElem_cons_zero, List.getElem_cons_succ, List.setIfInBounds_toArray, List.set_cons_zero, List.set_cons_succ]
            refine wpAnyH_done (by kernel_rfl) ?_ _
            refine NoPanic.normal ?_
            have r0 := HZf.out.c 0
            have r1 := HZf.out.c 1
            clear hHeld b0 b1 d0 d1 c0 c1
            go_wp2_with fail
            refine bodyPost_ret (v := .tuple #[.agg #[.int .i64 1, .int .i64 v], .bool false]) (by simp [results, Tryd.results19, go_sem, r0, r1]) rfl ⟨by rw [HC.out, HB2.out], ?_⟩
            exact (HBW.out.trans (HBa.out.mono HBW.out.size)).trans (HOt.out.below (by have := HBW.out.size; have := HBa.out.size; omega) (Nat.le_refl _))
        · go_enter Tryd.func19, Tryd.ntmps19
          go_upto_region 11 with (first | (go_at_call 33; (with_reducible refine Calls.mono (HCut.out _) ?_); rintro e w3 ⟨rfl, hw⟩; obtain rfl := hw.symm; clear hw) | (go_at_call 34; (with_reducible refine Calls.mono (HIdx.out _ HV0.out) ?_); rintro e w3 ⟨rfl, hw⟩; obtain rfl := hw.symm; clear hw) | (go_at_call 35; (with_reducible refine Calls.mono HAt.out ?_); rintro e W1 ⟨rfl, hb⟩; have HBW1 := hide (HB0.out.trans (hb.mono HB0.out.size)); have HX1 := hide (HX0.out.below hb HX0.out.lt); have HR1 := hide (HR0.out.below hb HR0.out.lt); have cX := HX1.out.c; have fX := HX1.out.f; clear hb HB0 HX0 HR0))
          obtain ⟨W, hW⟩ : ∃ W, W = (W1.setCell ⟨w.heap.size + 1, 0, none⟩ (.int .i64 1)).setCell ⟨w.heap.size + 1, 1, none⟩ (.int .i64 v) := ⟨_, rfl⟩
          rw [← hW]
          have HOw : Hid (Oth (w.heap.size + 1) W1 W) := hide (by rw [hW]; exact ((Oth.refl (w.heap.size + 1) W1).setCell 0 _).setCell 1 _)
          have HBW : Hid (Below w.heap.size w W) := hide (HBW1.out.trans (HOw.out.below HBW1.out.size (by omega)))
          have HXc : Hid (Bx W (w.heap.size + 1) #[.int .i64 1, .int .i64 v] 37) := hide (by
            have hzf := (HX1.out.set 0 (.int .i64 1)).set 1 (.int .i64 v)
            simp only [List.setIfInBounds_toArray, List.set_cons_zero, List.set_cons_succ] at hzf
            rw [hW]; exact hzf)
          have HXr : Hid (Bx W (w.heap.size) #[.int .i64 0, .int .i64 0] 37) := hide ((HOw.out.block _ HR1.out.lt (by omega)).trans HR1.out)
          have HVw := hide (HVR.out.below HBW.out)
          clear hW cX fX HX1 HR1 HOw HBW1 HCut HIdx HPr hA HAt
          have c0 : W.cell? ⟨w.heap.size + 1, 0, none⟩ = some (.int .i64 1) := HXc.out.c 0
          have c1 : W.cell? ⟨w.heap.size + 1, 1, none⟩ = some (.int .i64 v) := HXc.out.c 1
          have HWd : Hid (Below W.heap.size W W.drew) := hide (belowDrewR (Below.refl _ _))
          have hcl : w.heap.size + 1 < W.heap.size := HXc.out.lt
          have hrl : w.heap.size < W.heap.size := HXr.out.lt
          have HGC := hide (goodCell_any ⟨1, v⟩ W.drew)
          by_cases hg : goodC ⟨1, v⟩ = true
          · have HGd := hide hg
            have HTx := hide (fun (w' : World) (hb : Below W.heap.size W w') => cellText_any ⟨1, v⟩ w' HGd.out ((HVw.out.below hb).tab))
            rw [hg] at HGC
            clear hg
            obtain ⟨he, HB2⟩ | ⟨he, HB2⟩ : ((((wd ⟨1, v⟩).toList == x.toList) = true) ∧ Hid (B = true)) ∨ ((((wd ⟨1, v⟩).toList == x.toList) = false) ∧ Hid (B = false)) := by
              rw [Lib.toList_data, Lib.toList_data, ← HLx.out]
              by_cases e : wdL ⟨1, v⟩ = L
              · exact .inl ⟨beq_iff_eq.2 e, hide (by rw [HB.out, HC.out, HGd.out, decide_eq_true e]; rfl)⟩
              · exact .inr ⟨beq_eq_false_iff_ne.2 e, hide (by rw [HB.out, HC.out, HGd.out, decide_eq_false e]; rfl)⟩
            · refine wp_region_noPanic ?_
              refine wp_region_held_drew (S := fun w' => w'.cell? ⟨w.heap.size + 1, 0, none⟩ = some (.int .i64 1) ∧ w'.cell? ⟨w.heap.size + 1, 1, none⟩ = some (.int .i64 v)) (by kernel_rfl) ⟨c0, c1⟩ (fun hHeld => ?_)
              refine wpAnyH_take (i := 0) (oi := _) (v := ?_) rfl (by kernel_rfl) (by kernel_rfl) (by kernel_rfl) (fun _ _ _ h => h) (Or.inl ⟨by rfl, ?_⟩) (by assumption) ?_
              rotate_left 1
              · (intro w hSw; (try dsimp only at hSw); (first | (go_simp; done) | (go_simp; with_reducible rfl)))
              try simp only [Act.put, List.getElem_toArray, List.getElem_cons_zero, List.getElem_cons_succ, List.setIfInBounds_toArray, List.set_cons_zero, List.set_cons_succ]
              refine wpAnyH_take (i := 1) (oi := _) (v := ?_) rfl (by kernel_rfl) (by kernel_rfl) (by kernel_rfl) (fun _ _ _ h => h) (Or.inl ⟨by rfl, ?_⟩) (by assumption) ?_
              rotate_left 1
              · (intro w hSw; (try dsimp only at hSw); (first | (go_simp; done) | (go_simp; with_reducible rfl)))
              try simp only [Act.put, List.getElem_toArray, List.getElem_cons_zero, List.getElem_cons_succ, List.setIfInBounds_toArray, List.set_cons_zero, List.set_cons_succ]
              refine wpAnyH_ready (rs := [2]) (by kernel_rfl) (by simp) ?_
              refine AllReadyH.cons (o := _) rfl (fun K hK => ?_) AllReadyH.nil
              go_simp
              (with_reducible refine Calls.mono HGC.out ?_)
              rintro r wa ⟨rfl, hba⟩
              have HBa := hide (HWd.out.trans (hba.mono HWd.out.size))
              have a0 := (HBa.out.cell (p := ⟨w.heap.size + 1, 0, none⟩) hcl).trans c0
              have a1 := (HBa.out.cell (p := ⟨w.heap.size + 1, 1, none⟩) hcl).trans c1
              clear hba HGC
              (try go_wp2_with fail)
              refine hK.out _ _ ⟨a0, a1⟩ (fun hHeld => ?_)
              clear hK K
              try simp only [Act.put, List.getElem_toArray, List.getElem_cons_zero, List.getElem_cons_succ, List.setIfInBounds_toArray, List.set_cons_zero, List.set_cons_succ]
              refine wpAnyH_take (i := 3) (oi := _) (v := ?_) rfl (by kernel_rfl) (by kernel_rfl) (by kernel_rfl) (fun _ _ _ h => h) (Or.inl ⟨by rfl, ?_⟩) (by assumption) ?_
              rotate_left 1
              · (intro w hSw; (try dsimp only at hSw); (first | (go_simp; done) | (go_simp; with_reducible rfl)))
              try simp only [Act.put, List.getElem_toArray, List.getElem_cons_zero, List.getElem_cons_succ, List.setIfInBounds_toArray, List.set_cons_zero, List.set_cons_succ]
              refine wpAnyH_take (i := 4) (oi := _) (v := ?_) rfl (by kernel_rfl) (by kernel_rfl) (by kernel_rfl) (fun _ _ _ h => h) (Or.inl ⟨by rfl, ?_⟩) (by assumption) ?_
              rotate_left 1
              · (intro w hSw; (try dsimp only at hSw); (first | (go_simp; done) | (go_simp; with_reducible rfl)))
              try simp only [Act.put, List.getElem_toArray, List.getElem_cons_zero, List.getElem_cons_succ, List.setIfInBounds_toArray, List.set_cons_zero, List.set_cons_succ]
              refine wpAnyH_take (i := 6) (oi := _) (v := ?_) rfl (by kernel_rfl) (by kernel_rfl) (by kernel_rfl) (fun _ _ _ h => h) (Or.inl ⟨by rfl, ?_⟩) (by assumption) ?_
              rotate_left 1
              · (intro w hSw; (try dsimp only at hSw); (first | (go_simp; done) | (go_simp; with_reducible rfl)))
              try simp only [Act.put, List.getElem_toArray, List.getElem_cons_zero, List.getElem_cons_succ, List.setIfInBounds_toArray, List.set_cons_zero, List.set_cons_succ]
              refine wpAnyH_ready (rs := [5]) (by kernel_rfl) (by simp) ?_
              refine AllReadyH.cons (o := _) rfl (fun K hK => ?_) AllReadyH.nil
              go_simp
              (with_reducible refine Calls.mono (HTx.out _ HBa.out) ?_)
              rintro r wb ⟨rfl, hbb⟩
              have HBb := hide (HBa.out.trans (hbb.mono HBa.out.size))
              have b0 := (HBb.out.cell (p := ⟨w.heap.size + 1, 0, none⟩) hcl).trans c0
              have b1 := (HBb.out.cell (p := ⟨w.heap.size + 1, 1, none⟩) hcl).trans c1
              have HZ := hide (HXr.out.below HBb.out hrl)
              clear hbb HTx a0 a1
              (try go_wp2_with fail)
              refine hK.out _ _ ⟨b0, b1⟩ (fun hHeld => ?_)
              clear hK K
              try simp only [Act.put, List.getElem_toArray, List.getElem_cons_zero, List.getElem_cons_succ, List.setIfInBounds_toArray, List.set_cons_zero, List.set_cons_succ]
              refine wpAnyH_take (i := 7) (oi := _) (v := ?_) rfl (by kernel_rfl) (by kernel_rfl) (by kernel_rfl) (fun _ _ _ h => h) (Or.inl ⟨by rfl, ?_⟩) (by assumption) ?_
              rotate_left 1
              · (intro w hSw; (try dsimp only at hSw); (first | (go_simp; done) | (go_simp; with_reducible rfl)))
              try simp only [Act.put, List.getElem_toArray, List.getElem_cons_zero, List.getElem_cons_succ, List.setIfInBounds_toArray, List.set_cons_zero, List.set_cons_succ]
              refine wpAnyH_take (i := 8) (oi := _) (v := ?_) rfl (by kernel_rfl) (by kernel_rfl) (by kernel_rfl) (fun _ _ _ h => h) (Or.inl ⟨by rfl, ?_⟩) (by assumption) ?_
              rotate_left 1
              · (intro w hSw; (try dsimp only at hSw); (first | (go_simp; done) | (go_simp; with_reducible rfl)))
              try simp only [Act.put, List.getElem_toArray, List.getElem_cons_zero, List.getElem_cons_succ, List.setIfInBounds_toArray, List.set_cons_zero, List.set_cons_succ]
              have cl := HZ.out.c
              have fl := HZ.out.f
              refine wpAnyH_ready (rs := [9]) (by kernel_rfl) (by simp) ?_
              refine AllReadyH.cons (o := _) rfl (fun K hK => ?_) AllReadyH.nil
              have hzf := (HZ.out.set 0 (.int .i64 1)).set 1 (.int .i64 v)
              simp only [List.setIfInBounds_toArray, List.set_cons_zero, List.set_cons_succ] at hzf
              have HZf := hide hzf
              have HOt := hide (((Oth.refl (w.heap.size) wb).setCell 0 (.int .i64 1)).setCell 1 (.int .i64 v))
              have d0 := (HOt.out.cell' (a := ⟨w.heap.size + 1, 0, none⟩) (Nat.lt_of_lt_of_le hcl HBb.out.size) (by simp)).trans b0
              have d1 := (HOt.out.cell' (a := ⟨w.heap.size + 1, 1, none⟩) (Nat.lt_of_lt_of_le hcl HBb.out.size) (by simp)).trans b1
              clear hzf
              go_simp
              (try go_wp2_with fail)
              refine hK.out _ _ ⟨d0, d1⟩ (fun hHeld => ?_)
              clear hK K
              try simp only [Act.put, List.getElem_toArray, List.getElem_cons_zero, List.getElem_cons_succ, List.setIfInBounds_toArray, List.set_cons_zero, List.set_cons_succ]
              clear cl fl
              refine wpAnyH_take (i := 10) (oi := _) (v := ?_) rfl (by kernel_rfl) (by kernel_rfl) (by kernel_rfl) (fun _ _ _ h => h) (Or.inl ⟨by rfl, ?_⟩) (by assumption) ?_
              rotate_left 1
              · (intro w hSw; (try dsimp only at hSw); (first | (go_simp; done) | (go_simp; with_reducible rfl)))
              try simp only [Act.put, List.getElem_toArray, List.getElem_cons_zero, List.getElem_cons_succ, List.setIfInBounds_toArray, List.set_cons_zero, List.set_cons_succ]
              refine wpAnyH_done (by kernel_rfl) ?_ _
              refine NoPanic.normal ?_
              have r0 := HZf.out.c 0
              have r1 := HZf.out.c 1
              clear hHeld b0 b1 d0 d1 c0 c1
              go_wp2_with fail
              refine bodyPost_ret (v := .tuple #[.agg #[.int .i64 1, .int .i64 v], .bool true]) (by simp [results, Tryd.results19, go_sem, r0, r1]) rfl ⟨by rw [HC.out, HB2.out], ?_⟩
              exact (HBW.out.trans (HBb.out.mono HBW.out.size)).trans (HOt.out.below (by have := HBW.out.size; have := HBb.out.size; omega) (Nat.le_refl _))
            · refine wp_region_noPanic ?_
              refine wp_region_held_drew (S := fun w' => w'.cell? ⟨w.heap.size + 1, 0, none⟩ = some (.int .i64 1) ∧ w'.cell? ⟨w.heap.size + 1, 1, none⟩ = some (.int .i64 v)) (by kernel_rfl) ⟨c0, c1⟩ (fun hHeld => ?_)
              refine wpAnyH_take (i := 0) (oi := _) (v := ?_) rfl (by kernel_rfl) (by kernel_rfl) (by kernel_rfl) (fun _ _ _ h => h) (Or.inl ⟨by rfl, ?_⟩) (by assumption) ?_
              rotate_left 1
              · (intro w hSw; (try dsimp only at hSw); (first | (go_simp; done) | (go_simp; with_reducible rfl)))
              try simp only [Act.put, List.getElem_toArray, List.getElem_cons_zero, List.getElem_cons_succ, List.setIfInBounds_toArray, List.set_cons_zero, List.set_cons_succ]
              refine wpAnyH_take (i := 1) (oi := _) (v := ?_) rfl (by kernel_rfl) (by kernel_rfl) (by kernel_rfl) (fun _ _ _ h => h) (Or.inl ⟨by rfl, ?_⟩) (by assumption) ?_
              rotate_left 1
              · (intro w hSw; (try dsimp only at hSw); (first | (go_simp; done) | (go_simp; with_reducible rfl)))
              try simp only [Act.put, List.getElem_toArray, List.getElem_cons_zero, List.getElem_cons_succ, List.setIfInBounds_toArray, List.set_cons_zero, List.set_cons_succ]
              refine wpAnyH_ready (rs := [2]) (by kernel_rfl) (by simp) ?_
              refine AllReadyH.cons (o := _) rfl (fun K hK => ?_) AllReadyH.nil
              go_simp
              (with_reducible refine Calls.mono HGC.out ?_)
              rintro r wa ⟨rfl, hba⟩
              have HBa := hide (HWd.out.trans (hba.mono HWd.out.size))
              have a0 := (HBa.out.cell (p := ⟨w.heap.size + 1, 0, none⟩) hcl).trans c0
              have a1 := (HBa.out.cell (p := ⟨w.heap.size + 1, 1, none⟩) hcl).trans c1
              clear hba HGC
              (try go_wp2_with fail)
              refine hK.out _ _ ⟨a0, a1⟩ (fun hHeld => ?_)
              clear hK K
              try simp only [Act.put, List.getElem_toArray, List.getElem_cons_zero, List.getElem_cons_succ, List.setIfInBounds_toArray, List.set_cons_zero, List.set_cons_succ]
              refine wpAnyH_take (i := 3) (oi := _) (v := ?_) rfl (by kernel_rfl) (by kernel_rfl) (by kernel_rfl) (fun _ _ _ h => h) (Or.inl ⟨by rfl, ?_⟩) (by assumption) ?_
              rotate_left 1
              · (intro w hSw; (try dsimp only at hSw); (first | (go_simp; done) | (go_simp; with_reducible rfl)))
              try simp only [Act.put, List.getElem_toArray, List.getElem_cons_zero, List.getElem_cons_succ, List.setIfInBounds_toArray, List.set_cons_zero, List.set_cons_succ]
              refine wpAnyH_take (i := 4) (oi := _) (v := ?_) rfl (by kernel_rfl) (by kernel_rfl) (by kernel_rfl) (fun _ _ _ h => h) (Or.inl ⟨by rfl, ?_⟩) (by assumption) ?_
              rotate_left 1
              · (intro w hSw; (try dsimp only at hSw); (first | (go_simp; done) | (go_simp; with_reducible rfl)))
              try simp only [Act.put, List.getElem_toArray, List.getElem_cons_zero, List.getElem_cons_succ, List.setIfInBounds_toArray, List.set_cons_zero, List.set_cons_succ]
              refine wpAnyH_take (i := 6) (oi := _) (v := ?_) rfl (by kernel_rfl) (by kernel_rfl) (by kernel_rfl) (fun _ _ _ h => h) (Or.inl ⟨by rfl, ?_⟩) (by assumption) ?_
              rotate_left 1
              · (intro w hSw; (try dsimp only at hSw); (first | (go_simp; done) | (go_simp; with_reducible rfl)))
              try simp only [Act.put, List.getElem_toArray, List.getElem_cons_zero, List.getElem_cons_succ, List.setIfInBounds_toArray, List.set_cons_zero, List.set_cons_succ]
              refine wpAnyH_ready (rs := [5]) (by kernel_rfl) (by simp) ?_
              refine AllReadyH.cons (o := _) rfl (fun K hK => ?_) AllReadyH.nil
              go_simp
              (with_reducible refine Calls.mono (HTx.out _ HBa.out) ?_)
              rintro r wb ⟨rfl, hbb⟩
              have HBb := hide (HBa.out.trans (hbb.mono HBa.out.size))
              have b0 := (HBb.out.cell (p := ⟨w.heap.size + 1, 0, none⟩) hcl).trans c0
              have b1 := (HBb.out.cell (p := ⟨w.heap.size + 1, 1, none⟩) hcl).trans c1
              have HZ := hide (HXr.out.below HBb.out hrl)
              clear hbb HTx a0 a1
              (try go_wp2_with fail)
              refine hK.out _ _ ⟨b0, b1⟩ (fun hHeld => ?_)
              clear hK K
              try simp only [Act.put, List.getElem_toArray, List.getElem_cons_zero, List.getElem_cons_succ, List.setIfInBounds_toArray, List.set_cons_zero, List.set_cons_succ]
              refine wpAnyH_take (i := 7) (oi := _) (v := ?_) rfl (by kernel_rfl) (by kernel_rfl) (by kernel_rfl) (fun _ _ _ h => h) (Or.inl ⟨by rfl, ?_⟩) (by assumption) ?_
              rotate_left 1
              · (intro w hSw; (try dsimp only at hSw); (first | (go_simp; done) | (go_simp; with_reducible rfl)))
              try simp only [Act.put, List.getElem_toArray, List.getElem_cons_zero, List.getElem_cons_succ, List.setIfInBounds_toArray, List.set_cons_zero, List.set_cons_succ]
              refine wpAnyH_take (i := 8) (oi := _) (v := ?_) rfl (by kernel_rfl) (by kernel_rfl) (by kernel_rfl) (fun _ _ _ h => h) (Or.inl ⟨by rfl, ?_⟩) (by assumption) ?_
              rotate_left 1
              · (intro w hSw; (try dsimp only at hSw); (first | (go_simp; done) | (go_simp; with_reducible rfl)))
              try simp only [Act.put, List.getElem_toArray, List.getElem_cons_zero, List.getElem_cons_succ, List.setIfInBounds_toArray, List.set_cons_zero, List.set_cons_succ]
              have cl := HZ.out.c
              have fl := HZ.out.f
              refine wpAnyH_ready (rs := [9]) (by kernel_rfl) (by simp) ?_
              refine AllReadyH.cons (o := _) rfl (fun K hK => ?_) AllReadyH.nil
              have hzf := (HZ.out.set 0 (.int .i64 1)).set 1 (.int .i64 v)
              simp only [List.setIfInBounds_toArray, List.set_cons_zero, List.set_cons_succ] at hzf
              have HZf := hide hzf
              have HOt := hide (((Oth.refl (w.heap.size) wb).setCell 0 (.int .i64 1)).setCell 1 (.int .i64 v))
              have d0 := (HOt.out.cell' (a := ⟨w.heap.size + 1, 0, none⟩) (Nat.lt_of_lt_of_le hcl HBb.out.size) (by simp)).trans b0
              have d1 := (HOt.out.cell' (a := ⟨w.heap.size + 1, 1, none⟩) (Nat.lt_of_lt_of_le hcl HBb.out.size) (by simp)).trans b1
              clear hzf
              go_simp
              (try go_wp2_with fail)
              refine hK.out _ _ ⟨d0, d1⟩ (fun hHeld => ?_)
              clear hK K
              try simp only [Act.put, List.getElem_toArray, List.getElem_cons_zero, List.getElem_cons_succ, List.setIfInBounds_toArray, List.set_cons_zero, List.set_cons_succ]
              clear cl fl
              refine wpAnyH_take (i := 10) (oi := _) (v := ?_) rfl (by kernel_rfl) (by kernel_rfl) (by kernel_rfl) (fun _ _ _ h => h) (Or.inl ⟨by rfl, ?_⟩) (by assumption) ?_
              rotate_left 1
              · (intro w hSw; (try dsimp only at hSw); (first | (go_simp; done) | (go_simp; with_reducible rfl)))
              try simp only [Act.put, List.getElem_toArray, List.getElem_cons_zero, List.getElem_cons_succ, List.setIfInBounds_toArray, List.set_cons_zero, List.set_cons_succ]
              refine wpAnyH_done (by kernel_rfl) ?_ _
              refine NoPanic.normal ?_
              have r0 := HZf.out.c 0
              have r1 := HZf.out.c 1
              clear hHeld b0 b1 d0 d1 c0 c1
              go_wp2_with fail
              refine bodyPost_ret (v := .tuple #[.agg #[.int .i64 1, .int .i64 v], .bool false]) (by simp [results, Tryd.results19, go_sem, r0, r1]) rfl ⟨by rw [HC.out, HB2.out], ?_⟩
              exact (HBW.out.trans (HBb.out.mono HBW.out.size)).trans (HOt.out.below (by have := HBW.out.size; have := HBb.out.size; omega) (Nat.le_refl _))
          · rw [Bool.not_eq_true] at hg
            have HB2 : Hid (B = false) := hide (by rw [HB.out, HC.out, hg]; rfl)
            rw [hg] at HGC
            clear hg
            refine wp_region_noPanic ?_
            refine wp_region_held_drew (S := fun w' => w'.cell? ⟨w.heap.size + 1, 0, none⟩ = some (.int .i64 1) ∧ w'.cell? ⟨w.heap.size + 1, 1, none⟩ = some (.int .i64 v)) (by kernel_rfl) ⟨c0, c1⟩ (fun hHeld => ?_)
            refine wpAnyH_take (i := 0) (oi := _) (v := ?_) rfl (by kernel_rfl) (by kernel_rfl) (by kernel_rfl) (fun _ _ _ h => h) (Or.inl ⟨by rfl, ?_⟩) (by assumption) ?_
            rotate_left 1
            · (intro w hSw; (try dsimp only at hSw); (first | (go_simp; done) | (go_simp; with_reducible rfl)))
            try simp only [Act.put, List.getElem_toArray, List.getElem_cons_zero, List.getElem_cons_succ, List.setIfInBounds_toArray, List.set_cons_zero, List.set_cons_succ]
            refine wpAnyH_take (i := 1) (oi := _) (v := ?_) rfl (by kernel_rfl) (by kernel_rfl) (by kernel_rfl) (fun _ _ _ h => h) (Or.inl ⟨by rfl, ?_⟩) (by assumption) ?_
            rotate_left 1
            · (intro w hSw; (try dsimp only at hSw); (first | (go_simp; done) | (go_simp; with_reducible rfl)))
            try simp only [Act.put, List.getElem_toArray, List.getElem_cons_zero, List.getElem_cons_succ, List.setIfInBounds_toArray, List.set_cons_zero, List.set_cons_succ]
            refine wpAnyH_ready (rs := [2]) (by kernel_rfl) (by simp) ?_
            refine AllReadyH.cons (o := _) rfl (fun K hK => ?_) AllReadyH.nil
            go_simp
            (with_reducible refine Calls.mono HGC.out ?_)
            rintro r wa ⟨rfl, hba⟩
            have HBa := hide (HWd.out.trans (hba.mono HWd.out.size))
            have b0 := (HBa.out.cell (p := ⟨w.heap.size + 1, 0, none⟩) hcl).trans c0
            have b1 := (HBa.out.cell (p := ⟨w.heap.size + 1, 1, none⟩) hcl).trans c1
            have HZ := hide (HXr.out.below HBa.out hrl)
            clear hba HGC
            (try go_wp2_with fail)
            refine hK.out _ _ ⟨b0, b1⟩ (fun hHeld => ?_)
            clear hK K
            try simp only [Act.put, List.getElem_toArray, List.getElem_cons_zero, List.getElem_cons_succ, List.setIfInBounds_toArray, List.set_cons_zero, List.set_cons_succ]
            refine wpAnyH_take (i := 3) (oi := _) (v := ?_) rfl (by kernel_rfl) (by kernel_rfl) (by kernel_rfl) (fun _ _ _ h => h) (Or.inl ⟨by rfl, ?_⟩) (by assumption) ?_
            rotate_left 1
            · (intro w hSw; (try dsimp only at hSw); (first | (go_simp; done) | (go_simp; with_reducible rfl)))
            try simp only [Act.put, List.getElem_toArray, List.getElem_cons_zero, List.getElem_cons_succ, List.setIfInBounds_toArray, List.set_cons_zero, List.set_cons_succ]
            refine wpAnyH_take (i := 4) (oi := _) (v := undef) rfl (by kernel_rfl) (by kernel_rfl) (by kernel_rfl) (fun _ _ _ h => h) (Or.inr ⟨by rfl, rfl⟩) (by assumption) ?_
            try simp only [Act.put, List.getElem_toArray, List.getElem_cons_zero, List.getElem_cons_succ, List.setIfInBounds_toArray, List.set_cons_zero, List.set_cons_succ]
            refine wpAnyH_take (i := 5) (oi := _) (v := undef) rfl (by kernel_rfl) (by kernel_rfl) (by kernel_rfl) (fun _ _ _ h => h) (Or.inr ⟨by rfl, rfl⟩) (by assumption) ?_
            try simp only [Act.put, List.getElem_toArray, List.getElem_cons_zero, List.getElem_cons_succ, List.setIfInBounds_toArray, List.set_cons_zero, List.set_cons_succ]
            refine wpAnyH_take (i := 6) (oi := _) (v := undef) rfl (by kernel_rfl) (by kernel_rfl) (by kernel_rfl) (fun _ _ _ h => h) (Or.inr ⟨by rfl, rfl⟩) (by assumption) ?_
            try simp only [Act.put, List.getElem_toArray, List.getElem_cons_zero, List.getElem_cons_succ, List.setIfInBounds_toArray, List.set_cons_zero, List.set_cons_succ]
            refine wpAnyH_take (i := 7) (oi := _) (v := undef) rfl (by kernel_rfl) (by kernel_rfl) (by kernel_rfl) (fun _ _ _ h => h) (Or.inr ⟨by rfl, rfl⟩) (by assumption) ?_
            try simp only [Act.put, List.getElem_toArray, List.getElem_cons_zero, List.getElem_cons_succ, List.setIfInBounds_toArray, List.set_cons_zero, List.set_cons_succ]
            refine wpAnyH_take (i := 8) (oi := _) (v := ?_) rfl (by kernel_rfl) (by kernel_rfl) (by kernel_rfl) (fun _ _ _ h => h) (Or.inl ⟨by rfl, ?_⟩) (by assumption) ?_
            rotate_left 1
            · (intro w hSw; (try dsimp only at hSw); (first | (go_simp; done) | (go_simp; with_reducible rfl)))
            try simp only [Act.put, List.getElem_toArray, List.getElem_cons_zero, List.getElem_cons_succ, List.setIfInBounds_toArray, List.set_cons_zero, List.set_cons_succ]
            have cl := HZ.out.c
            have fl := HZ.out.f
            refine wpAnyH_ready (rs := [9]) (by kernel_rfl) (by simp) ?_
            refine AllReadyH.cons (o := _) rfl (fun K hK => ?_) AllReadyH.nil
            have hzf := (HZ.out.set 0 (.int .i64 1)).set 1 (.int .i64 v)
            simp only [List.setIfInBounds_toArray, List.set_cons_zero, List.set_cons_succ] at hzf
            have HZf := hide hzf
            have HOt := hide (((Oth.refl (w.heap.size) wa).setCell 0 (.int .i64 1)).setCell 1 (.int .i64 v))
            have d0 := (HOt.out.cell' (a := ⟨w.heap.size + 1, 0, none⟩) (Nat.lt_of_lt_of_le hcl HBa.out.size) (by simp)).trans b0
            have d1 := (HOt.out.cell' (a := ⟨w.heap.size + 1, 1, none⟩) (Nat.lt_of_lt_of_le hcl HBa.out.size) (by simp)).trans b1
            clear hzf
            go_simp
            (try go_wp2_with fail)
            refine hK.out _ _ ⟨d0, d1⟩ (fun hHeld => ?_)
            clear hK K
            try simp only [Act.put, List.getElem_toArray, List.getElem_cons_zero, List.getElem_cons_succ, List.setIfInBounds_toArray, List.set_cons_zero, List.set_cons_succ]
            clear cl fl
            refine wpAnyH_take (i := 10) (oi := _) (v := ?_) rfl (by kernel_rfl) (by kernel_rfl) (by kernel_rfl) (fun _ _ _ h => h) (Or.inl ⟨by rfl, ?_⟩) (by assumption) ?_
            rotate_left 1
            · (intro w hSw; (try dsimp only at hSw); (first | (go_simp; done) | (go_simp; with_reducible rfl)))
            try simp only [Act.put, List.getElem_toArray, List.getElem_cons_zero, List.getElem_cons_succ, List.setIfInBounds_toArray, List.set_cons_zero, List.set_cons_succ]
            refine wpAnyH_done (by kernel_rfl) ?_ _
            refine NoPanic.normal ?_
            have r0 := HZf.out.c 0
            have r1 := HZf.out.c 1
            clear hHeld b0 b1 d0 d1 c0 c1
            go_wp2_with fail
            refine bodyPost_ret (v := .tuple #[.agg #[.int .i64 1, .int .i64 v], .bool false]) (by simp [results, Tryd.results19, go_sem, r0, r1]) rfl ⟨by rw [HC.out, HB2.out], ?_⟩
            exact (HBW.out.trans (HBa.out.mono HBW.out.size)).trans (HOt.out.below (by have := HBW.out.size; have := HBa.out.size; omega) (Nat.le_refl _))
    · have HAt := hide hAt
      have HC : Hid (C = ⟨0, 0⟩) := hide (by
        rw [HPr.out]
        cases hq : Lib.atoiAll D.data.toList with
        | ok v => exact absurd hq (hv v)
        | «syntax» => rfl
        | range => rfl)
      clear hAt HAtoi hv
      rcases hsplit with hlt | ⟨hge, hne⟩
      · go_enter Tryd.func19, Tryd.ntmps19
        go_upto_region 11 with (first | (go_at_call 33; (with_reducible refine Calls.mono (HCut.out _) ?_); rintro e w3 ⟨rfl, hw⟩; obtain rfl := hw.symm; clear hw) | (go_at_call 34; (with_reducible refine Calls.mono (HIdx.out _ HV0.out) ?_); rintro e w3 ⟨rfl, hw⟩; obtain rfl := hw.symm; clear hw) | (go_at_call 35; (with_reducible refine Calls.mono HAt.out ?_); rintro e W1 ⟨n9, N9, rfl, hb⟩; have HBW1 := hide (HB0.out.trans (hb.mono HB0.out.size)); have HX1 := hide (HX0.out.below hb HX0.out.lt); have HR1 := hide (HR0.out.below hb HR0.out.lt); clear hb HB0 HX0 HR0))
        have HXc := HX1
        have HXr := HR1
        have HVw := hide (HVR.out.below HBW1.out)
        clear HX1 HR1 HCut HIdx HPr hA HAt
        have c0 : W1.cell? ⟨w.heap.size + 1, 0, none⟩ = some (.int .i64 0) := HXc.out.c 0
        have c1 : W1.cell? ⟨w.heap.size + 1, 1, none⟩ = some (.int .i64 0) := HXc.out.c 1
        have HWd : Hid (Below W1.heap.size W1 W1.drew) := hide (belowDrewR (Below.refl _ _))
        have hcl : w.heap.size + 1 < W1.heap.size := HXc.out.lt
        have hrl : w.heap.size < W1.heap.size := HXr.out.lt
        have HGC := hide (goodCell_any ⟨0, 0⟩ W1.drew)
        by_cases hg : goodC ⟨0, 0⟩ = true
        · have HGd := hide hg
          have HTx := hide (fun (w' : World) (hb : Below W1.heap.size W1 w') => cellText_any ⟨0, 0⟩ w' HGd.out ((HVw.out.below hb).tab))
          rw [hg] at HGC
          clear hg
          obtain ⟨he, HB2⟩ | ⟨he, HB2⟩ : ((((wd ⟨0, 0⟩).toList == x.toList) = true) ∧ Hid (B = true)) ∨ ((((wd ⟨0, 0⟩).toList == x.toList) = false) ∧ Hid (B = false)) := by
            rw [Lib.toList_data, Lib.toList_data, ← HLx.out]
            by_cases e : wdL ⟨0, 0⟩ = L
            · exact .inl ⟨beq_iff_eq.2 e, hide (by rw [HB.out, HC.out, HGd.out, decide_eq_true e]; rfl)⟩
            · exact .inr ⟨beq_eq_false_iff_ne.2 e, hide (by rw [HB.out, HC.out, HGd.out, decide_eq_false e]; rfl)⟩
          · refine wp_region_noPanic ?_
            refine wp_region_held_drew (S := fun w' => w'.cell? ⟨w.heap.size + 1, 0, none⟩ = some (.int .i64 0) ∧ w'.cell? ⟨w.heap.size + 1, 1, none⟩ = some (.int .i64 0)) (by kernel_rfl) ⟨c0, c1⟩ (fun hHeld => ?_)
            refine wpAnyH_take (i := 0) (oi := _) (v := ?_) rfl (by kernel_rfl) (by kernel_rfl) (by kernel_rfl) (fun _ _ _ h => h) (Or.inl ⟨by rfl, ?_⟩) (by assumption) ?_
            rotate_left 1
            · (intro w hSw; (try dsimp only at hSw); (first | (go_simp; done) | (go_simp; with_reducible rfl)))
            try simp only [Act.put, List.getElem_toArray, List.getElem_cons_zero, List.getElem_cons_succ, List.setIfInBounds_toArray, List.set_cons_zero, List.set_cons_succ]
            refine wpAnyH_take (i := 1) (oi := _) (v := ?_) rfl (by kernel_rfl) (by kernel_rfl) (by kernel_rfl) (fun _ _ _ h => h) (Or.inl ⟨by rfl, ?_⟩) (by assumption) ?_
            rotate_left 1
            · (intro w hSw; (try dsimp only at hSw); (first | (go_simp; done) | (go_simp; with_reducible rfl)))
            try simp only [Act.put, List.getElem_toArray, List.getElem_cons_zero, List.getElem_cons_succ, List.setIfInBounds_toArray, List.set_cons_zero, List.set_cons_succ]
            refine wpAnyH_ready (rs := [2]) (by kernel_rfl) (by simp) ?_
            refine AllReadyH.cons (o := _) rfl (fun K hK => ?_) AllReadyH.nil
            go_simp
            (with_reducible refine Calls.mono HGC.out ?_)
            rintro r wa ⟨rfl, hba⟩
            have HBa := hide (HWd.out.trans (hba.mono HWd.out.size))
            have a0 := (HBa.out.cell (p := ⟨w.heap.size + 1, 0, none⟩) hcl).trans c0
            have a1 := (HBa.out.cell (p := ⟨w.heap.size + 1, 1, none⟩) hcl).trans c1
            clear hba HGC
            (try go_wp2_with fail)
            refine hK.out _ _ ⟨a0, a1⟩ (fun hHeld => ?_)
            clear hK K
            try simp only [Act.put, List.getElem_toArray, List.getElem_cons_zero, List.getElem_cons_succ, List.setIfInBounds_toArray, List.set_cons_zero, List.set_cons_succ]
            refine wpAnyH_take (i := 3) (oi := _) (v := ?_) rfl (by kernel_rfl) (by kernel_rfl) (by kernel_rfl) (fun _ _ _ h => h) (Or.inl ⟨by rfl, ?_⟩) (by assumption) ?_
            rotate_left 1
            · (intro w hSw; (try dsimp only at hSw); (first | (go_simp; done) | (go_simp; with_reducible rfl)))
            try simp only [Act.put, List.getElem_toArray, List.getElem_cons_zero, List.getElem_cons_succ, List.setIfInBounds_toArray, List.set_cons_zero, List.set_cons_succ]
            refine wpAnyH_take (i := 4) (oi := _) (v := ?_) rfl (by kernel_rfl) (by kernel_rfl) (by kernel_rfl) (fun _ _ _ h => h) (Or.inl ⟨by rfl, ?_⟩) (by assumption) ?_
            rotate_left 1
            · (intro w hSw; (try dsimp only at hSw); (first | (go_simp; done) | (go_simp; with_reducible rfl)))
            try simp only [Act.put, List.getElem_toArray, List.getElem_cons_zero, List.getElem_cons_succ, List.setIfInBounds_toArray, List.set_cons_zero, List.set_cons_succ]
            refine wpAnyH_take (i := 6) (oi := _) (v := ?_) rfl (by kernel_rfl) (by kernel_rfl) (by kernel_rfl) (fun _ _ _ h => h) (Or.inl ⟨by rfl, ?_⟩) (by assumption) ?_
            rotate_left 1
            · (intro w hSw; (try dsimp only at hSw); (first | (go_simp; done) | (go_simp; with_reducible rfl)))
            try simp only [Act.put, List.getElem_toArray, List.getElem_cons_zero, List.getElem_cons_succ, List.setIfInBounds_toArray, List.set_cons_zero, List.set_cons_succ]
            refine wpAnyH_ready (rs := [5]) (by kernel_rfl) (by simp) ?_
            refine AllReadyH.cons (o := _) rfl (fun K hK => ?_) AllReadyH.nil
            go_simp
            (with_reducible refine Calls.mono (HTx.out _ HBa.out) ?_)
            rintro r wb ⟨rfl, hbb⟩
            have HBb := hide (HBa.out.trans (hbb.mono HBa.out.size))
            have b0 := (HBb.out.cell (p := ⟨w.heap.size + 1, 0, none⟩) hcl).trans c0
            have b1 := (HBb.out.cell (p := ⟨w.heap.size + 1, 1, none⟩) hcl).trans c1
            have HZ := hide (HXr.out.below HBb.out hrl)
            clear hbb HTx a0 a1
            (try go_wp2_with fail)
            refine hK.out _ _ ⟨b0, b1⟩ (fun hHeld => ?_)
            clear hK K
            try simp only [Act.put, List.getElem_toArray, List.getElem_cons_zero, List.getElem_cons_succ, List.setIfInBounds_toArray, List.set_cons_zero, List.set_cons_succ]
            refine wpAnyH_take (i := 7) (oi := _) (v := ?_) rfl (by kernel_rfl) (by kernel_rfl) (by kernel_rfl) (fun _ _ _ h => h) (Or.inl ⟨by rfl, ?_⟩) (by assumption) ?_
            rotate_left 1
            · (intro w hSw; (try dsimp only at hSw); (first | (go_simp; done) | (go_simp; with_reducible rfl)))
            try simp only [Act.put, List.getElem_toArray, List.getElem_cons_zero, List.getElem_cons_succ, List.setIfInBounds_toArray, List.set_cons_zero, List.set_cons_succ]
            refine wpAnyH_take (i := 8) (oi := _) (v := ?_) rfl (by kernel_rfl) (by kernel_rfl) (by kernel_rfl) (fun _ _ _ h => h) (Or.inl ⟨by rfl, ?_⟩) (by assumption) ?_
            rotate_left 1
            · (intro w hSw; (try dsimp only at hSw); (first | (go_simp; done) | (go_simp; with_reducible rfl)))
            try simp only [Act.put, List.getElem_toArray, List.getElem_cons_zero, List.getElem_cons_succ, List.setIfInBounds_toArray, List.set_cons_zero, List.set_cons_succ]
            have cl := HZ.out.c
            have fl := HZ.out.f
            refine wpAnyH_ready (rs := [9]) (by kernel_rfl) (by simp) ?_
            refine AllReadyH.cons (o := _) rfl (fun K hK => ?_) AllReadyH.nil
            have hzf := (HZ.out.set 0 (.int .i64 0)).set 1 (.int .i64 0)
            simp only [List.setIfInBounds_toArray, List.set_cons_zero, List.set_cons_succ] at hzf
            have HZf := hide hzf
            have HOt := hide (((Oth.refl (w.heap.size) wb).setCell 0 (.int .i64 0)).setCell 1 (.int .i64 0))
            have d0 := (HOt.out.cell' (a := ⟨w.heap.size + 1, 0, none⟩) (Nat.lt_of_lt_of_le hcl HBb.out.size) (by simp)).trans b0
            have d1 := (HOt.out.cell' (a := ⟨w.heap.size + 1, 1, none⟩) (Nat.lt_of_lt_of_le hcl HBb.out.size) (by simp)).trans b1
            clear hzf
            go_simp
            (try go_wp2_with fail)
            refine hK.out _ _ ⟨d0, d1⟩ (fun hHeld => ?_)
            clear hK K
            try simp only [Act.put, List.getElem_toArray, List.getElem_cons_zero, List.getElem_cons_succ, List.setIfInBounds_toArray, List.set_cons_zero, List.set_cons_succ]
            clear cl fl
            refine wpAnyH_take (i := 10) (oi := _) (v := ?_) rfl (by kernel_rfl) (by kernel_rfl) (by kernel_rfl) (fun _ _ _ h => h) (Or.inl ⟨by rfl, ?_⟩) (by assumption) ?_
            rotate_left 1
            · (intro w hSw; (try dsimp only at hSw); (first | (go_simp; done) | (go_simp; with_reducible rfl)))
            try simp only [Act.put, List.getElem_toArray, List.getElem_cons_zero, List.getElem_cons_succ, List.setIfInBounds_toArray, List.set_cons_zero, List.set_cons_succ]
            refine wpAnyH_done (by kernel_rfl) ?_ _
            refine NoPanic.normal ?_
            have r0 := HZf.out.c 0
            have r1 := HZf.out.c 1
            clear hHeld b0 b1 d0 d1 c0 c1
            go_wp2_with fail
            refine bodyPost_ret (v := .tuple #[.agg #[.int .i64 0, .int .i64 0], .bool true]) (by simp [results, Tryd.results19, go_sem, r0, r1]) rfl ⟨by rw [HC.out, HB2.out], ?_⟩
            exact (HBW1.out.trans (HBb.out.mono HBW1.out.size)).trans (HOt.out.below (by have := HBW1.out.size; have := HBb.out.size; omega) (Nat.le_refl _))
          · refine wp_region_noPanic ?_
            refine wp_region_held_drew (S := fun w' => w'.cell? ⟨w.heap.size + 1, 0, none⟩ = some (.int .i64 0) ∧ w'.cell? ⟨w.heap.size + 1, 1, none⟩ = some (.int .i64 0)) (by kernel_rfl) ⟨c0, c1⟩ (fun hHeld => ?_)
            refine wpAnyH_take (i := 0) (oi := _) (v := ?_) rfl (by kernel_rfl) (by kernel_rfl) (by kernel_rfl) (fun _ _ _ h => h) (Or.inl ⟨by rfl, ?_⟩) (by assumption) ?_
            rotate_left 1
            · (intro w hSw; (try dsimp only at hSw); (first | (go_simp; done) | (go_simp; with_reducible rfl)))
            try simp only [Act.put, List.getElem_toArray, List.getElem_cons_zero, List.getElem_cons_succ, List.setIfInBounds_toArray, List.set_cons_zero, List.set_cons_succ]
            refine wpAnyH_take (i := 1) (oi := _) (v := ?_) rfl (by kernel_rfl) (by kernel_rfl) (by kernel_rfl) (fun _ _ _ h => h) (Or.inl ⟨by rfl, ?_⟩) (by assumption) ?_
            rotate_left 1
            · (intro w hSw; (try dsimp only at hSw); (first | (go_simp; done) | (go_simp; with_reducible rfl)))
            try simp only [Act.put, List.getElem_toArray, List.getElem_cons_zero, List.getElem_cons_succ, List.setIfInBounds_toArray, List.set_cons_zero, List.set_cons_succ]
            refine wpAnyH_ready (rs := [2]) (by kernel_rfl) (by simp) ?_
            refine AllReadyH.cons (o := _) rfl (fun K hK => ?_) AllReadyH.nil
            go_simp
            (with_reducible refine Calls.mono HGC.out ?_)
            rintro r wa ⟨rfl, hba⟩
            have HBa := hide (HWd.out.trans (hba.mono HWd.out.size))
            have a0 := (HBa.out.cell (p := ⟨w.heap.size + 1, 0, none⟩) hcl).trans c0
            have a1 := (HBa.out.cell (p := ⟨w.heap.size + 1, 1, none⟩) hcl).trans c1
            clear hba HGC
            (try go_wp2_with fail)
            refine hK.out _ _ ⟨a0, a1⟩ (fun hHeld => ?_)
            clear hK K
            try simp only [Act.put, List.getElem_toArray, List.getElem_cons_zero, List.getElem_cons_succ, List.setIfInBounds_toArray, List.set_cons_zero, List.set_cons_succ]
            refine wpAnyH_take (i := 3) (oi := _) (v := ?_) rfl (by kernel_rfl) (by kernel_rfl) (by kernel_rfl) (fun _ _ _ h => h) (Or.inl ⟨by rfl, ?_⟩) (by assumption) ?_
            rotate_left 1
            · (intro w hSw; (try dsimp only at hSw); (first | (go_simp; done) | (go_simp; with_reducible rfl)))
            try simp only [Act.put, List.getElem_toArray, List.getElem_cons_zero, List.getElem_cons_succ, List.setIfInBounds_toArray, List.set_cons_zero, List.set_cons_succ]
            refine wpAnyH_take (i := 4) (oi := _) (v := ?_) rfl (by kernel_rfl) (by kernel_rfl) (by kernel_rfl) (fun _ _ _ h => h) (Or.inl ⟨by rfl, ?_⟩) (by assumption) ?_
            rotate_left 1
            · (intro w hSw; (try dsimp only at hSw); (first | (go_simp; done) | (go_simp; with_reducible rfl)))
            try simp only [Act.put, List.getElem_toArray, List.getElem_cons_zero, List.getElem_cons_succ, List.setIfInBounds_toArray, List.set_cons_zero, List.set_cons_succ]
            refine wpAnyH_take (i := 6) (oi := _) (v := ?_) rfl (by kernel_rfl) (by kernel_rfl) (by kernel_rfl) (fun _ _ _ h => h) (Or.inl ⟨by rfl, ?_⟩) (by assumption) ?_
            rotate_left 1
            · (intro w hSw; (try dsimp only at hSw); (first | (go_simp; done) | (go_simp; with_reducible rfl)))
            try simp only [Act.put, List.getElem_toArray, List.getElem_cons_zero, List.getElem_cons_succ, List.setIfInBounds_toArray, List.set_cons_zero, List.set_cons_succ]
            refine wpAnyH_ready (rs := [5]) (by kernel_rfl) (by simp) ?_
            refine AllReadyH.cons (o := _) rfl (fun K hK => ?_) AllReadyH.nil
            go_simp
            (with_reducible refine Calls.mono (HTx.out _ HBa.out) ?_)
            rintro r wb ⟨rfl, hbb⟩
            have HBb := hide (HBa.out.trans (hbb.mono HBa.out.size))
            have b0 := (HBb.out.cell (p := ⟨w.heap.size + 1, 0, none⟩) hcl).trans c0
            have b1 := (HBb.out.cell (p := ⟨w.heap.size + 1, 1, none⟩) hcl).trans c1
            have HZ := hide (HXr.out.below HBb.out hrl)
            clear hbb HTx a0 a1
            (try go_wp2_with fail)
            refine hK.out _ _ ⟨b0, b1⟩ (fun hHeld => ?_)
            clear hK K
            try simp only [Act.put, List.getElem_toArray, List.getElem_cons_zero, List.getElem_cons_succ, List.setIfInBounds_toArray, List.set_cons_zero, List.set_cons_succ]
            refine wpAnyH_take (i := 7) (oi := _) (v := ?_) rfl (by kernel_rfl) (by kernel_rfl) (by kernel_rfl) (fun _ _ _ h => h) (Or.inl ⟨by rfl, ?_⟩) (by assumption) ?_
            rotate_left 1
            · (intro w hSw; (try dsimp only at hSw); (first | (go_simp; done) | (go_simp; with_reducible rfl)))
            try simp only [Act.put, List.getElem_toArray, List.getElem_cons_zero, List.getElem_cons_succ, List.setIfInBounds_toArray, List.set_cons_zero, List.set_cons_succ]
            refine wpAnyH_take (i := 8) (oi := _) (v := ?_) rfl (by kernel_rfl) (by kernel_rfl) (by kernel_rfl) (fun _ _ _ h => h) (Or.inl ⟨by rfl, ?_⟩) (by assumption) ?_
            rotate_left 1
            · (intro w hSw; (try dsimp only at hSw); (first | (go_simp; done) | (go_simp; with_reducible rfl)))
            try simp only [Act.put, List.getElem_toArray, List.getElem_cons_zero, List.getElem_cons_succ, List.setIfInBounds_toArray, List.set_cons_zero, List.set_cons_succ]
            have cl := HZ.out.c
            have fl := HZ.out.f
            refine wpAnyH_ready (rs := [9]) (by kernel_rfl) (by simp) ?_
            refine AllReadyH.cons (o := _) rfl (fun K hK => ?_) AllReadyH.nil
            have hzf := (HZ.out.set 0 (.int .i64 0)).set 1 (.int .i64 0)
            simp only [List.setIfInBounds_toArray, List.set_cons_zero, List.set_cons_succ] at hzf
            have HZf := hide hzf
            have HOt := hide (((Oth.refl (w.heap.size) wb).setCell 0 (.int .i64 0)).setCell 1 (.int .i64 0))
            have d0 := (HOt.out.cell' (a := ⟨w.heap.size + 1, 0, none⟩) (Nat.lt_of_lt_of_le hcl HBb.out.size) (by simp)).trans b0
            have d1 := (HOt.out.cell' (a := ⟨w.heap.size + 1, 1, none⟩) (Nat.lt_of_lt_of_le hcl HBb.out.size) (by simp)).trans b1
            clear hzf
            go_simp
            (try go_wp2_with fail)
            refine hK.out _ _ ⟨d0, d1⟩ (fun hHeld => ?_)
            clear hK K
            try simp only [Act.put, List.getElem_toArray, List.getElem_cons_zero, List.getElem_cons_succ, List.setIfInBounds_toArray, List.set_cons_zero, List.set_cons_succ]
            clear cl fl
            refine wpAnyH_take (i := 10) (oi := _) (v := ?_) rfl (by kernel_rfl) (by kernel_rfl) (by kernel_rfl) (fun _ _ _ h => h) (Or.inl ⟨by rfl, ?_⟩) (by assumption) ?_
            rotate_left 1
            · (intro w hSw; (try dsimp only at hSw); (first | (go_simp; done) | (go_simp; with_reducible rfl)))
            try simp only [Act.put, List.getElem_toArray, List.getElem_cons_zero, List.getElem_cons_succ, List.setIfInBounds_toArray, List.set_cons_zero, List.set_cons_succ]
            refine wpAnyH_done (by kernel_rfl) ?_ _
            refine NoPanic.normal ?_
            have r0 := HZf.out.c 0
            have r1 := HZf.out.c 1
            clear hHeld b0 b1 d0 d1 c0 c1
            go_wp2_with fail
            refine bodyPost_ret (v := .tuple #[.agg #[.int .i64 0, .int .i64 0], .bool false]) (by simp [results, Tryd.results19, go_sem, r0, r1]) rfl ⟨by rw [HC.out, HB2.out], ?_⟩
            exact (HBW1.out.trans (HBb.out.mono HBW1.out.size)).trans (HOt.out.below (by have := HBW1.out.size; have := HBb.out.size; omega) (Nat.le_refl _))
        · rw [Bool.not_eq_true] at hg
          have HB2 : Hid (B = false) := hide (by rw [HB.out, HC.out, hg]; rfl)
          rw [hg] at HGC
          clear hg
          refine wp_region_noPanic ?_
          refine wp_region_held_drew (S := fun w' => w'.cell? ⟨w.heap.size + 1, 0, none⟩ = some (.int .i64 0) ∧ w'.cell? ⟨w.heap.size + 1, 1, none⟩ = some (.int .i64 0)) (by kernel_rfl) ⟨c0, c1⟩ (fun hHeld => ?_)
          refine wpAnyH_take (i := 0) (oi := _) (v := ?_) rfl (by kernel_rfl) (by kernel_rfl) (by kernel_rfl) (fun _ _ _ h => h) (Or.inl ⟨by rfl, ?_⟩) (by assumption) ?_
          rotate_left 1
          · (intro w hSw; (try dsimp only at hSw); (first | (go_simp; done) | (go_simp; with_reducible rfl)))
          try simp only [Act.put, List.getElem_toArray, List.getElem_cons_zero, List.getElem_cons_succ, List.setIfInBounds_toArray, List.set_cons_zero, List.set_cons_succ]
          refine wpAnyH_take (i := 1) (oi := _) (v := ?_) rfl (by kernel_rfl) (by kernel_rfl) (by kernel_rfl) (fun _ _ _ h => h) (Or.inl ⟨by rfl, ?_⟩) (by assumption) ?_
          rotate_left 1
          · (intro w hSw; (try dsimp only at hSw); (first | (go_simp; done) | (go_simp; with_reducible rfl)))
          try simp only [Act.put, List.getElem_toArray, List.getElem_cons_zero, List.getElem_cons_succ, List.setIfInBounds_toArray, List.set_cons_zero, List.set_cons_succ]
          refine wpAnyH_ready (rs := [2]) (by kernel_rfl) (by simp) ?_
          refine AllReadyH.cons (o := _) rfl (fun K hK => ?_) AllReadyH.nil
          go_simp
          (with_reducible refine Calls.mono HGC.out ?_)
          rintro r wa ⟨rfl, hba⟩
          have HBa := hide (HWd.out.trans (hba.mono HWd.out.size))
          have b0 := (HBa.out.cell (p := ⟨w.heap.size + 1, 0, none⟩) hcl).trans c0
          have b1 := (HBa.out.cell (p := ⟨w.heap.size + 1, 1, none⟩) hcl).trans c1
          have HZ := hide (HXr.out.below HBa.out hrl)
          clear hba HGC
          (try go_wp2_with fail)
          refine hK.out _ _ ⟨b0, b1⟩ (fun hHeld => ?_)
          clear hK K
          try simp only [Act.put, List.getElem_toArray, List.getElem_cons_zero, List.getElem_cons_succ, List.setIfInBounds_toArray, List.set_cons_zero, List.set_cons_succ]
          refine wpAnyH_take (i := 3) (oi := _) (v := ?_) rfl (by kernel_rfl) (by kernel_rfl) (by kernel_rfl) (fun _ _ _ h => h) (Or.inl ⟨by rfl, ?_⟩) (by assumption) ?_
          rotate_left 1
          · (intro w hSw; (try dsimp only at hSw); (first | (go_simp; done) | (go_simp; with_reducible rfl)))
          try simp only [Act.put, List.getElem_toArray, List.getElem_cons_zero, List.getElem_cons_succ, List.setIfInBounds_toArray, List.set_cons_zero, List.set_cons_succ]
          refine wpAnyH_take (i := 4) (oi := _) (v := undef) rfl (by kernel_rfl) (by kernel_rfl) (by kernel_rfl) (fun _ _ _ h => h) (Or.inr ⟨by rfl, rfl⟩) (by assumption) ?_
          try simp only [Act.put, List.getElem_toArray, List.getElem_cons_zero, List.getElem_cons_succ, List.setIfInBounds_toArray, List.set_cons_zero, List.set_cons_succ]
          refine wpAnyH_take (i := 5) (oi := _) (v := undef) rfl (by kernel_rfl) (by kernel_rfl) (by kernel_rfl) (fun _ _ _ h => h) (Or.inr ⟨by rfl, rfl⟩) (by assumption) ?_
          try simp only [Act.put, List.getElem_toArray, List.getElem_cons_zero, List.getElem_cons_succ, List.setIfInBounds_toArray, List.set_cons_zero, List.set_cons_succ]
          refine wpAnyH_take (i := 6) (oi := _) (v := undef) rfl (by kernel_rfl) (by kernel_rfl) (by kernel_rfl) (fun _ _ _ h => h) (Or.inr ⟨by rfl, rfl⟩) (by assumption) ?_
          try simp only [Act.put, List.getElem_toArray, List.getElem_cons_zero, List.getElem_cons_succ, List.setIfInBounds_toArray, List.set_cons_zero, List.set_cons_succ]
          refine wpAnyH_take (i := 7) (oi := _) (v := undef) rfl (by kernel_rfl) (by kernel_rfl) (by kernel_rfl) (fun _ _ _ h => h) (Or.inr ⟨by rfl, rfl⟩) (by assumption) ?_
          try simp only [Act.put, List.getElem_toArray, List.getElem_cons_zero, List.getElem_cons_succ, List.setIfInBounds_toArray, List.set_cons_zero, List.set_cons_succ]
          refine wpAnyH_take (i := 8) (oi := _) (v := ?_) rfl (by kernel_rfl) (by kernel_rfl) (by kernel_rfl) (fun _ _ _ h => h) (Or.inl ⟨by rfl, ?_⟩) (by assumption) ?_
          rotate_left 1
          · (intro w hSw; (try dsimp only at hSw); (first | (go_simp; done) | (go_simp; with_reducible rfl)))
          try simp only [Act.put, List.getElem_toArray, List.getElem_cons_zero, List.getElem_cons_succ, List.setIfInBounds_toArray, List.set_cons_zero, List.set_cons_succ]
          have cl := HZ.out.c
          have fl := HZ.out.f
          refine wpAnyH_ready (rs := [9]) (by kernel_rfl) (by simp) ?_
          refine AllReadyH.cons (o := _) rfl (fun K hK => ?_) AllReadyH.nil
          have hzf := (HZ.out.set 0 (.int .i64 0)).set 1 (.int .i64 0)
          simp only [List.setIfInBounds_toArray, List.set_cons_zero, List.set_cons_succ] at hzf
          have HZf := hide hzf
          have HOt := hide (((Oth.refl (w.heap.size) wa).setCell 0 (.int .i64 0)).setCell 1 (.int .i64 0))
          have d0 := (HOt.out.cell' (a := ⟨w.heap.size + 1, 0, none⟩) (Nat.lt_of_lt_of_le hcl HBa.out.size) (by simp)).trans b0
          have d1 := (HOt.out.cell' (a := ⟨w.heap.size + 1, 1, none⟩) (Nat.lt_of_lt_of_le hcl HBa.out.size) (by simp)).trans b1
          clear hzf
          go_simp
          (try go_wp2_with fail)
          refine hK.out _ _ ⟨d0, d1⟩ (fun hHeld => ?_)
          clear hK K
          try simp only [Act.put, List.getElem_toArray, List.getElem_cons_zero, List.getElem_cons_succ, List.setIfInBounds_toArray, List.set_cons_zero, List.set_cons_succ]
          clear cl fl
          refine wpAnyH_take (i := 10) (oi := _) (v := ?_) rfl (by kernel_rfl) (by kernel_rfl) (by kernel_rfl) (fun _ _ _ h => h) (Or.inl ⟨by rfl, ?_⟩) (by assumption) ?_
          rotate_left 1
          · (intro w hSw; (try dsimp only at hSw); (first | (go_simp; done) | (go_simp; with_reducible rfl)))
          try simp only [Act.put, List.getElem_toArray, List.getElem_cons_zero, List.getElem_cons_succ, List.setIfInBounds_toArray, List.set_cons_zero, List.set_cons_succ]
          refine wpAnyH_done (by kernel_rfl) ?_ _
          refine NoPanic.normal ?_
          have r0 := HZf.out.c 0
          have r1 := HZf.out.c 1
          clear hHeld b0 b1 d0 d1 c0 c1
          go_wp2_with fail
          refine bodyPost_ret (v := .tuple #[.agg #[.int .i64 0, .int .i64 0], .bool false]) (by simp [results, Tryd.results19, go_sem, r0, r1]) rfl ⟨by rw [HC.out, HB2.out], ?_⟩
          exact (HBW1.out.trans (HBa.out.mono HBW1.out.size)).trans (HOt.out.below (by have := HBW1.out.size; have := HBa.out.size; omega) (Nat.le_refl _))
      · go_enter Tryd.func19, Tryd.ntmps19
        go_upto_region 11 with (first | (go_at_call 33; (with_reducible refine Calls.mono (HCut.out _) ?_); rintro e w3 ⟨rfl, hw⟩; obtain rfl := hw.symm; clear hw) | (go_at_call 34; (with_reducible refine Calls.mono (HIdx.out _ HV0.out) ?_); rintro e w3 ⟨rfl, hw⟩; obtain rfl := hw.symm; clear hw) | (go_at_call 35; (with_reducible refine Calls.mono HAt.out ?_); rintro e W1 ⟨n9, N9, rfl, hb⟩; have HBW1 := hide (HB0.out.trans (hb.mono HB0.out.size)); have HX1 := hide (HX0.out.below hb HX0.out.lt); have HR1 := hide (HR0.out.below hb HR0.out.lt); clear hb HB0 HX0 HR0))
        have HXc := HX1
        have HXr := HR1
        have HVw := hide (HVR.out.below HBW1.out)
        clear HX1 HR1 HCut HIdx HPr hA HAt
        have c0 : W1.cell? ⟨w.heap.size + 1, 0, none⟩ = some (.int .i64 0) := HXc.out.c 0
        have c1 : W1.cell? ⟨w.heap.size + 1, 1, none⟩ = some (.int .i64 0) := HXc.out.c 1
        have HWd : Hid (Below W1.heap.size W1 W1.drew) := hide (belowDrewR (Below.refl _ _))
        have hcl : w.heap.size + 1 < W1.heap.size := HXc.out.lt
        have hrl : w.heap.size < W1.heap.size := HXr.out.lt
        have HGC := hide (goodCell_any ⟨0, 0⟩ W1.drew)
        by_cases hg : goodC ⟨0, 0⟩ = true
        · have HGd := hide hg
          have HTx := hide (fun (w' : World) (hb : Below W1.heap.size W1 w') => cellText_any ⟨0, 0⟩ w' HGd.out ((HVw.out.below hb).tab))
          rw [hg] at HGC
          clear hg
          obtain ⟨he, HB2⟩ | ⟨he, HB2⟩ : ((((wd ⟨0, 0⟩).toList == x.toList) = true) ∧ Hid (B = true)) ∨ ((((wd ⟨0, 0⟩).toList == x.toList) = false) ∧ Hid (B = false)) := by
            rw [Lib.toList_data, Lib.toList_data, ← HLx.out]
            by_cases e : wdL ⟨0, 0⟩ = L
            · exact .inl ⟨beq_iff_eq.2 e, hide (by rw [HB.out, HC.out, HGd.out, decide_eq_true e]; rfl)⟩
            · exact .inr ⟨beq_eq_false_iff_ne.2 e, hide (by rw [HB.out, HC.out, HGd.out, decide_eq_false e]; rfl)⟩
          · refine wp_region_noPanic ?_
            refine wp_region_held_drew (S := fun w' => w'.cell? ⟨w.heap.size + 1, 0, none⟩ = some (.int .i64 0) ∧ w'.cell? ⟨w.heap.size + 1, 1, none⟩ = some (.int .i64 0)) (by kernel_rfl) ⟨c0, c1⟩ (fun hHeld => ?_)
            refine wpAnyH_take (i := 0) (oi := _) (v := ?_) rfl (by kernel_rfl) (by kernel_rfl) (by kernel_rfl) (fun _ _ _ h => h) (Or.inl ⟨by rfl, ?_⟩) (by assumption) ?_
            rotate_left 1
            · (intro w hSw; (try dsimp only at hSw); (first | (go_simp; done) | (go_simp; with_reducible rfl)))
            try simp only [Act.put, List.getElem_toArray, List.getElem_cons_zero, List.getElem_cons_succ, List.setIfInBounds_toArray, List.set_cons_zero, List.set_cons_succ]
            refine wpAnyH_take (i := 1) (oi := _) (v := ?_) rfl (by kernel_rfl) (by kernel_rfl) (by kernel_rfl) (fun _ _ _ h => h) (Or.inl ⟨by rfl, ?_⟩) (by assumption) ?_
            rotate_left 1
            · (intro w hSw; (try dsimp only at hSw); (first | (go_simp; done) | (go_simp; with_reducible rfl)))
            try simp only [Act.put, List.getElem_toArray, List.getElem_cons_zero, List.getElem_cons_succ, List.setIfInBounds_toArray, List.set_cons_zero, List.set_cons_succ]
            refine wpAnyH_ready (rs := [2]) (by kernel_rfl) (by simp) ?_
            refine AllReadyH.cons (o := _) rfl (fun K hK => ?_) AllReadyH.nil
            go_simp
            (with_reducible refine Calls.mono HGC.out ?_)
            rintro r wa ⟨rfl, hba⟩
            have HBa := hide (HWd.out.trans (hba.mono HWd.out.size))
            have a0 := (HBa.out.cell (p := ⟨w.heap.size + 1, 0, none⟩) hcl).trans c0
            have a1 := (HBa.out.cell (p := ⟨w.heap.size + 1, 1, none⟩) hcl).trans c1
            clear hba HGC
            (try go_wp2_with fail)
            refine hK.out _ _ ⟨a0, a1⟩ (fun hHeld => ?_)
            clear hK K
            try simp only [Act.put, List.getElem_toArray, List.getElem_cons_zero, List.getElem_cons_succ, List.setIfInBounds_toArray, List.set_cons_zero, List.set_cons_succ]
            refine wpAnyH_take (i := 3) (oi := _) (v := ?_) rfl (by kernel_rfl) (by kernel_rfl) (by kernel_rfl) (fun _ _ _ h => h) (Or.inl ⟨by rfl, ?_⟩) (by assumption) ?_
            rotate_left 1
            · (intro w hSw; (try dsimp only at hSw); (first | (go_simp; done) | (go_simp; with_reducible rfl)))
            try simp only [Act.put, List.getElem_toArray, List.getElem_cons_zero, List.getElem_cons_succ, List.setIfInBounds_toArray, List.set_cons_zero, List.set_cons_succ]
            refine wpAnyH_take (i := 4) (oi := _) (v := ?_) rfl (by kernel_rfl) (by kernel_rfl) (by kernel_rfl) (fun _ _ _ h => h) (Or.inl ⟨by rfl, ?_⟩) (by assumption) ?_
            rotate_left 1
            · (intro w hSw; (try dsimp only at hSw); (first | (go_simp; done) | (go_simp; with_reducible rfl)))
            try simp only [Act.put, List.getElem_toArray, List.getElem_cons_zero, List.getElem_cons_succ, List.setIfInBounds_toArray, List.set_cons_zero, List.set_cons_succ]
            refine wpAnyH_take (i := 6) (oi := _) (v := ?_) rfl (by kernel_rfl) (by kernel_rfl) (by kernel_rfl) (fun _ _ _ h => h) (Or.inl ⟨by rfl, ?_⟩) (by assumption) ?_
            rotate_left 1
            · (intro w hSw; (try dsimp only at hSw); (first | (go_simp; done) | (go_simp; with_reducible rfl)))
            try simp only [Act.put, List.getElem_toArray, List.getElem_cons_zero, List.getElem_cons_succ, List.setIfInBounds_toArray, List.set_cons_zero, List.set_cons_succ]
            refine wpAnyH_ready (rs := [5]) (by kernel_rfl) (by simp) ?_
            refine AllReadyH.cons (o := _) rfl (fun K hK => ?_) AllReadyH.nil
            go_simp
            (with_reducible refine Calls.mono (HTx.out _ HBa.out) ?_)
            rintro r wb ⟨rfl, hbb⟩
            have HBb := hide (HBa.out.trans (hbb.mono HBa.out.size))
            have b0 := (HBb.out.cell (p := ⟨w.heap.size + 1, 0, none⟩) hcl).trans c0
            have b1 := (HBb.out.cell (p := ⟨w.heap.size + 1, 1, none⟩) hcl).trans c1
            have HZ := hide (HXr.out.below HBb.out hrl)
            clear hbb HTx a0 a1
            (try go_wp2_with fail)
            refine hK.out _ _ ⟨b0, b1⟩ (fun hHeld => ?_)
            clear hK K
            try simp only [Act.put, List.getElem_toArray, List.getElem_cons_zero, List.getElem_cons_succ, List.setIfInBounds_toArray, List.set_cons_zero, List.set_cons_succ]
            refine wpAnyH_take (i := 7) (oi := _) (v := ?_) rfl (by kernel_rfl) (by kernel_rfl) (by kernel_rfl) (fun _ _ _ h => h) (Or.inl ⟨by rfl, ?_⟩) (by assumption) ?_
            rotate_left 1
            · (intro w hSw; (try dsimp only at hSw); (first | (go_simp; done) | (go_simp; with_reducible rfl)))
            try simp only [Act.put, List.getElem_toArray, List.getElem_cons_zero, List.getElem_cons_succ, List.setIfInBounds_toArray, List.set_cons_zero, List.set_cons_succ]
            refine wpAnyH_take (i := 8) (oi := _) (v := ?_) rfl (by kernel_rfl) (by kernel_rfl) (by kernel_rfl) (fun _ _ _ h => h) (Or.inl ⟨by rfl, ?_⟩) (by assumption) ?_
            rotate_left 1
            · (intro w hSw; (try dsimp only at hSw); (first | (go_simp; done) | (go_simp; with_reducible rfl)))
            try simp only [Act.put, List.getElem_toArray, List.getElem_cons_zero, List.getElem_cons_succ, List.setIfInBounds_toArray, List.set_cons_zero, List.set_cons_succ]
            have cl := HZ.out.c
            have fl := HZ.out.f
            refine wpAnyH_ready (rs := [9]) (by kernel_rfl) (by simp) ?_
            refine AllReadyH.cons (o := _) rfl (fun K hK => ?_) AllReadyH.nil
            have hzf := (HZ.out.set 0 (.int .i64 0)).set 1 (.int .i64 0)
            simp only [List.setIfInBounds_toArray, List.set_cons_zero, List.set_cons_succ] at hzf
            have HZf := hide hzf
            have HOt := hide (((Oth.refl (w.heap.size) wb).setCell 0 (.int .i64 0)).setCell 1 (.int .i64 0))
            have d0 := (HOt.out.cell' (a := ⟨w.heap.size + 1, 0, none⟩) (Nat.lt_of_lt_of_le hcl HBb.out.size) (by simp)).trans b0
            have d1 := (HOt.out.cell' (a := ⟨w.heap.size + 1, 1, none⟩) (Nat.lt_of_lt_of_le hcl HBb.out.size) (by simp)).trans b1
            clear hzf
            go_simp
            (try go_wp2_with fail)
            refine hK.out _ _ ⟨d0, d1⟩ (fun hHeld => ?_)
            clear hK K
            try simp only [Act.put, List.getElem_toArray, List.getElem_cons_zero, List.getElem_cons_succ, List.setIfInBounds_toArray, List.set_cons_zero, List.set_cons_succ]
            clear cl fl
            refine wpAnyH_take (i := 10) (oi := _) (v := ?_) rfl (by kernel_rfl) (by kernel_rfl) (by kernel_rfl) (fun _ _ _ h => h) (Or.inl ⟨by rfl, ?_⟩) (by assumption) ?_
            rotate_left 1
            · (intro w hSw; (try dsimp only at hSw); (first | (go_simp; done) | (go_simp; with_reducible rfl)))
            try simp only [Act.put, List.getElem_toArray, List.getElem_cons_zero, List.getElem_cons_succ, List.setIfInBounds_toArray, List.set_cons_zero, List.set_cons_succ]
            refine wpAnyH_done (by kernel_rfl) ?_ _
            refine NoPanic.normal ?_
            have r0 := HZf.out.c 0
            have r1 := HZf.out.c 1
            clear hHeld b0 b1 d0 d1 c0 c1
            go_wp2_with fail
            refine bodyPost_ret (v := .tuple #[.agg #[.int .i64 0, .int .i64 0], .bool true]) (by simp [results, Tryd.results19, go_sem, r0, r1]) rfl ⟨by rw [HC.out, HB2.out], ?_⟩
            exact (HBW1.out.trans (HBb.out.mono HBW1.out.size)).trans (HOt.out.below (by have := HBW1.out.size; have := HBb.out.size; omega) (Nat.le_refl _))
          · refine wp_region_noPanic ?_
            refine wp_region_held_drew (S := fun w' => w'.cell? ⟨w.heap.size + 1, 0, none⟩ = some (.int .i64 0) ∧ w'.cell? ⟨w.heap.size + 1, 1, none⟩ = some (.int .i64 0)) (by kernel_rfl) ⟨c0, c1⟩ (fun hHeld => ?_)
            refine wpAnyH_take (i := 0) (oi := _) (v := ?_) rfl (by kernel_rfl) (by kernel_rfl) (by kernel_rfl) (fun _ _ _ h => h) (Or.inl ⟨by rfl, ?_⟩) (by assumption) ?_
            rotate_left 1
            · (intro w hSw; (try dsimp only at hSw); (first | (go_simp; done) | (go_simp; with_reducible rfl)))
            try simp only [Act.put, List.getElem_toArray, List.getElem_cons_zero, List.getElem_cons_succ, List.setIfInBounds_toArray, List.set_cons_zero, List.set_cons_succ]
            refine wpAnyH_take (i := 1) (oi := _) (v := ?_) rfl (by kernel_rfl) (by kernel_rfl) (by kernel_rfl) (fun _ _ _ h => h) (Or.inl ⟨by rfl, ?_⟩) (by assumption) ?_
            rotate_left 1
            · (intro w hSw; (try dsimp only at hSw); (first | (go_simp; done) | (go_simp; with_reducible rfl)))
            try simp only [Act.put, List.getElem_toArray, List.getElem_cons_zero, List.getElem_cons_succ, List.setIfInBounds_toArray, List.set_cons_zero, List.set_cons_succ]
            refine wpAnyH_ready (rs := [2]) (by kernel_rfl) (by simp) ?_
            refine AllReadyH.cons (o := _) rfl (fun K hK => ?_) AllReadyH.nil
            go_simp
            (with_reducible refine Calls.mono HGC.out ?_)
            rintro r wa ⟨rfl, hba⟩
            have HBa := hide (HWd.out.trans (hba.mono HWd.out.size))
            have a0 := (HBa.out.cell (p := ⟨w.heap.size + 1, 0, none⟩) hcl).trans c0
            have a1 := (HBa.out.cell (p := ⟨w.heap.size + 1, 1, none⟩) hcl).trans c1
            clear hba HGC
            (try go_wp2_with fail)
            refine hK.out _ _ ⟨a0, a1⟩ (fun hHeld => ?_)
            clear hK K
            try simp only [Act.put, List.getElem_toArray, List.getElem_cons_zero, List.getElem_cons_succ, List.setIfInBounds_toArray, List.set_cons_zero, List.set_cons_succ]
            refine wpAnyH_take (i := 3) (oi := _) (v := ?_) rfl (by kernel_rfl) (by kernel_rfl) (by kernel_rfl) (fun _ _ _ h => h) (Or.inl ⟨by rfl, ?_⟩) (by assumption) ?_
            rotate_left 1
            · (intro w hSw; (try dsimp only at hSw); (first | (go_simp; done) | (go_simp; with_reducible rfl)))
            try simp only [Act.put, List.getElem_toArray, List.getElem_cons_zero, List.getElem_cons_succ, List.setIfInBounds_toArray, List.set_cons_zero, List.set_cons_succ]
            refine wpAnyH_take (i := 4) (oi := _) (v := ?_) rfl (by kernel_rfl) (by kernel_rfl) (by kernel_rfl) (fun _ _ _ h => h) (Or.inl ⟨by rfl, ?_⟩) (by assumption) ?_
            rotate_left 1
            · (intro w hSw; (try dsimp only at hSw); (first | (go_simp; done) | (go_simp; with_reducible rfl)))
            try simp only [Act.put, List.getElem_toArray, List.getElem_cons_zero, List.getElem_cons_succ, List.setIfInBounds_toArray, List.set_cons_zero, List.set_cons_succ]
            refine wpAnyH_take (i := 6) (oi := _) (v := ?_) rfl (by kernel_rfl) (by kernel_rfl) (by kernel_rfl) (fun _ _ _ h => h) (Or.inl ⟨by rfl, ?_⟩) (by assumption) ?_
            rotate_left 1
            · (intro w hSw; (try dsimp only at hSw); (first | (go_simp; done) | (go_simp; with_reducible rfl)))
            try simp only [Act.put, List.getElem_toArray, List.getElem_cons_zero, List.getElem_cons_succ, List.setIfInBounds_toArray, List.set_cons_zero, List.set_cons_succ]
            refine wpAnyH_ready (rs := [5]) (by kernel_rfl) (by simp) ?_
            refine AllReadyH.cons (o := _) rfl (fun K hK => ?_) AllReadyH.nil
            go_simp
            (with_reducible refine Calls.mono (HTx.out _ HBa.out) ?_)
            rintro r wb ⟨rfl, hbb⟩
            have HBb := hide (HBa.out.trans (hbb.mono HBa.out.size))
            have b0 := (HBb.out.cell (p := ⟨w.heap.size + 1, 0, none⟩) hcl).trans c0
            have b1 := (HBb.out.cell (p := ⟨w.heap.size + 1, 1, none⟩) hcl).trans c1
            have HZ := hide (HXr.out.below HBb.out hrl)
            clear hbb HTx a0 a1
            (try go_wp2_with fail)
            refine hK.out _ _ ⟨b0, b1⟩ (fun hHeld => ?_)
            clear hK K
            try simp only [Act.put, List.getElem_toArray, List.getElem_cons_zero, List.getElem_cons_succ, List.setIfInBounds_toArray, List.set_cons_zero, List.set_cons_succ]
            refine wpAnyH_take (i := 7) (oi := _) (v := ?_) rfl (by kernel_rfl) (by kernel_rfl) (by kernel_rfl) (fun _ _ _ h => h) (Or.inl ⟨by rfl, ?_⟩) (by assumption) ?_
            rotate_left 1
            · (intro w hSw; (try dsimp only at hSw); (first | (go_simp; done) | (go_simp; with_reducible rfl)))
            try simp only [Act.put, List.getElem_toArray, List.getElem_cons_zero, List.getElem_cons_succ, List.setIfInBounds_toArray, List.set_cons_zero, List.set_cons_succ]
            refine wpAnyH_take (i := 8) (oi := _) (v := ?_) rfl (by kernel_rfl) (by kernel_rfl) (by kernel_rfl) (fun _ _ _ h => h) (Or.inl ⟨by rfl, ?_⟩) (by assumption) ?_
            rotate_left 1
            · (intro w hSw; (try dsimp only at hSw); (first | (go_simp; done) | (go_simp; with_reducible rfl)))
            try simp only [Act.put, List.getElem_toArray, List.getElem_cons_zero, List.getElem_cons_succ, List.setIfInBounds_toArray, List.set_cons_zero, List.set_cons_succ]
            have cl := HZ.out.c
            have fl := HZ.out.f
            refine wpAnyH_ready (rs := [9]) (by kernel_rfl) (by simp) ?_
            refine AllReadyH.cons (o := _) rfl (fun K hK => ?_) AllReadyH.nil
            have hzf := (HZ.out.set 0 (.int .i64 0)).set 1 (.int .i64 0)
            simp only [List.setIfInBounds_toArray, List.set_cons_zero, List.set_cons_succ] at hzf
            have HZf := hide hzf
            have HOt := hide (((Oth.refl (w.heap.size) wb).setCell 0 (.int .i64 0)).setCell 1 (.int .i64 0))
            have d0 := (HOt.out.cell' (a := ⟨w.heap.size + 1, 0, none⟩) (Nat.lt_of_lt_of_le hcl HBb.out.size) (by simp)).trans b0
            have d1 := (HOt.out.cell' (a := ⟨w.heap.size + 1, 1, none⟩) (Nat.lt_of_lt_of_le hcl HBb.out.size) (by simp)).trans b1
            clear hzf
            go_simp
            (try go_wp2_with fail)
            refine hK.out _ _ ⟨d0, d1⟩ (fun hHeld => ?_)
            clear hK K
            try simp only [Act.put, List.getElem_toArray, List.getElem_cons_zero, List.getElem_cons_succ, List.setIfInBounds_toArray, List.set_cons_zero, List.set_cons_succ]
            clear cl fl
            refine wpAnyH_take (i := 10) (oi := _) (v := ?_) rfl (by kernel_rfl) (by kernel_rfl) (by kernel_rfl) (fun _ _ _ h => h) (Or.inl ⟨by rfl, ?_⟩) (by assumption) ?_
            rotate_left 1
            · (intro w hSw; (try dsimp only at hSw); (first | (go_simp; done) | (go_simp; with_reducible rfl)))
            try simp only [Act.put, List.getElem_toArray, List.getElem_cons_zero, List.getElem_cons_succ, List.setIfInBounds_toArray, List.set_cons_zero, List.set_cons_succ]
            refine wpAnyH_done (by kernel_rfl) ?_ _
            refine NoPanic.normal ?_
            have r0 := HZf.out.c 0
            have r1 := HZf.out.c 1
            clear hHeld b0 b1 d0 d1 c0 c1
            go_wp2_with fail
            refine bodyPost_ret (v := .tuple #[.agg #[.int .i64 0, .int .i64 0], .bool false]) (by simp [results, Tryd.results19, go_sem, r0, r1]) rfl ⟨by rw [HC.out, HB2.out], ?_⟩
            exact (HBW1.out.trans (HBb.out.mono HBW1.out.size)).trans (HOt.out.below (by have := HBW1.out.size; have := HBb.out.size; omega) (Nat.le_refl _))
        · rw [Bool.not_eq_true] at hg
          have HB2 : Hid (B = false) := hide (by rw [HB.out, HC.out, hg]; rfl)
          rw [hg] at HGC
          clear hg
          refine wp_region_noPanic ?_
          refine wp_region_held_drew (S := fun w' => w'.cell? ⟨w.heap.size + 1, 0, none⟩ = some (.int .i64 0) ∧ w'.cell? ⟨w.heap.size + 1, 1, none⟩ = some (.int .i64 0)) (by kernel_rfl) ⟨c0, c1⟩ (fun hHeld => ?_)
          refine wpAnyH_take (i := 0) (oi := _) (v := ?_) rfl (by kernel_rfl) (by kernel_rfl) (by kernel_rfl) (fun _ _ _ h => h) (Or.inl ⟨by rfl, ?_⟩) (by assumption) ?_
          rotate_left 1
          · (intro w hSw; (try dsimp only at hSw); (first | (go_simp; done) | (go_simp; with_reducible rfl)))
          try simp only [Act.put, List.getElem_toArray, List.getElem_cons_zero, List.getElem_cons_succ, List.setIfInBounds_toArray, List.set_cons_zero, List.set_cons_succ]
          refine wpAnyH_take (i := 1) (oi := _) (v := ?_) rfl (by kernel_rfl) (by kernel_rfl) (by kernel_rfl) (fun _ _ _ h => h) (Or.inl ⟨by rfl, ?_⟩) (by assumption) ?_
          rotate_left 1
          · (intro w hSw; (try dsimp only at hSw); (first | (go_simp; done) | (go_simp; with_reducible rfl)))
          try simp only [Act.put, List.getElem_toArray, List.getElem_cons_zero, List.getElem_cons_succ, List.setIfInBounds_toArray, List.set_cons_zero, List.set_cons_succ]
          refine wpAnyH_ready (rs := [2]) (by kernel_rfl) (by simp) ?_
          refine AllReadyH.cons (o := _) rfl (fun K hK => ?_) AllReadyH.nil
          go_simp
          (with_reducible refine Calls.mono HGC.out ?_)
          rintro r wa ⟨rfl, hba⟩
          have HBa := hide (HWd.out.trans (hba.mono HWd.out.size))
          have b0 := (HBa.out.cell (p := ⟨w.heap.size + 1, 0, none⟩) hcl).trans c0
          have b1 := (HBa.out.cell (p := ⟨w.heap.size + 1, 1, none⟩) hcl).trans c1
          have HZ := hide (HXr.out.below HBa.out hrl)
          clear hba HGC
          (try go_wp2_with fail)
          refine hK.out _ _ ⟨b0, b1⟩ (fun hHeld => ?_)
          clear hK K
          try simp only [Act.put, List.getElem_toArray, List.getElem_cons_zero, List.getElem_cons_succ, List.setIfInBounds_toArray, List.set_cons_zero, List.set_cons_succ]
          refine wpAnyH_take (i := 3) (oi := _) (v := ?_) rfl (by kernel_rfl) (by kernel_rfl) (by kernel_rfl) (fun _ _ _ h => h) (Or.inl ⟨by rfl, ?_⟩) (by assumption) ?_
          rotate_left 1
          · (intro w hSw; (try dsimp only at hSw); (first | (go_simp; done) | (go_simp; with_reducible rfl)))
          try simp only [Act.put, List.getElem_toArray, List.getElem_cons_zero, List.getElem_cons_succ, List.setIfInBounds_toArray, List.set_cons_zero, List.set_cons_succ]
          refine wpAnyH_take (i := 4) (oi := _) (v := undef) rfl (by kernel_rfl) (by kernel_rfl) (by kernel_rfl) (fun _ _ _ h => h) (Or.inr ⟨by rfl, rfl⟩) (by assumption) ?_
          try simp only [Act.put, List.getElem_toArray, List.getElem_cons_zero, List.getElem_cons_succ, List.setIfInBounds_toArray, List.set_cons_zero, List.set_cons_succ]
          refine wpAnyH_take (i := 5) (oi := _) (v := undef) rfl (by kernel_rfl) (by kernel_rfl) (by kernel_rfl) (fun _ _ _ h => h) (Or.inr ⟨by rfl, rfl⟩) (by assumption) ?_
          try simp only [Act.put, List.getElem_toArray, List.getElem_cons_zero, List.getElem_cons_succ, List.setIfInBounds_toArray, List.set_cons_zero, List.set_cons_succ]
          refine wpAnyH_take (i := 6) (oi := _) (v := undef) rfl (by kernel_rfl) (by kernel_rfl) (by kernel_rfl) (fun _ _ _ h => h) (Or.inr ⟨by rfl, rfl⟩) (by assumption) ?_
          try simp only [Act.put, List.getElem_toArray, List.getElem_cons_zero, List.getElem_cons_succ, List.setIfInBounds_toArray, List.set_cons_zero, List.set_cons_succ]
          refine wpAnyH_take (i := 7) (oi := _) (v := undef) rfl (by kernel_rfl) (by kernel_rfl) (by kernel_rfl) (fun _ _ _ h => h) (Or.inr ⟨by rfl, rfl⟩) (by assumption) ?_
          try simp only [Act.put, List.getElem_toArray, List.getElem_cons_zero, List.getElem_cons_succ, List.setIfInBounds_toArray, List.set_cons_zero, List.set_cons_succ]
          refine wpAnyH_take (i := 8) (oi := _) (v := ?_) rfl (by kernel_rfl) (by kernel_rfl) (by kernel_rfl) (fun _ _ _ h => h) (Or.inl ⟨by rfl, ?_⟩) (by assumption) ?_
          rotate_left 1
          · (intro w hSw; (try dsimp only at hSw); (first | (go_simp; done) | (go_simp; with_reducible rfl)))
          try simp only [Act.put, List.getElem_toArray, List.getElem_cons_zero, List.getElem_cons_succ, List.setIfInBounds_toArray, List.set_cons_zero, List.set_cons_succ]
          have cl := HZ.out.c
          have fl := HZ.out.f
          refine wpAnyH_ready (rs := [9]) (by kernel_rfl) (by simp) ?_
          refine AllReadyH.cons (o := _) rfl (fun K hK => ?_) AllReadyH.nil
          have hzf := (HZ.out.set 0 (.int .i64 0)).set 1 (.int .i64 0)
          simp only [List.setIfInBounds_toArray, List.set_cons_zero, List.set_cons_succ] at hzf
          have HZf := hide hzf
          have HOt := hide (((Oth.refl (w.heap.size) wa).setCell 0 (.int .i64 0)).setCell 1 (.int .i64 0))
          have d0 := (HOt.out.cell' (a := ⟨w.heap.size + 1, 0, none⟩) (Nat.lt_of_lt_of_le hcl HBa.out.size) (by simp)).trans b0
          have d1 := (HOt.out.cell' (a := ⟨w.heap.size + 1, 1, none⟩) (Nat.lt_of_lt_of_le hcl HBa.out.size) (by simp)).trans b1
          clear hzf
          go_simp
          (try go_wp2_with fail)
          refine hK.out _ _ ⟨d0, d1⟩ (fun hHeld => ?_)
          clear hK K
          try simp only [Act.put, List.getElem_toArray, List.getElem_cons_zero, List.getElem_cons_succ, List.setIfInBounds_toArray, List.set_cons_zero, List.set_cons_succ]
          clear cl fl
          refine wpAnyH_take (i := 10) (oi := _) (v := ?_) rfl (by kernel_rfl) (by kernel_rfl) (by kernel_rfl) (fun _ _ _ h => h) (Or.inl ⟨by rfl, ?_⟩) (by assumption) ?_
          rotate_left 1
          · (intro w hSw; (try dsimp only at hSw); (first | (go_simp; done) | (go_simp; with_reducible rfl)))
          try simp only [Act.put, List.getElem_toArray, List.getElem_cons_zero, List.getElem_cons_succ, List.setIfInBounds_toArray, List.set_cons_zero, List.set_cons_succ]
          refine wpAnyH_done (by kernel_rfl) ?_ _
          refine NoPanic.normal ?_
          have r0 := HZf.out.c 0
          have r1 := HZf.out.c 1
          clear hHeld b0 b1 d0 d1 c0 c1
          go_wp2_with fail
          refine bodyPost_ret (v := .tuple #[.agg #[.int .i64 0, .int .i64 0], .bool false]) (by simp [results, Tryd.results19, go_sem, r0, r1]) rfl ⟨by rw [HC.out, HB2.out], ?_⟩
          exact (HBW1.out.trans (HBa.out.mono HBW1.out.size)).trans (HOt.out.below (by have := HBW1.out.size; have := HBa.out.size; omega) (Nat.le_refl _))
end Go.Proofs.YthnkdlhkldcaoaaDoor.W

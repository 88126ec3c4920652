/-
  Rules in vain, by the specification: VainIn. Conditions: at most 1048576 elements a row. Written by wip/build/mk_mtk.py.
-/
import Derived.Test.YtfepljcblajfpabMtJ
import Derived.Test.YtfepljcblajfpabMsR
namespace Go.Proofs.Ytfepljcblajfpab.W
open Go.ChangeShapes Go.WideShapes Go.ChangeAt Go.RowKit
set_option linter.unusedVariables false
set_option linter.unusedSimpArgs false

theorem trees_take (D : List Int) (L : List (List Pt)) (j : Nat) : (trees D L).take j = trees D (L.take j) := by
  unfold trees
  rw [List.map_take]
theorem trees_len (D : List Int) (L : List (List Pt)) : (trees D L).length = L.length := by simp [trees]
theorem trees_at {D : List Int} {L : List (List Pt)} {j : Nat} {a : F} (h : j < (trees D L).length) (hj : j < L.length) (ha : treeT D 40 L[j] = some a) : (trees D L)[j] = a := by
  simp [trees, ha]

set_option maxRecDepth 20000 in
set_option maxHeartbeats 8000000 in
theorem specVain_any (vd : Value) (D : List Int) (x0 : Value) (L : List (List Pt)) (w : World) (hD : DRow w vd D) (hq : QV w x0 L) :
    Calls Try.prog 18 #[vd, x0] w fun e w' => ∃ v', e = .returned (.tuple #[v', .bool (goodR D L)]) ∧ w'.ownsRow w.heap.size 3 1 v' (if goodR D L then vainL D L L.length else []).length (rcells 1 iC (if goodR D L then vainL D L L.length else [])) ∧ Below w.heap.size w w' := by
  obtain ⟨i0, hi0, hz0, hz1, hz2⟩ := infoPartsT infoInt1
  have Hi := hide hi0
  have HG := hide (fun (w' : World) (hb : Below w.heap.size w w') => l8Rules_any vd D x0 L w' (hD.below hb) (hq.below hb))
  have HD := hide hD
  obtain ⟨da, dc, rfl, -, -⟩ := hD
  obtain ⟨qa, qc, rfl, -, -, -⟩ := hq
  have HB0 := hide (show Below w.heap.size w (w.alloc (.cells #[.slice da D.length dc] 31)) from (Below.refl _ _).alloc (Nat.le_refl _) _)
  have HX0 := hide (Bx.new w #[.slice da D.length dc] 31)
  have HFa := hide (fun h => goodR_facts (D := D) (L := L) h)
  have HGd : Hid (goodR D L = (ruT D L).isSome) := hide rfl
  obtain ⟨G, hG⟩ : ∃ G, G = goodR D L := ⟨_, rfl⟩
  rw [← hG] at HFa HGd ⊢
  clear hG hi0
  go_enter Try.func18, Try.ntmps18
  go_wp2_with fail
  refine Calls.mono (HG.out _ HB0.out) ?_
  rintro e w1 ⟨hb1, ho1⟩
  have hB1 : Below w.heap.size w w1 := HB0.out.trans (hb1.mono HB0.out.size)
  have HX1 := hide (HX0.out.below hb1 HX0.out.lt)
  clear hb1 HB0 HX0 HG
  cases hr : ruT D L with
  | none =>
    rw [hr] at ho1
    obtain rfl : e = .returned (.tuple #[.slice none 0 0, .bool false]) := ho1
    obtain rfl : G = false := by rw [HGd.out, hr]; rfl
    have HE := hide (World.ownsRow_nil w1 w.heap.size 3 1)
    clear HFa hr HGd
    go_wp2_with fail
    exact bodyPost_ret (v := .tuple #[.slice none 0 0, .bool false]) (by simp [results, Try.results18, go_sem]) rfl ⟨_, rfl, HE.out, hB1⟩
  | some R =>
    rw [hr] at ho1
    obtain ⟨s, rfl, hT⟩ := ho1
    obtain rfl : G = true := by rw [HGd.out, hr]; rfl
    obtain ⟨hd, h8, htr⟩ := HFa.out rfl
    have hru : rulesF D L = some R := by
      unfold ruT at hr
      split at hr
      · exact hr
      · cases hr
    have hRl : R.len ≤ 8 := by rw [(rulesF_len hru).1]; exact h8
    have hon := ones_trees hru
    have HRo : Hid (∀ (w' : World), Below w1.heap.size w1 w' → Calls Try.prog 27 #[s] w' fun e w'' => ∃ v', e = .returned v' ∧ RV w'' v' (trees D L) ∧ Below w'.heap.size w' w'') := hide (fun w' hb => by
      rw [← hon]
      exact l8Rows_any R s _ w' (hT.below hb) hRl)
    obtain ⟨sad, sc, rfl⟩ := hT.form
    obtain ⟨RN, hRN⟩ : ∃ RN, RN = R.len := ⟨_, rfl⟩
    rw [← hRN] at HRo ⊢
    have HTr := hide htr
    have Hd := hide hd
    clear HFa hr HGd hru hRl hon hT hRN htr hd
    simp only [if_true]
    go_wp2_with fail
    refine Calls.mono (HRo.out _ (Below.refl _ _)) ?_
    rintro e wR ⟨vR, rfl, hrv, hbR⟩
    have HBR := hide (hB1.trans (hbR.mono hB1.size))
    have HXR := hide (HX1.out.below hbR HX1.out.lt)
    have HRV := hide hrv
    obtain ⟨ra, rc, rfl, hrc⟩ := hrv.form
    rw [trees_len] at HRV hrc ⊢
    have HE := hide (World.ownsRow_nil wR wR.heap.size 3 1)
    clear HRo HX1 hbR hrv hB1
    go_wp2_with fail
    go_loopw [9, 24] (fun s i w' => ∃ j : Nat, j ≤ L.length ∧ i = .int .i64 j ∧ w'.ownsRow wR.heap.size 3 1 s (vainL D L j).length (rcells 1 iC (vainL D L j)) ∧ Below wR.heap.size wR w') (fun _ i _ => L.length - (intOf i).toNat)
    case atStart => exact ⟨0, Nat.zero_le _, rfl, HE.out, Below.refl _ _⟩
    case round =>
      clear HE
      obtain ⟨j, hj, rfl, hO, hB⟩ := hrel
      have HOw := hide hO
      have hvf := vain_few D L j
      obtain ⟨sad2, sc2, hsf⟩ := own_form hO
      subst hsf
      have HOl := hide (fun k hk => hO.lt k hk)
      have hsz := hB.size
      have hwR := HBR.out.size
      have hxR := HXR.out.lt
      clear hO
      by_cases hlt : j < L.length
      · have hlt' : (j : Int) < (L.length : Int) := by omega
        have hltT : j < (trees D L).length := by rw [trees_len]; exact hlt
        obtain ⟨b, o, rc', u, e1, hbb, p0, gu, cu⟩ := RV.at HRV.out hB hltT
        simp only [Value.slice.injEq] at e1
        obtain ⟨rfl, -, rfl⟩ := e1
        obtain ⟨a, ha⟩ := HTr.out L[j] (List.getElem_mem hlt)
        rw [trees_at hltT hlt ha] at gu
        obtain ⟨f1, f2, f3, f4, -⟩ := treeT_flat ha
        have htk : ∀ l ∈ L.take j, ∃ a, treeT D 40 l = some a := fun l hl => HTr.out l (List.mem_of_mem_take hl)
        have h8t : (L.take j).length ≤ 8 := by simp; omega
        have hWR := trees_wr htk h8t f2 f3 (by rw [← f1]; exact f4)
        obtain ⟨x, k, rfl⟩ := F.len_1 f3
        obtain ⟨ug, uo, uc, sx, hu, huc, hug, hugl, -, -, -, -⟩ := gu.head cu
        have hva := vainA_eq hlt ha
        have HVs := vainL_succ D L j
        rw [hva] at HVs
        have HVs := hide HVs
        obtain ⟨W1, hW1⟩ : ∃ W1, W1 = wr.alloc (.cells #[u] 70) := ⟨_, rfl⟩
        have hb1 : Below wr.heap.size wr W1 := by rw [hW1]; exact (Below.refl _ _).alloc (Nat.le_refl _) _
        have hBW1 : Below wR.heap.size wR W1 := hB.trans (hb1.mono hsz)
        have s1 : W1.heap.size = wr.heap.size + 1 := by rw [hW1]; simp
        have HUs : Hid (∀ (w' : World), Below W1.heap.size W1 w' → Calls Try.prog 35 #[.agg #[.slice da D.length dc], .slice (some ⟨b, o, none⟩) j rc, .agg #[u]] w' fun e w'' => e = .returned (.bool (wn D (.cons x k .nil) (trees D (L.take j))).isSome) ∧ Below w'.heap.size w' w'') := hide (fun w' hb => by
          have hbw : Below wR.heap.size wR w' := hBW1.trans (hb.mono hBW1.size)
          have hbr : Below wr.heap.size wr w' := hb1.trans (hb.mono hb1.size)
          refine l8Useful_any D Hd.out da dc _ (trees D (L.take j)) u _ w' (HD.out.below (HBR.out.trans (hbw.mono hwR))) ?_ ((gu.weak (P' := fun _ => True) (fun _ _ _ => trivial)).below hbr) cu hWR
          rw [← trees_take]
          exact (HRV.out.take j (by rw [trees_len]; exact hj)).below hbw)
        obtain ⟨TT, hTT⟩ : ∃ TT, TT = wn D (.cons x k .nil) (trees D (L.take j)) := ⟨_, rfl⟩
        rw [← hTT] at HUs HVs
        have hul : (F.cons x k .nil).len = 1 := rfl
        obtain ⟨UL, hUL⟩ : ∃ UL, UL = (F.nil).len + 1 := ⟨_, rfl⟩
        rw [← hUL] at hu huc
        subst hu
        have b0 : W1.cell? ⟨w.heap.size, 0, none⟩ = some (.slice da D.length dc) := ((HXR.out.below hB hxR).below hb1 (by omega)).c 0
        have b1 : W1.cell? ⟨wr.heap.size, 0, none⟩ = some (.slice (some ⟨ug, uo, none⟩) UL uc) := by rw [hW1, cell_of_blk (heap_alloc_new wr _)]; rfl
        have xl0 : w.heap.size < W1.heap.size := by omega
        have xl1 : wr.heap.size < W1.heap.size := by omega
        have k1 : (0 : Int) ≤ (j : Int) := by omega
        have k2 : (j : Int) ≤ (rc : Int) := by omega
        have HW1 := hide hW1
        have HBW1 := hide hBW1
        have HB1 := hide hb1
        clear hTT hva hWR h8t htk f1 f2 f3 f4 ha gu cu hul hUL hW1 hb1 hBW1 hltT s1
        go_wp2_with fail
        rw [← HW1.out]
        refine wp_region_noPanic ?_
        refine wp_region_held_drew (S := fun w' => w'.cell? ⟨w.heap.size, 0, none⟩ = some (.slice da D.length dc) ∧ w'.cell? ⟨wr.heap.size, 0, none⟩ = some (.slice (some ⟨ug, uo, none⟩) UL uc)) (by kernel_rfl) ⟨b0, b1⟩ (fun hHeld => ?_)
        refine wpAnyH_take (i := 0) (oi := _) (v := ?_) rfl (by kernel_rfl) (by kernel_rfl) (by kernel_rfl) (fun _ _ _ h => h) (Or.inl ⟨by rfl, ?_⟩) (by assumption) ?_
        rotate_left 1
        · (intro w hSw; (try dsimp only at hSw); (first | (go_simp; done) | (go_simp; with_reducible rfl)))
        try simp only [Act.put, List.getElem_toArray, List.getElem_cons_zero, List.getElem_cons_succ, List.setIfInBounds_toArray, List.set_cons_zero, List.set_cons_succ]
        refine wpAnyH_take (i := 1) (oi := _) (v := ?_) rfl (by kernel_rfl) (by kernel_rfl) (by kernel_rfl) (fun _ _ _ h => h) (Or.inl ⟨by rfl, ?_⟩) (by assumption) ?_
        rotate_left 1
        · (intro w hSw; (try dsimp only at hSw); (first | (go_simp; done) | (go_simp; with_reducible rfl)))
        try simp only [Act.put, List.getElem_toArray, List.getElem_cons_zero, List.getElem_cons_succ, List.setIfInBounds_toArray, List.set_cons_zero, List.set_cons_succ]
        refine wpAnyH_take (i := 2) (oi := _) (v := ?_) rfl (by kernel_rfl) (by kernel_rfl) (by kernel_rfl) (fun _ _ _ h => h) (Or.inl ⟨by rfl, ?_⟩) (by assumption) ?_
        rotate_left 1
        · (intro w hSw; (try dsimp only at hSw); (first | (go_simp; done) | (go_simp; with_reducible rfl)))
        try simp only [Act.put, List.getElem_toArray, List.getElem_cons_zero, List.getElem_cons_succ, List.setIfInBounds_toArray, List.set_cons_zero, List.set_cons_succ]
        refine wpAnyH_take (i := 3) (oi := _) (v := .slice (some ⟨b, o, none⟩) j rc) rfl (by kernel_rfl) (by kernel_rfl) (by kernel_rfl) (fun _ _ _ h => h) (Or.inl ⟨by rfl, ?_⟩) (by assumption) ?_
        · (intro w hSw; (try dsimp only at hSw); (first | (go_simp; done) | (go_simp; simp [*])))
        try simp only [Act.put, List.getElem_toArray, List.getElem_cons_zero, List.getElem_cons_succ, List.setIfInBounds_toArray, List.set_cons_zero, List.set_cons_succ]
        refine wpAnyH_take (i := 4) (oi := _) (v := ?_) rfl (by kernel_rfl) (by kernel_rfl) (by kernel_rfl) (fun _ _ _ h => h) (Or.inl ⟨by rfl, ?_⟩) (by assumption) ?_
        rotate_left 1
        · (intro w hSw; (try dsimp only at hSw); (first | (go_simp; done) | (go_simp; with_reducible rfl)))
        try simp only [Act.put, List.getElem_toArray, List.getElem_cons_zero, List.getElem_cons_succ, List.setIfInBounds_toArray, List.set_cons_zero, List.set_cons_succ]
        refine wpAnyH_ready (rs := [5]) (by kernel_rfl) (by simp) ?_
        refine AllReadyH.cons (o := _) rfl (fun K hK => ?_) AllReadyH.nil
        go_simp
        (with_reducible refine Calls.mono (HUs.out W1.drew (Below.drew (Below.refl _ _))) ?_)
        rintro r wb ⟨rfl, hbb⟩
        have HBb := hide (show Below W1.heap.size W1 wb from ⟨hbb.os, hbb.tape, hbb.output, hbb.size, hbb.block⟩)
        have fb0 := (hbb.cell (p := ⟨w.heap.size, 0, none⟩) xl0).trans b0
        have fb1 := (hbb.cell (p := ⟨wr.heap.size, 0, none⟩) xl1).trans b1
        clear hbb
        (try go_wp2_with fail)
        refine hK.out _ _ ⟨fb0, fb1⟩ (fun hHeld => ?_)
        clear hK K
        try simp only [Act.put, List.getElem_toArray, List.getElem_cons_zero, List.getElem_cons_succ, List.setIfInBounds_toArray, List.set_cons_zero, List.set_cons_succ]
        refine wpAnyH_take (i := 6) (oi := _) (v := ?_) rfl (by kernel_rfl) (by kernel_rfl) (by kernel_rfl) (fun _ _ _ h => h) (Or.inl ⟨by rfl, ?_⟩) (by assumption) ?_
        rotate_left 1
        · (intro w hSw; (try dsimp only at hSw); (first | (go_simp; done) | (go_simp; with_reducible rfl)))
        try simp only [Act.put, List.getElem_toArray, List.getElem_cons_zero, List.getElem_cons_succ, List.setIfInBounds_toArray, List.set_cons_zero, List.set_cons_succ]
        refine wpAnyH_done (by kernel_rfl) ?_ _
        refine NoPanic.normal ?_
        have hwb := HBb.out.size
        have HBwb : Hid (Below wR.heap.size wR wb) := hide (HBW1.out.trans (HBb.out.mono HBW1.out.size))
        have hkb : ∀ k, k < wr.heap.size → wb.heap[k]? = wr.heap[k]? := fun k hk => (HBb.out.block k (by omega)).trans (HB1.out.block k hk)
        have hOb := own_keep HOw.out (w' := wb) (fun k _ hk => hkb k hk)
        clear b0 b1 fb0 fb1 HUs HOw HW1 HBW1 HB1 HBb
        cases TT with
        | some l =>
          simp only [Option.isNone_some, Bool.false_eq_true, if_false, List.append_nil] at HVs
          have HOb : Hid (wb.ownsRow wR.heap.size 3 1 (.slice sad2 (vainL D L j).length sc2) (vainL D L (j + 1)).length (rcells 1 iC (vainL D L (j + 1)))) := hide (by rw [HVs.out]; exact hOb)
          clear hOb HVs
          simp only [Option.isSome_some]
          go_wp2_with fail
          go_roundw
          case rel => exact ⟨j + 1, by omega, by go_num, HOb.out, HBwb.out⟩
          case measure => simp [intOf]; omega
        | none =>
          simp only [Option.isNone_none, if_true] at HVs
          simp only [Option.isSome_none]
          obtain ⟨VN, hVN⟩ : ∃ VN, VN = (vainL D L j).length := ⟨_, rfl⟩
          rw [← hVN] at hOb HOl ⊢
          have HVN := hide hVN
          have hVle : VN ≤ j := by rw [hVN]; exact hvf
          clear hVN
          go_wp2_with (at_builtin; refine wpList_append_sep rfl _ _ 22 rfl wR.heap.size 3 i0 (.int .i64 0) 1 8 Try.underlying22 Hi.out hz0 hz1 hz2 rfl (by decide) _ _ _ rfl (hOb.alloc _) ⟨wb.heap.size, 0, none⟩ 1 1 [.int .i64 j] rfl rfl ?c1 ?c2 ?c3 ?c4 ?c5 ?_)
          case c1 => exact slC_cells (heap_alloc_new wb _)
          case c2 => intro u hu; simp only [List.mem_singleton] at hu; subst hu; rfl
          case c3 => unfold maxLen; omega
          case c4 => omega
          case c5 => simp; omega
          intro v' w4 hown4 hgrow hap
          have hb4 : Below wR.heap.size wb w4 := ((Below.refl _ _).alloc (by omega) _).grown hgrow (by simp; omega) (fun k hk => (HOl.out k hk).1)
          have hO4 : w4.ownsRow wR.heap.size 3 1 v' (vainL D L (j + 1)).length (rcells 1 iC (vainL D L (j + 1))) := by
            rw [HVs.out, rcells_app, List.length_append, ← HVN.out]
            exact hown4
          have HO4 := hide hO4
          have HB4 : Hid (Below wR.heap.size wR w4) := hide (HBwb.out.trans hb4)
          clear hO4 hown4 hgrow hap hb4 hOb
          go_wp2_with fail
          go_roundw
          case rel => exact ⟨j + 1, by omega, by go_num, HO4.out, HB4.out⟩
          case measure => simp [intOf]; omega
      · obtain rfl : j = L.length := by omega
        have HO := hide (own_lower HOw.out (base' := w.heap.size) (by omega))
        have HBf := hide (HBR.out.trans (hB.mono hwR))
        clear HOw
        go_wp2_with fail
        exact bodyPost_ret (v := .tuple #[.slice sad2 (vainL D L L.length).length sc2, .bool true]) (by simp [results, Try.results18, go_sem]) rfl ⟨_, rfl, HO.out, HBf.out⟩
end Go.Proofs.Ytfepljcblajfpab.W

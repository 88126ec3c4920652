/-
  Rules in vain, by the program: VainIn. Conditions: at most 1048576 elements a row. Written by wip/build/mk_msq.py.
-/
import Derived.Test.YtfepljcblajfpabMsQ
import Derived.Test.YtfepljcblajfpabRwI
namespace Go.Proofs.Ytfepljcblajfpab.W
open Go.ChangeShapes Go.WideShapes Go.ChangeAt Go.RowKit
open Go.Maps
set_option linter.unusedVariables false
set_option linter.unusedSimpArgs false

theorem QV.take {w : World} {ad : Option Addr} {n c : Nat} {L : List (List Pt)} (h : QV w (.slice ad n c) L) (j : Nat) (hj : j ≤ L.length) : QV w (.slice ad j c) (L.take j) := by
  obtain ⟨ad', c', e, hr, hs, hc⟩ := h
  simp only [Value.slice.injEq] at e
  obtain ⟨rfl, -, rfl⟩ := e
  have hl : (L.take j).length = j := by simp; omega
  refine ⟨ad, c, by rw [hl], ?_, ⟨?_, ?_⟩, by rw [hl]; omega⟩
  · rcases hr with hr | ⟨b, o, h1, h2, h3⟩
    · exact .inl (by rw [hr]; simp)
    · refine .inr ⟨b, o, h1, h2, fun i hi => ?_⟩
      obtain ⟨v, g1, g2⟩ := h3 i (by rw [hl] at hi; omega)
      exact ⟨v, g1, by simpa using g2⟩
  · have := hs.1; omega
  · intro l hl'
    exact hs.2 l (List.mem_of_mem_take hl')
theorem vainA_eq {D : List Int} {L : List (List Pt)} {j : Nat} {a : F} (hj : j < L.length) (ha : treeT D 40 L[j] = some a) : vainA D L j = (wn D a (trees D (L.take j))).isNone := by
  unfold vainA
  rw [show L.getD j [] = L[j] by simp [List.getD, hj], ha]
  rfl
theorem vain_few (D : List Int) (L : List (List Pt)) (n : Nat) : (vainL D L n).length ≤ n := by
  unfold vainL
  rw [List.length_map]
  refine Nat.le_trans (List.length_filter_le _ _) ?_
  simp

set_option maxRecDepth 20000 in
set_option maxHeartbeats 8000000 in
theorem implVain_any (vd : Value) (D : List Int) (x0 : Value) (L : List (List Pt)) (w : World) (hD : DRow w vd D) (hq : QV w x0 L) :
    Calls Try.prog 19 #[vd, x0] w fun e w' => ∃ v', e = .returned (.tuple #[v', .bool (goodR D L)]) ∧ w'.ownsRow w.heap.size 3 1 v' (if goodR D L then vainL D L L.length else []).length (rcells 1 iC (if goodR D L then vainL D L L.length else [])) ∧ Below w.heap.size w w' := by
  obtain ⟨i0, hi0, hz0, hz1, hz2⟩ := infoPartsT infoInt1
  have Hi := hide hi0
  have HG := hide (fun (w' : World) (hb : Below w.heap.size w w') => implGoodR_any vd D x0 L w' (hD.below hb) (hq.below hb))
  have HD := hide hD
  have HQ := hide hq
  obtain ⟨da, dc, rfl, -, -⟩ := hD
  obtain ⟨qa, qc, rfl, hR, hs, hqc⟩ := hq
  have HR := hide hR
  have hLl := hs.1
  have HB0 := hide (show Below w.heap.size w (w.alloc (.cells #[.slice da D.length dc] 31)) from (Below.refl _ _).alloc (Nat.le_refl _) _)
  have HX0 := hide (Bx.new w #[.slice da D.length dc] 31)
  have HFa := hide (fun h => goodR_facts (D := D) (L := L) h)
  obtain ⟨G, hG⟩ : ∃ G, G = goodR D L := ⟨_, rfl⟩
  rw [← hG] at HG HFa ⊢
  clear hG hR hs hi0
  obtain ⟨XB, hXB⟩ : ∃ XB, XB = w.heap.size := ⟨_, rfl⟩
  have hXw : w.heap.size ≤ XB := by omega
  have hwX : XB ≤ w.heap.size := by omega
  go_enter Try.func19, Try.ntmps19
  go_wp2_with fail
  refine Calls.mono (HG.out _ HB0.out) ?_
  rintro e w1 ⟨rfl, hb1⟩
  have hB1 : Below w.heap.size w w1 := HB0.out.trans (hb1.mono HB0.out.size)
  have HX1 := hide (HX0.out.below hb1 HX0.out.lt)
  clear hb1 HB0 HX0 HG
  rw [← hXB] at HX1 ⊢
  cases G with
  | false =>
    have HE := hide (World.ownsRow_nil w1 w.heap.size 3 1)
    clear HFa
    go_wp2_with fail
    exact bodyPost_ret (v := .tuple #[.slice none 0 0, .bool false]) (by simp [results, Try.results19, go_sem]) rfl ⟨_, rfl, HE.out, hB1⟩
  | true =>
    obtain ⟨hd, h8, htr⟩ := HFa.out rfl
    have h40 : ∀ b ∈ L, b.length ≤ 40 := fun l hl => by obtain ⟨a, ha⟩ := htr l hl; exact (treeT_flat ha).2.2.2.1
    have HTr := hide htr
    have H40 := hide h40
    have Hd := hide hd
    have HNm := hide (fun (w' : World) => newMissing_any D da dc w')
    have HE := hide (World.ownsRow_nil w1 (w.heap.size + 1) 3 1)
    clear HFa htr h40 hd hXB
    simp only [if_true]
    go_wp2_with fail
    go_loopw [6, 17] (fun s i w' => ∃ j : Nat, j ≤ L.length ∧ i = .int .i64 j ∧ w'.ownsRow (w.heap.size + 1) 3 1 s (vainL D L j).length (rcells 1 iC (vainL D L j)) ∧ Bx w' XB #[.slice da D.length dc] 31 ∧ Below w.heap.size w w') (fun _ i _ => L.length - (intOf i).toNat)
    case atStart => exact ⟨0, Nat.zero_le _, rfl, HE.out, HX1.out, hB1⟩
    case round =>
      clear HE HX1 hB1
      obtain ⟨j, hj, rfl, hO, hX, hB⟩ := hrel
      have HOw := hide hO
      have HX := hide hX
      have xl := hX.lt
      have hvf := vain_few D L j
      obtain ⟨sad, sc, hsf⟩ := own_form hO
      subst hsf
      have HOl := hide (fun k hk => hO.lt k hk)
      clear hO hX
      by_cases hlt : j < L.length
      · have hlt' : (j : Int) < (L.length : Int) := by omega
        obtain ⟨b, o, lv, rfl, hb, p0, pv⟩ := QRow.at HR.out hB hlt
        obtain ⟨a, ha⟩ := HTr.out L[j] (List.getElem_mem hlt)
        obtain ⟨f1, f2, f3, f4, -⟩ := treeT_flat ha
        have htk : ∀ l ∈ L.take j, ∃ a, treeT D 40 l = some a := fun l hl => HTr.out l (List.mem_of_mem_take hl)
        have h8t : (L.take j).length ≤ 8 := by simp; omega
        have hWR := trees_wr htk h8t f2 f3 (by rw [← f1]; exact f4)
        have htf := trees_flat htk
        have hRe : ∃ n, Re L[j] (L.take j) a (trees D (L.take j)) n := by have := Re.start a (trees D (L.take j)); rw [htf, ← f1] at this; exact this
        have HWi : Hid (∀ (w' : World) (MB : Nat), Below wr.drew.heap.size wr.drew w' → KM D L[j] (L.take j) w' MB → Calls Try.prog 33 #[.agg #[.slice da D.length dc, .map (some MB)], lv, .slice (some ⟨b, o, none⟩) j qc] w' fun e w'' => WiOut D a (trees D (L.take j)) w'.heap.size w'' e ∧ KM D L[j] (L.take j) w'' MB ∧ Oth MB w' w'') := hide (fun w' MB hb hk => by
          have hb2 : Below w.heap.size w w' := (belowDrew8 hB).trans (hb.mono hB.size)
          exact within_all D Hd.out L[j] (L.take j) da dc MB (H40.out _ (List.getElem_mem hlt)) (fun b hb => H40.out b (List.mem_of_mem_take hb)) h8t _ _ _ _ _ w' (Nat.lt_succ_self _) ⟨hWR, hRe, HD.out.below hb2, by rw [← f1]; exact (pv.below (belowDrew8 (Below.refl _ _))).below hb, by rw [htf]; exact (HQ.out.take j hj).below hb2, hk⟩)
        unfold WiOut at HWi
        have hva := vainA_eq hlt ha
        have HVs := vainL_succ D L j
        rw [hva] at HVs
        have HVs := hide HVs
        obtain ⟨T, hT⟩ : ∃ T, T = wn D a (trees D (L.take j)) := ⟨_, rfl⟩
        rw [← hT] at HWi HVs
        obtain ⟨la, lc, hlv, -, -⟩ := id pv
        subst hlv
        obtain ⟨N, hN⟩ : ∃ N, N = L[j].length := ⟨_, rfl⟩
        rw [← hN] at p0 HWi
        have b0 : wr.cell? ⟨XB, 0, none⟩ = some (.slice da D.length dc) := HX.out.c 0
        have k1 : (0 : Int) ≤ (j : Int) := by omega
        have k2 : (j : Int) ≤ (qc : Int) := by omega
        clear hN hT hva htf hRe hWR h8t htk f1 f2 f3 f4 ha pv
        go_wp2_with fail
        refine wp_region_noPanic ?_
        refine wp_region_held_drew (S := fun w' => w'.cell? ⟨XB, 0, none⟩ = some (.slice da D.length dc)) (by kernel_rfl) b0 (fun hHeld => ?_)
        refine wpAnyH_take (i := 0) (oi := _) (v := ?_) rfl (by kernel_rfl) (by kernel_rfl) (by kernel_rfl) (fun _ _ _ h => h) (Or.inl ⟨by rfl, ?_⟩) (by assumption) ?_
        rotate_left 1
        · (intro w hSw; (try dsimp only at hSw); (first | (go_simp; done) | (go_simp; with_reducible rfl)))
        try simp only [Act.put, List.getElem_toArray, List.getElem_cons_zero, List.getElem_cons_succ, List.setIfInBounds_toArray, List.set_cons_zero, List.set_cons_succ]
        refine wpAnyH_take (i := 2) (oi := _) (v := ?_) rfl (by kernel_rfl) (by kernel_rfl) (by kernel_rfl) (fun _ _ _ h => h) (Or.inl ⟨by rfl, ?_⟩) (by assumption) ?_
        rotate_left 1
        · (intro w hSw; (try dsimp only at hSw); (first | (go_simp; done) | (go_simp; with_reducible rfl)))
        try simp only [Act.put, List.getElem_toArray, List.getElem_cons_zero, List.getElem_cons_succ, List.setIfInBounds_toArray, List.set_cons_zero, List.set_cons_succ]
        refine wpAnyH_take (i := 3) (oi := _) (v := ?_) rfl (by kernel_rfl) (by kernel_rfl) (by kernel_rfl) (fun _ _ _ h => h) (Or.inl ⟨by rfl, ?_⟩) (by assumption) ?_
        rotate_left 1
        · (intro w hSw; (try dsimp only at hSw); (first | (go_simp; done) | (go_simp; with_reducible rfl)))
        try simp only [Act.put, List.getElem_toArray, List.getElem_cons_zero, List.getElem_cons_succ, List.setIfInBounds_toArray, List.set_cons_zero, List.set_cons_succ]
        refine wpAnyH_take (i := 4) (oi := _) (v := ?_) rfl (by kernel_rfl) (by kernel_rfl) (by kernel_rfl) (fun _ _ _ h => h) (Or.inl ⟨by rfl, ?_⟩) (by assumption) ?_
        rotate_left 1
        · (intro w hSw; (try dsimp only at hSw); (first | (go_simp; done) | (go_simp; with_reducible rfl)))
        try simp only [Act.put, List.getElem_toArray, List.getElem_cons_zero, List.getElem_cons_succ, List.setIfInBounds_toArray, List.set_cons_zero, List.set_cons_succ]
        refine wpAnyH_take (i := 5) (oi := _) (v := .slice (some ⟨b, o, none⟩) j qc) rfl (by kernel_rfl) (by kernel_rfl) (by kernel_rfl) (fun _ _ _ h => h) (Or.inl ⟨by rfl, ?_⟩) (by assumption) ?_
        · (intro w hSw; (try dsimp only at hSw); (first | (go_simp; done) | (go_simp; simp [*])))
        try simp only [Act.put, List.getElem_toArray, List.getElem_cons_zero, List.getElem_cons_succ, List.setIfInBounds_toArray, List.set_cons_zero, List.set_cons_succ]
        refine wpAnyH_ready (rs := [1]) (by kernel_rfl) (by simp) ?_
        refine AllReadyH.cons (o := _) rfl (fun K hK => ?_) AllReadyH.nil
        go_simp
        (with_reducible refine Calls.mono (HNm.out _) ?_)
        rintro r wa ⟨MB, rfl, hkm, hMB, hba⟩
        have HBa := hide hba
        have HKm := hide (hkm L[j] (L.take j))
        have fa0 := (hba.cell (p := ⟨XB, 0, none⟩) xl).trans b0
        have xla : XB < wa.heap.size := Nat.lt_of_lt_of_le xl hba.size
        clear hba hkm
        (try go_wp2_with fail)
        refine hK.out _ _ fa0 (fun hHeld => ?_)
        clear hK K
        try simp only [Act.put, List.getElem_toArray, List.getElem_cons_zero, List.getElem_cons_succ, List.setIfInBounds_toArray, List.set_cons_zero, List.set_cons_succ]
        refine wpAnyH_ready (rs := [6]) (by kernel_rfl) (by simp) ?_
        refine AllReadyH.cons (o := _) rfl (fun K hK => ?_) AllReadyH.nil
        go_simp
        (with_reducible refine Calls.mono (HWi.out _ _ HBa.out HKm.out) ?_)
        rintro r wb ⟨⟨ba, bn, bc, rfl, -, -⟩, -, hoth⟩
        have HOt := hide hoth
        have fb0 := (World.cell?_of_block (a := ⟨XB, 0, none⟩) (hoth.block XB xla (by have : wr.heap.size ≤ MB := hMB; omega))).trans fa0
        clear hoth
        (try go_wp2_with fail)
        refine hK.out _ _ fb0 (fun hHeld => ?_)
        clear hK K
        try simp only [Act.put, List.getElem_toArray, List.getElem_cons_zero, List.getElem_cons_succ, List.setIfInBounds_toArray, List.set_cons_zero, List.set_cons_succ]
        refine wpAnyH_take (i := 7) (oi := _) (v := ?_) rfl (by kernel_rfl) (by kernel_rfl) (by kernel_rfl) (fun _ _ _ h => h) (Or.inl ⟨by rfl, ?_⟩) (by assumption) ?_
        rotate_left 1
        · (intro w hSw; (try dsimp only at hSw); (first | (go_simp; done) | (go_simp; with_reducible rfl)))
        try simp only [Act.put, List.getElem_toArray, List.getElem_cons_zero, List.getElem_cons_succ, List.setIfInBounds_toArray, List.set_cons_zero, List.set_cons_succ]
        refine wpAnyH_take (i := 8) (oi := _) (v := ?_) rfl (by kernel_rfl) (by kernel_rfl) (by kernel_rfl) (fun _ _ _ h => h) (Or.inl ⟨by rfl, ?_⟩) (by assumption) ?_
        rotate_left 1
        · (intro w hSw; (try dsimp only at hSw); (first | (go_simp; done) | (go_simp; with_reducible rfl)))
        try simp only [Act.put, List.getElem_toArray, List.getElem_cons_zero, List.getElem_cons_succ, List.setIfInBounds_toArray, List.set_cons_zero, List.set_cons_succ]
        refine wpAnyH_take (i := 9) (oi := _) (v := ?_) rfl (by kernel_rfl) (by kernel_rfl) (by kernel_rfl) (fun _ _ _ h => h) (Or.inl ⟨by rfl, ?_⟩) (by assumption) ?_
        rotate_left 1
        · (intro w hSw; (try dsimp only at hSw); (first | (go_simp; done) | (go_simp; with_reducible rfl)))
        try simp only [Act.put, List.getElem_toArray, List.getElem_cons_zero, List.getElem_cons_succ, List.setIfInBounds_toArray, List.set_cons_zero, List.set_cons_succ]
        refine wpAnyH_take (i := 10) (oi := _) (v := ?_) rfl (by kernel_rfl) (by kernel_rfl) (by kernel_rfl) (fun _ _ _ h => h) (Or.inl ⟨by rfl, ?_⟩) (by assumption) ?_
        rotate_left 1
        · (intro w hSw; (try dsimp only at hSw); (first | (go_simp; done) | (go_simp; with_reducible rfl)))
        try simp only [Act.put, List.getElem_toArray, List.getElem_cons_zero, List.getElem_cons_succ, List.setIfInBounds_toArray, List.set_cons_zero, List.set_cons_succ]
        refine wpAnyH_take (i := 11) (oi := _) (v := ?_) rfl (by kernel_rfl) (by kernel_rfl) (by kernel_rfl) (fun _ _ _ h => h) (Or.inl ⟨by rfl, ?_⟩) (by assumption) ?_
        rotate_left 1
        · (intro w hSw; (try dsimp only at hSw); (first | (go_simp; done) | (go_simp; with_reducible rfl)))
        try simp only [Act.put, List.getElem_toArray, List.getElem_cons_zero, List.getElem_cons_succ, List.setIfInBounds_toArray, List.set_cons_zero, List.set_cons_succ]
        refine wpAnyH_done (by kernel_rfl) ?_ _
        refine NoPanic.normal ?_
        have HBb : Hid (Below w.heap.size w wb) := hide ((belowDrew8 hB).trans ((HBa.out.mono (show w.heap.size ≤ wr.heap.size from hB.size)).trans (HOt.out.below (Nat.le_trans hB.size HBa.out.size) (Nat.le_trans hB.size hMB))))
        have hkb : ∀ k, k < wr.heap.size → wb.heap[k]? = wr.heap[k]? := fun k hk => (HOt.out.block k (Nat.lt_of_lt_of_le hk HBa.out.size) (fun e => by have : wr.heap.size ≤ MB := hMB; omega)).trans (HBa.out.block k hk)
        have HXb : Hid (Bx wb XB #[.slice da D.length dc] 31) := hide ((hkb XB xl).trans HX.out)
        have hsb : wr.heap.size ≤ wb.heap.size := Nat.le_trans HBa.out.size HOt.out.size
        have hOb := own_keep HOw.out (w' := wb) (fun k _ hk => hkb k hk)
        clear b0 fa0 fb0 HWi HX HOw
        cases T with
        | some l =>
          simp only [Option.isNone_some, Bool.false_eq_true, if_false, List.append_nil] at HVs
          have HOb : Hid (wb.ownsRow (w.heap.size + 1) 3 1 (.slice sad (vainL D L j).length sc) (vainL D L (j + 1)).length (rcells 1 iC (vainL D L (j + 1)))) := hide (by rw [HVs.out]; exact hOb)
          clear hOb HVs
          simp only [Option.isSome_some]
          go_wp2_with fail
          exact ⟨⟨j + 1, by omega, by go_num, HOb.out, HXb.out, HBb.out⟩, by simp [intOf]; omega⟩
        | none =>
          simp only [Option.isNone_none, if_true] at HVs
          simp only [Option.isSome_none]
          obtain ⟨VN, hVN⟩ : ∃ VN, VN = (vainL D L j).length := ⟨_, rfl⟩
          rw [← hVN] at hOb HOl ⊢
          have HVN := hide hVN
          have hVle : VN ≤ j := by rw [hVN]; exact hvf
          clear hVN
          go_wp2_with (at_builtin; refine wpList_append_sep rfl _ _ 22 rfl (w.heap.size + 1) 3 i0 (.int .i64 0) 1 8 Try.underlying22 Hi.out hz0 hz1 hz2 rfl (by decide) _ _ _ rfl (hOb.alloc _) ⟨wb.heap.size, 0, none⟩ 1 1 [.int .i64 j] rfl rfl ?c1 ?c2 ?c3 ?c4 ?c5 ?_)
          case c1 => exact slC_cells (heap_alloc_new wb _)
          case c2 => intro u hu; simp only [List.mem_singleton] at hu; subst hu; rfl
          case c3 => unfold maxLen; omega
          case c4 => omega
          case c5 => simp; omega
          intro v' w4 hown4 hgrow hap
          have hb4 : Below (w.heap.size + 1) wb w4 := ((Below.refl _ _).alloc (by omega) _).grown hgrow (by simp; omega) (fun k hk => (HOl.out k hk).1)
          have HX4 := hide (HXb.out.below hb4 (by omega))
          have hO4 : w4.ownsRow (w.heap.size + 1) 3 1 v' (vainL D L (j + 1)).length (rcells 1 iC (vainL D L (j + 1))) := by
            rw [HVs.out, rcells_app, List.length_append, ← HVN.out]
            exact hown4
          have HO4 := hide hO4
          have HB4 : Hid (Below w.heap.size w w4) := hide (HBb.out.trans (hb4.mono (by omega)))
          clear hO4 hown4 hgrow hap hb4 hOb
          go_wp2_with fail
          exact ⟨⟨j + 1, by omega, by go_num, HO4.out, HX4.out, HB4.out⟩, by simp [intOf]; omega⟩
      · obtain rfl : j = L.length := by omega
        have HO := hide (own_lower HOw.out (base' := w.heap.size) (by omega))
        clear HOw
        go_wp2_with fail
        exact bodyPost_ret (v := .tuple #[.slice sad (vainL D L L.length).length sc, .bool true]) (by simp [results, Try.results19, go_sem]) rfl ⟨_, rfl, HO.out, hB⟩
end Go.Proofs.Ytfepljcblajfpab.W

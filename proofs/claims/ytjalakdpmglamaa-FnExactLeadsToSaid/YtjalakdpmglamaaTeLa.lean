/-
  A tree put behind others, once: the specification's l4Add. Conditions: at most 600 trees, of at most 1048576 cells. Written by wip/build/mk_lladd.py.
-/
import Derived.Test.YtjalakdpmglamaaJzb
import Derived.Deep.RegionHeld3
namespace Go.Proofs.Ytjalakdpmglamaa.W
open Go.ChangeShapes Go.WideShapes Go.ChangeAt Go.RowKit
set_option linter.unusedVariables false
set_option linter.unusedSimpArgs false

theorem toF_split {out A B : List (Cc × F)} {q : Cc × F} (h : out = A ++ q :: B) : toF out = (toF A).app (.cons q.1 q.2 (toF B)) := by rw [h, toF_app]; rfl

set_option maxRecDepth 20000 in
set_option maxHeartbeats 8000000 in
theorem l4Add_any (out : List (Cc × F)) (p : Cc × F) (s st : Value) (w : World) (ho : KidT w TT (toF out) s) (hp : KidT w TT p.2 st) (hl : out.length ≤ 600) (hf : ∀ q ∈ out, q.2.flat.length ≤ 1048576) (hd : ∀ q ∈ out, (F.cons q.1 q.2 .nil).ard) (hpd : (F.cons p.1 p.2 .nil).ard) :
    Calls Try.prog 21 #[s, .agg #[.int .i64 p.1.k, .int .i64 p.1.n, st]] w fun e w' => ∃ s', e = .returned s' ∧ KidT w' TT (toF (ldA out p)) s' ∧ Below w.heap.size w w' := by
  have HA := hide (ldA_F hd hpd)
  have HT := hide ho
  have HPk := hide hp
  have HF := hide hf
  obtain ⟨sad, sc, hsf⟩ := ho.form
  obtain ⟨pad, pc, hpf⟩ := hp.form
  rw [toF_len] at hsf
  subst hsf
  subst hpf
  obtain ⟨ON, hON⟩ : ∃ ON, ON = out.length := ⟨_, rfl⟩
  obtain ⟨PN, hPN⟩ : ∃ PN, PN = p.2.len := ⟨_, rfl⟩
  obtain ⟨R, hR⟩ : ∃ R, R = ldA out p := ⟨_, rfl⟩
  rw [← hON] at HT hl ⊢
  rw [← hPN] at HPk ⊢
  rw [← hR] at HA ⊢
  obtain ⟨pk, hpk⟩ : ∃ pk, pk = p.1.k := ⟨_, rfl⟩
  obtain ⟨pn, hpn⟩ : ∃ pn, pn = p.1.n := ⟨_, rfl⟩
  rw [← hpk, ← hpn]
  have HPe : Hid (p.1 = ⟨pk, pn⟩) := hide (by rw [hpk, hpn])
  have HON := hide hON
  clear ho hp hf hd hpd hON hPN hR hpk hpn
  have hB0 : Below w.heap.size w (w.alloc (.cells #[.int .i64 pk, .int .i64 pn, .slice pad PN pc] 32)) := (Below.refl _ _).alloc (Nat.le_refl _) _
  go_enter Try.func21, Try.ntmps21
  go_wp2_with fail
  obtain ⟨w0, hw0⟩ : ∃ w0, w0 = w.alloc (.cells #[.int .i64 pk, .int .i64 pn, .slice pad PN pc] 32) := ⟨_, rfl⟩
  have hbT : w0.heap[w.heap.size]? = some (.cells #[.int .i64 pk, .int .i64 pn, .slice pad PN pc] 32 (0, 0)) := by rw [hw0]; exact heap_alloc_new _ _
  have hs0 : w.heap.size < w0.heap.size := by rw [hw0]; simp
  rw [← hw0] at hB0 ⊢
  have HB0 := hide hB0
  have HbT := hide hbT
  clear hw0 hB0 hbT
  go_loopw [9] (fun i w' => ∃ A B : List (Cc × F), out = A ++ B ∧ i = .int .i64 (A.length : Int) ∧ (A.any fun q => sameF (.cons q.1 q.2 .nil) (.cons p.1 p.2 .nil)) = false ∧ Below w0.heap.size w0 w') (fun i _ => ON - (intOf i).toNat)
  case atStart => exact ⟨[], out, rfl, rfl, rfl, Below.refl _ _⟩
  case round =>
    obtain ⟨A, B, hAB, rfl, hno, hBr⟩ := hrel
    have HNoA := hide hno
    have HBr := hide hBr
    have HBw : Hid (Below w.heap.size w wr) := hide (HB0.out.trans (hBr.mono HB0.out.size))
    have hT := (hBr.block w.heap.size hs0).trans HbT.out
    have hsr : w.heap.size < wr.heap.size := by have := hBr.size; omega
    clear hno hBr
    cases B with
    | nil =>
      rw [List.append_nil] at hAB
      subst hAB
      have hl1 := HON.out
      rw [← hl1]
      have HNo : Hid (R = out ++ [p]) := hide (by rw [HA.out, if_neg (by rw [HNoA.out]; simp)])
      obtain ⟨ck, hck⟩ := HT.out.sc3
      rw [toF_len, ← hl1] at hck
      have HSc2 := hide (fun (w' : World) (hb : Below wr.heap.size wr w') => hck w' (HBw.out.trans (hb.mono HBw.out.size)))
      have HSc : Hid (∀ w', Below wr.heap.size wr w' → KidsAt w' TT (toF out) ck ∧ Sc3 w' (.slice sad ON sc) ON ck) := hide HSc2.out
      have HScS : Hid (∀ w', Below wr.heap.size wr w' → Sc3 w' (.slice sad ON sc) ON ck) := hide (fun w' hb => (HSc2.out w' hb).2)
      have f0 : wr.cell? ⟨w.heap.size, 0, none⟩ = some (.int .i64 pk) := (cell_of_blk hT 0).trans rfl
      have f1 : wr.cell? ⟨w.heap.size, 1, none⟩ = some (.int .i64 pn) := (cell_of_blk hT 1).trans rfl
      have f2 : wr.cell? ⟨w.heap.size, 2, none⟩ = some (.slice pad PN pc) := (cell_of_blk hT 2).trans rfl
      have ltwheapsize : w.heap.size < wr.heap.size := hsr
      clear hl1 hck HSc2 hT
      go_wp2_with fail
      refine wp_region_noPanic ?_
      refine wp_region_held_drew (S := fun w' => w'.cell? ⟨w.heap.size, 0, none⟩ = some (.int .i64 pk) ∧ w'.cell? ⟨w.heap.size, 1, none⟩ = some (.int .i64 pn) ∧ w'.cell? ⟨w.heap.size, 2, none⟩ = some (.slice pad PN pc)) (by kernel_rfl) ⟨f0, f1, f2⟩ (fun hHeld => ?_)
      refine wpAnyH_take (i := 1) (oi := _) (v := ?_) rfl (by kernel_rfl) (by kernel_rfl) (by kernel_rfl) (fun _ _ _ h => h) (Or.inl ⟨by rfl, ?_⟩) (by assumption) ?_
      rotate_left 1
      · (intro w hSw; (try dsimp only at hSw); (first | (go_simp; done) | (go_simp; with_reducible rfl)))
      try simp only [Act.put, List.getElem_toArray, List.getElem_cons_zero, List.getElem_cons_succ, List.setIfInBounds_toArray, List.set_cons_zero, List.set_cons_succ]
      refine wpAnyH_take (i := 3) (oi := _) (v := ?_) rfl (by kernel_rfl) (by kernel_rfl) (by kernel_rfl) (fun _ _ _ h => h) (Or.inl ⟨by rfl, ?_⟩) (by assumption) ?_
      rotate_left 1
      · (intro w hSw; (try dsimp only at hSw); (first | (go_simp; done) | (go_simp; with_reducible rfl)))
      try simp only [Act.put, List.getElem_toArray, List.getElem_cons_zero, List.getElem_cons_succ, List.setIfInBounds_toArray, List.set_cons_zero, List.set_cons_succ]
      obtain ⟨Wd, hWd⟩ : ∃ Wd, Wd = wr.drew := ⟨_, rfl⟩
      have HBWd : Hid (Below wr.heap.size wr Wd) := hide (by rw [hWd]; exact belowDrew (Below.refl _ _))
      have hsd : wr.heap.size ≤ Wd.heap.size := HBWd.out.size
      rw [← hWd]
      clear hWd
      refine wpAnyH_ready (rs := [0, 4]) (by kernel_rfl) (by simp) ?_
      refine AllReadyH.cons (o := _) rfl (fun K hK => ?_) (AllReadyH.cons (o := _) rfl (fun K hK => ?_) AllReadyH.nil)
      · have hw3 : Below wr.heap.size wr (Wd.alloc (.cells #[] 32)) := HBWd.out.alloc HBWd.out.size _
        have HBw3x := hide hw3
        have k0 := (HBw3x.out.cell (p := ⟨w.heap.size, 0, none⟩) ltwheapsize).trans f0
        have k1 := (HBw3x.out.cell (p := ⟨w.heap.size, 1, none⟩) ltwheapsize).trans f1
        have k2 := (HBw3x.out.cell (p := ⟨w.heap.size, 2, none⟩) ltwheapsize).trans f2
        go_simp
        refine hK.out _ _ ⟨k0, k1, k2⟩ (fun hHeld => ?_)
        clear hK K
        try simp only [Act.put, List.getElem_toArray, List.getElem_cons_zero, List.getElem_cons_succ, List.setIfInBounds_toArray, List.set_cons_zero, List.set_cons_succ]
        have hEn : (Wd.alloc (.cells #[] 32)).heap[Wd.heap.size]? = some (.cells #[] 32 (0, 0)) := heap_alloc_new _ _
        obtain ⟨w3, hw3e⟩ : ∃ w3, w3 = Wd.alloc (.cells #[] 32) := ⟨_, rfl⟩
        have hszw3 : w3.heap.size = Wd.heap.size + 1 := by rw [hw3e]; simp
        rw [← hw3e] at hEn HBw3x ⊢
        have HBw3 := HBw3x
        have HE := hide hEn
        have hltE : Wd.heap.size < w3.heap.size := by omega
        have hslw3 : Wd.heap.size < w3.heap.size := by omega
        have hsWw3 : wr.heap.size ≤ w3.heap.size := by omega
        have Hszw3 := hide hszw3
        clear hw3 hw3e hszw3
        refine wpAnyH_ready (rs := [2, 4]) (by kernel_rfl) (by simp) ?_
        refine AllReadyH.cons (o := _) rfl (fun K hK => ?_) (AllReadyH.cons (o := _) rfl (fun K hK => ?_) AllReadyH.nil)
        · refine step_app3 rfl _ _ rfl wr.heap.size (.slice (some ⟨Wd.heap.size, 0, none⟩) 0 0) 0 [] rfl (own0 HE.out (by omega)) _ ON ck rfl (HScS.out w3 HBw3.out) ?_ ?_ ?_
          · omega
          · exact HBw3.out.size
          intro v1 w1 hown1 hgrow1 hap1
          have HBw4 : Hid (Below wr.heap.size wr w1) := hide (HBw3.out.grown hgrow1 HBw3.out.size (fun k hk => by have h0 : Wd.heap.size = k := (by simpa [Value.ownBlock] using hk); omega))
          have hown1' : w1.ownsRow wr.heap.size 32 3 v1 ON ck := by simpa using hown1
          obtain ⟨v1a, v1c, rfl⟩ := iOwn_form hown1'
          have HO1 := hide hown1'
          have hs1 : wr.heap.size ≤ w1.heap.size := HBw4.out.size
          have k0 := (HBw4.out.cell (p := ⟨w.heap.size, 0, none⟩) ltwheapsize).trans f0
          have k1 := (HBw4.out.cell (p := ⟨w.heap.size, 1, none⟩) ltwheapsize).trans f1
          have k2 := (HBw4.out.cell (p := ⟨w.heap.size, 2, none⟩) ltwheapsize).trans f2
          clear hown1 hgrow1 hap1 hown1'
          refine hK.out _ _ ⟨k0, k1, k2⟩ (fun hHeld => ?_)
          clear hK K
          try simp only [Act.put, List.getElem_toArray, List.getElem_cons_zero, List.getElem_cons_succ, List.setIfInBounds_toArray, List.set_cons_zero, List.set_cons_succ]
          obtain ⟨w4, hw4e⟩ : ∃ w4, w4 = w1 := ⟨_, rfl⟩
          subst hw4e
          refine wpAnyH_ready (rs := [4]) (by kernel_rfl) (by simp) ?_
          refine AllReadyH.cons (o := _) rfl (fun K hK => ?_) AllReadyH.nil
          have hw5 : Below wr.heap.size wr (w4.alloc (.cells #[.int .i64 pk, .int .i64 pn, .slice pad PN pc] 32)) := HBw4.out.alloc HBw4.out.size _
          have HBw5x := hide hw5
          have k0 := (HBw5x.out.cell (p := ⟨w.heap.size, 0, none⟩) ltwheapsize).trans f0
          have k1 := (HBw5x.out.cell (p := ⟨w.heap.size, 1, none⟩) ltwheapsize).trans f1
          have k2 := (HBw5x.out.cell (p := ⟨w.heap.size, 2, none⟩) ltwheapsize).trans f2
          go_simp
          refine hK.out _ _ ⟨k0, k1, k2⟩ (fun hHeld => ?_)
          clear hK K
          try simp only [Act.put, List.getElem_toArray, List.getElem_cons_zero, List.getElem_cons_succ, List.setIfInBounds_toArray, List.set_cons_zero, List.set_cons_succ]
          have hBn : (w4.alloc (.cells #[.int .i64 pk, .int .i64 pn, .slice pad PN pc] 32)).heap[w4.heap.size]? = some (.cells #[.int .i64 pk, .int .i64 pn, .slice pad PN pc] 32 (0, 0)) := heap_alloc_new _ _
          have HO1n := hide (World.ownsRow.alloc HO1.out (.cells #[.int .i64 pk, .int .i64 pn, .slice pad PN pc] 32))
          obtain ⟨w5, hw5e⟩ : ∃ w5, w5 = w4.alloc (.cells #[.int .i64 pk, .int .i64 pn, .slice pad PN pc] 32) := ⟨_, rfl⟩
          have hszw5 : w5.heap.size = w4.heap.size + 1 := by rw [hw5e]; simp
          rw [← hw5e] at hBn HO1n HBw5x ⊢
          have HBw5 := HBw5x
          have HB := hide hBn
          have hltB : w4.heap.size < w5.heap.size := by omega
          have HO1 := HO1n
          have hslw5 : w4.heap.size < w5.heap.size := by omega
          have hsWw5 : wr.heap.size ≤ w5.heap.size := by omega
          have Hszw5 := hide hszw5
          clear hw5 hw5e hszw5
          refine wpAnyH_ready (rs := [5]) (by kernel_rfl) (by simp) ?_
          refine AllReadyH.cons (o := _) rfl (fun K hK => ?_) AllReadyH.nil
          refine step_app3 rfl _ _ rfl wr.heap.size (.slice v1a ON v1c) ON ck rfl HO1.out _ 1 (tC ⟨pk, pn⟩ (.slice pad PN pc)) rfl (sc3_box (x := ⟨pk, pn⟩) rfl HB.out) ?_ ?_ ?_
          · omega
          · exact HBw5.out.size
          intro v2 w2 hown2 hgrow2 hap2
          have HL1 := hide (fun k hk => (HO1.out.lt k hk).1)
          have HB2 : Hid (Below wr.heap.size wr w2) := hide (HBw5.out.grown hgrow2 HBw5.out.size (fun k hk => HL1.out k hk))
          obtain ⟨v2a, v2c, rfl⟩ := iOwn_form hown2
          have HO2 : Hid (w2.ownsRow wr.heap.size 32 3 (.slice v2a (ON + 1) v2c) (ON + 1) (ck ++ tC ⟨pk, pn⟩ (.slice pad PN pc))) := hide (by simpa using hown2)
          have hs2 : wr.heap.size ≤ w2.heap.size := HB2.out.size
          have g0 := (HB2.out.cell (p := ⟨w.heap.size, 0, none⟩) ltwheapsize).trans f0
          have g1 := (HB2.out.cell (p := ⟨w.heap.size, 1, none⟩) ltwheapsize).trans f1
          have g2 := (HB2.out.cell (p := ⟨w.heap.size, 2, none⟩) ltwheapsize).trans f2
          clear hown2 hgrow2 hap2 HL1
          refine hK.out _ _ ⟨g0, g1, g2⟩ (fun hHeld => ?_)
          clear hK K
          try simp only [Act.put, List.getElem_toArray, List.getElem_cons_zero, List.getElem_cons_succ, List.setIfInBounds_toArray, List.set_cons_zero, List.set_cons_succ]
          refine wpAnyH_take (i := 6) (oi := _) (v := ?_) rfl (by kernel_rfl) (by kernel_rfl) (by kernel_rfl) (fun _ _ _ h => h) (Or.inl ⟨by rfl, ?_⟩) (by assumption) ?_
          rotate_left 1
          · (intro w hSw; (try dsimp only at hSw); (first | (go_simp; done) | (go_simp; with_reducible rfl)))
          try simp only [Act.put, List.getElem_toArray, List.getElem_cons_zero, List.getElem_cons_succ, List.setIfInBounds_toArray, List.set_cons_zero, List.set_cons_succ]
          refine wpAnyH_done (by kernel_rfl) ?_ _
          refine NoPanic.normal ?_
          have HKt : Hid (KidT w2 TT (toF (out ++ [p])) (.slice v2a (ON + 1) v2c)) := hide (by
            rw [toF_app]
            show KidT _ _ ((toF out).app (.cons p.1 p.2 .nil)) _
            rw [HPe.out]
            exact kid_copied (p := (⟨pk, pn⟩, p.2)) HO2.out (by rw [toF_len]; exact HON.out) (HSc.out w2 HB2.out).1 (HPk.out.below (HBw.out.trans (HB2.out.mono HBw.out.size))) (fun _ _ _ => trivial))
          have HBf : Hid (Below w.heap.size w w2) := hide (HBw.out.trans (HB2.out.mono HBw.out.size))
          clear HO2 HB2
          go_wp2_with fail
          go_ret
          exact ⟨_, rfl, by rw [HNo.out]; exact HKt.out, HBf.out⟩
        · have hw4 : Below wr.heap.size wr (w3.alloc (.cells #[.int .i64 pk, .int .i64 pn, .slice pad PN pc] 32)) := HBw3.out.alloc HBw3.out.size _
          have HBw4x := hide hw4
          have k0 := (HBw4x.out.cell (p := ⟨w.heap.size, 0, none⟩) ltwheapsize).trans f0
          have k1 := (HBw4x.out.cell (p := ⟨w.heap.size, 1, none⟩) ltwheapsize).trans f1
          have k2 := (HBw4x.out.cell (p := ⟨w.heap.size, 2, none⟩) ltwheapsize).trans f2
          go_simp
          refine hK.out _ _ ⟨k0, k1, k2⟩ (fun hHeld => ?_)
          clear hK K
          try simp only [Act.put, List.getElem_toArray, List.getElem_cons_zero, List.getElem_cons_succ, List.setIfInBounds_toArray, List.set_cons_zero, List.set_cons_succ]
          have hBn : (w3.alloc (.cells #[.int .i64 pk, .int .i64 pn, .slice pad PN pc] 32)).heap[w3.heap.size]? = some (.cells #[.int .i64 pk, .int .i64 pn, .slice pad PN pc] 32 (0, 0)) := heap_alloc_new _ _
          have hEo : (w3.alloc (.cells #[.int .i64 pk, .int .i64 pn, .slice pad PN pc] 32)).heap[Wd.heap.size]? = some (.cells #[] 32 (0, 0)) := (heap_alloc_old _ _ hltE).trans HE.out
          obtain ⟨w4, hw4e⟩ : ∃ w4, w4 = w3.alloc (.cells #[.int .i64 pk, .int .i64 pn, .slice pad PN pc] 32) := ⟨_, rfl⟩
          have hszw4 : w4.heap.size = w3.heap.size + 1 := by rw [hw4e]; simp
          rw [← hw4e] at hBn hEo HBw4x ⊢
          have HBw4 := HBw4x
          have HB := hide hBn
          have hltB : w3.heap.size < w4.heap.size := by omega
          have HE := hide hEo
          have hltE : Wd.heap.size < w4.heap.size := by omega
          have hslw4 : w3.heap.size < w4.heap.size := by omega
          have hsWw4 : wr.heap.size ≤ w4.heap.size := by omega
          have Hszw4 := hide hszw4
          clear hw4 hw4e hszw4
          refine wpAnyH_ready (rs := [2]) (by kernel_rfl) (by simp) ?_
          refine AllReadyH.cons (o := _) rfl (fun K hK => ?_) AllReadyH.nil
          refine step_app3 rfl _ _ rfl wr.heap.size (.slice (some ⟨Wd.heap.size, 0, none⟩) 0 0) 0 [] rfl (own0 HE.out (by omega)) _ ON ck rfl (HScS.out w4 HBw4.out) ?_ ?_ ?_
          · omega
          · exact HBw4.out.size
          intro v1 w1 hown1 hgrow1 hap1
          have HBw5 : Hid (Below wr.heap.size wr w1) := hide (HBw4.out.grown hgrow1 HBw4.out.size (fun k hk => by have h0 : Wd.heap.size = k := (by simpa [Value.ownBlock] using hk); omega))
          have hBo : w1.heap[w3.heap.size]? = some (.cells #[.int .i64 pk, .int .i64 pn, .slice pad PN pc] 32 (0, 0)) := (hgrow1.block w3.heap.size hltB (fun e => by simp [Value.ownBlock] at e; omega)).trans HB.out
          have HB := hide hBo
          have hltB : w3.heap.size < w1.heap.size := by have := hgrow1.size; omega
          have hown1' : w1.ownsRow wr.heap.size 32 3 v1 ON ck := by simpa using hown1
          obtain ⟨v1a, v1c, rfl⟩ := iOwn_form hown1'
          have HO1 := hide hown1'
          have hs1 : wr.heap.size ≤ w1.heap.size := HBw5.out.size
          have k0 := (HBw5.out.cell (p := ⟨w.heap.size, 0, none⟩) ltwheapsize).trans f0
          have k1 := (HBw5.out.cell (p := ⟨w.heap.size, 1, none⟩) ltwheapsize).trans f1
          have k2 := (HBw5.out.cell (p := ⟨w.heap.size, 2, none⟩) ltwheapsize).trans f2
          clear hown1 hgrow1 hap1 hown1'
          refine hK.out _ _ ⟨k0, k1, k2⟩ (fun hHeld => ?_)
          clear hK K
          try simp only [Act.put, List.getElem_toArray, List.getElem_cons_zero, List.getElem_cons_succ, List.setIfInBounds_toArray, List.set_cons_zero, List.set_cons_succ]
          obtain ⟨w5, hw5e⟩ : ∃ w5, w5 = w1 := ⟨_, rfl⟩
          subst hw5e
          refine wpAnyH_ready (rs := [5]) (by kernel_rfl) (by simp) ?_
          refine AllReadyH.cons (o := _) rfl (fun K hK => ?_) AllReadyH.nil
          refine step_app3 rfl _ _ rfl wr.heap.size (.slice v1a ON v1c) ON ck rfl HO1.out _ 1 (tC ⟨pk, pn⟩ (.slice pad PN pc)) rfl (sc3_box (x := ⟨pk, pn⟩) rfl HB.out) ?_ ?_ ?_
          · omega
          · exact HBw5.out.size
          intro v2 w2 hown2 hgrow2 hap2
          have HL1 := hide (fun k hk => (HO1.out.lt k hk).1)
          have HB2 : Hid (Below wr.heap.size wr w2) := hide (HBw5.out.grown hgrow2 HBw5.out.size (fun k hk => HL1.out k hk))
          obtain ⟨v2a, v2c, rfl⟩ := iOwn_form hown2
          have HO2 : Hid (w2.ownsRow wr.heap.size 32 3 (.slice v2a (ON + 1) v2c) (ON + 1) (ck ++ tC ⟨pk, pn⟩ (.slice pad PN pc))) := hide (by simpa using hown2)
          have hs2 : wr.heap.size ≤ w2.heap.size := HB2.out.size
          have g0 := (HB2.out.cell (p := ⟨w.heap.size, 0, none⟩) ltwheapsize).trans f0
          have g1 := (HB2.out.cell (p := ⟨w.heap.size, 1, none⟩) ltwheapsize).trans f1
          have g2 := (HB2.out.cell (p := ⟨w.heap.size, 2, none⟩) ltwheapsize).trans f2
          clear hown2 hgrow2 hap2 HL1
          refine hK.out _ _ ⟨g0, g1, g2⟩ (fun hHeld => ?_)
          clear hK K
          try simp only [Act.put, List.getElem_toArray, List.getElem_cons_zero, List.getElem_cons_succ, List.setIfInBounds_toArray, List.set_cons_zero, List.set_cons_succ]
          refine wpAnyH_take (i := 6) (oi := _) (v := ?_) rfl (by kernel_rfl) (by kernel_rfl) (by kernel_rfl) (fun _ _ _ h => h) (Or.inl ⟨by rfl, ?_⟩) (by assumption) ?_
          rotate_left 1
          · (intro w hSw; (try dsimp only at hSw); (first | (go_simp; done) | (go_simp; with_reducible rfl)))
          try simp only [Act.put, List.getElem_toArray, List.getElem_cons_zero, List.getElem_cons_succ, List.setIfInBounds_toArray, List.set_cons_zero, List.set_cons_succ]
          refine wpAnyH_done (by kernel_rfl) ?_ _
          refine NoPanic.normal ?_
          have HKt : Hid (KidT w2 TT (toF (out ++ [p])) (.slice v2a (ON + 1) v2c)) := hide (by
            rw [toF_app]
            show KidT _ _ ((toF out).app (.cons p.1 p.2 .nil)) _
            rw [HPe.out]
            exact kid_copied (p := (⟨pk, pn⟩, p.2)) HO2.out (by rw [toF_len]; exact HON.out) (HSc.out w2 HB2.out).1 (HPk.out.below (HBw.out.trans (HB2.out.mono HBw.out.size))) (fun _ _ _ => trivial))
          have HBf : Hid (Below w.heap.size w w2) := hide (HBw.out.trans (HB2.out.mono HBw.out.size))
          clear HO2 HB2
          go_wp2_with fail
          go_ret
          exact ⟨_, rfl, by rw [HNo.out]; exact HKt.out, HBf.out⟩
      · have hw3 : Below wr.heap.size wr (Wd.alloc (.cells #[.int .i64 pk, .int .i64 pn, .slice pad PN pc] 32)) := HBWd.out.alloc HBWd.out.size _
        have HBw3x := hide hw3
        have k0 := (HBw3x.out.cell (p := ⟨w.heap.size, 0, none⟩) ltwheapsize).trans f0
        have k1 := (HBw3x.out.cell (p := ⟨w.heap.size, 1, none⟩) ltwheapsize).trans f1
        have k2 := (HBw3x.out.cell (p := ⟨w.heap.size, 2, none⟩) ltwheapsize).trans f2
        go_simp
        refine hK.out _ _ ⟨k0, k1, k2⟩ (fun hHeld => ?_)
        clear hK K
        try simp only [Act.put, List.getElem_toArray, List.getElem_cons_zero, List.getElem_cons_succ, List.setIfInBounds_toArray, List.set_cons_zero, List.set_cons_succ]
        have hBn : (Wd.alloc (.cells #[.int .i64 pk, .int .i64 pn, .slice pad PN pc] 32)).heap[Wd.heap.size]? = some (.cells #[.int .i64 pk, .int .i64 pn, .slice pad PN pc] 32 (0, 0)) := heap_alloc_new _ _
        obtain ⟨w3, hw3e⟩ : ∃ w3, w3 = Wd.alloc (.cells #[.int .i64 pk, .int .i64 pn, .slice pad PN pc] 32) := ⟨_, rfl⟩
        have hszw3 : w3.heap.size = Wd.heap.size + 1 := by rw [hw3e]; simp
        rw [← hw3e] at hBn HBw3x ⊢
        have HBw3 := HBw3x
        have HB := hide hBn
        have hltB : Wd.heap.size < w3.heap.size := by omega
        have hslw3 : Wd.heap.size < w3.heap.size := by omega
        have hsWw3 : wr.heap.size ≤ w3.heap.size := by omega
        have Hszw3 := hide hszw3
        clear hw3 hw3e hszw3
        refine wpAnyH_ready (rs := [0]) (by kernel_rfl) (by simp) ?_
        refine AllReadyH.cons (o := _) rfl (fun K hK => ?_) AllReadyH.nil
        have hw4 : Below wr.heap.size wr (w3.alloc (.cells #[] 32)) := HBw3.out.alloc HBw3.out.size _
        have HBw4x := hide hw4
        have k0 := (HBw4x.out.cell (p := ⟨w.heap.size, 0, none⟩) ltwheapsize).trans f0
        have k1 := (HBw4x.out.cell (p := ⟨w.heap.size, 1, none⟩) ltwheapsize).trans f1
        have k2 := (HBw4x.out.cell (p := ⟨w.heap.size, 2, none⟩) ltwheapsize).trans f2
        go_simp
        refine hK.out _ _ ⟨k0, k1, k2⟩ (fun hHeld => ?_)
        clear hK K
        try simp only [Act.put, List.getElem_toArray, List.getElem_cons_zero, List.getElem_cons_succ, List.setIfInBounds_toArray, List.set_cons_zero, List.set_cons_succ]
        have hEn : (w3.alloc (.cells #[] 32)).heap[w3.heap.size]? = some (.cells #[] 32 (0, 0)) := heap_alloc_new _ _
        have hBo : (w3.alloc (.cells #[] 32)).heap[Wd.heap.size]? = some (.cells #[.int .i64 pk, .int .i64 pn, .slice pad PN pc] 32 (0, 0)) := (heap_alloc_old _ _ hltB).trans HB.out
        obtain ⟨w4, hw4e⟩ : ∃ w4, w4 = w3.alloc (.cells #[] 32) := ⟨_, rfl⟩
        have hszw4 : w4.heap.size = w3.heap.size + 1 := by rw [hw4e]; simp
        rw [← hw4e] at hEn hBo HBw4x ⊢
        have HBw4 := HBw4x
        have HE := hide hEn
        have hltE : w3.heap.size < w4.heap.size := by omega
        have HB := hide hBo
        have hltB : Wd.heap.size < w4.heap.size := by omega
        have hslw4 : w3.heap.size < w4.heap.size := by omega
        have hsWw4 : wr.heap.size ≤ w4.heap.size := by omega
        have Hszw4 := hide hszw4
        clear hw4 hw4e hszw4
        refine wpAnyH_ready (rs := [2]) (by kernel_rfl) (by simp) ?_
        refine AllReadyH.cons (o := _) rfl (fun K hK => ?_) AllReadyH.nil
        refine step_app3 rfl _ _ rfl wr.heap.size (.slice (some ⟨w3.heap.size, 0, none⟩) 0 0) 0 [] rfl (own0 HE.out (by omega)) _ ON ck rfl (HScS.out w4 HBw4.out) ?_ ?_ ?_
        · omega
        · exact HBw4.out.size
        intro v1 w1 hown1 hgrow1 hap1
        have HBw5 : Hid (Below wr.heap.size wr w1) := hide (HBw4.out.grown hgrow1 HBw4.out.size (fun k hk => by have h0 : w3.heap.size = k := (by simpa [Value.ownBlock] using hk); omega))
        have hBo : w1.heap[Wd.heap.size]? = some (.cells #[.int .i64 pk, .int .i64 pn, .slice pad PN pc] 32 (0, 0)) := (hgrow1.block Wd.heap.size hltB (fun e => by simp [Value.ownBlock] at e; omega)).trans HB.out
        have HB := hide hBo
        have hltB : Wd.heap.size < w1.heap.size := by have := hgrow1.size; omega
        have hown1' : w1.ownsRow wr.heap.size 32 3 v1 ON ck := by simpa using hown1
        obtain ⟨v1a, v1c, rfl⟩ := iOwn_form hown1'
        have HO1 := hide hown1'
        have hs1 : wr.heap.size ≤ w1.heap.size := HBw5.out.size
        have k0 := (HBw5.out.cell (p := ⟨w.heap.size, 0, none⟩) ltwheapsize).trans f0
        have k1 := (HBw5.out.cell (p := ⟨w.heap.size, 1, none⟩) ltwheapsize).trans f1
        have k2 := (HBw5.out.cell (p := ⟨w.heap.size, 2, none⟩) ltwheapsize).trans f2
        clear hown1 hgrow1 hap1 hown1'
        refine hK.out _ _ ⟨k0, k1, k2⟩ (fun hHeld => ?_)
        clear hK K
        try simp only [Act.put, List.getElem_toArray, List.getElem_cons_zero, List.getElem_cons_succ, List.setIfInBounds_toArray, List.set_cons_zero, List.set_cons_succ]
        obtain ⟨w5, hw5e⟩ : ∃ w5, w5 = w1 := ⟨_, rfl⟩
        subst hw5e
        refine wpAnyH_ready (rs := [5]) (by kernel_rfl) (by simp) ?_
        refine AllReadyH.cons (o := _) rfl (fun K hK => ?_) AllReadyH.nil
        refine step_app3 rfl _ _ rfl wr.heap.size (.slice v1a ON v1c) ON ck rfl HO1.out _ 1 (tC ⟨pk, pn⟩ (.slice pad PN pc)) rfl (sc3_box (x := ⟨pk, pn⟩) rfl HB.out) ?_ ?_ ?_
        · omega
        · exact HBw5.out.size
        intro v2 w2 hown2 hgrow2 hap2
        have HL1 := hide (fun k hk => (HO1.out.lt k hk).1)
        have HB2 : Hid (Below wr.heap.size wr w2) := hide (HBw5.out.grown hgrow2 HBw5.out.size (fun k hk => HL1.out k hk))
        obtain ⟨v2a, v2c, rfl⟩ := iOwn_form hown2
        have HO2 : Hid (w2.ownsRow wr.heap.size 32 3 (.slice v2a (ON + 1) v2c) (ON + 1) (ck ++ tC ⟨pk, pn⟩ (.slice pad PN pc))) := hide (by simpa using hown2)
        have hs2 : wr.heap.size ≤ w2.heap.size := HB2.out.size
        have g0 := (HB2.out.cell (p := ⟨w.heap.size, 0, none⟩) ltwheapsize).trans f0
        have g1 := (HB2.out.cell (p := ⟨w.heap.size, 1, none⟩) ltwheapsize).trans f1
        have g2 := (HB2.out.cell (p := ⟨w.heap.size, 2, none⟩) ltwheapsize).trans f2
        clear hown2 hgrow2 hap2 HL1
        refine hK.out _ _ ⟨g0, g1, g2⟩ (fun hHeld => ?_)
        clear hK K
        try simp only [Act.put, List.getElem_toArray, List.getElem_cons_zero, List.getElem_cons_succ, List.setIfInBounds_toArray, List.set_cons_zero, List.set_cons_succ]
        refine wpAnyH_take (i := 6) (oi := _) (v := ?_) rfl (by kernel_rfl) (by kernel_rfl) (by kernel_rfl) (fun _ _ _ h => h) (Or.inl ⟨by rfl, ?_⟩) (by assumption) ?_
        rotate_left 1
        · (intro w hSw; (try dsimp only at hSw); (first | (go_simp; done) | (go_simp; with_reducible rfl)))
        try simp only [Act.put, List.getElem_toArray, List.getElem_cons_zero, List.getElem_cons_succ, List.setIfInBounds_toArray, List.set_cons_zero, List.set_cons_succ]
        refine wpAnyH_done (by kernel_rfl) ?_ _
        refine NoPanic.normal ?_
        have HKt : Hid (KidT w2 TT (toF (out ++ [p])) (.slice v2a (ON + 1) v2c)) := hide (by
          rw [toF_app]
          show KidT _ _ ((toF out).app (.cons p.1 p.2 .nil)) _
          rw [HPe.out]
          exact kid_copied (p := (⟨pk, pn⟩, p.2)) HO2.out (by rw [toF_len]; exact HON.out) (HSc.out w2 HB2.out).1 (HPk.out.below (HBw.out.trans (HB2.out.mono HBw.out.size))) (fun _ _ _ => trivial))
        have HBf : Hid (Below w.heap.size w w2) := hide (HBw.out.trans (HB2.out.mono HBw.out.size))
        clear HO2 HB2
        go_wp2_with fail
        go_ret
        exact ⟨_, rfl, by rw [HNo.out]; exact HKt.out, HBf.out⟩
    | cons q B =>
      have hlt : A.length < ON := by rw [HON.out, hAB]; simp
      have hlt' : (A.length : Int) < (ON : Int) := by omega
      have ha0 : (0 : Int) ≤ (A.length : Int) := by omega
      have hTq : KidT w TT ((toF A).app (.cons q.1 q.2 (toF B))) (.slice sad ON sc) := by rw [← toF_split hAB]; exact HT.out
      obtain ⟨g, cap, sq, he, hPg, hg, hTz, p0, p1, p2⟩ := KidT.kid hTq
      simp only [Value.slice.injEq] at he
      obtain ⟨rfl, -, rfl⟩ := he
      rw [toF_len] at p0 p1 p2
      have hqf := HF.out q (by rw [hAB]; simp)
      have HC := hide (fun (o : Obj) => l4Same_any q.2 q.1 p.1 p.2 sq (.slice pad PN pc) TT TT (wr.alloc o) hqf ((hTz.below HBw.out).below ((Below.refl _ _).alloc (Nat.le_refl _) o)) ((HPk.out.below HBw.out).below ((Below.refl _ _).alloc (Nat.le_refl _) o)))
      have hpe := HPe.out
      rw [hpe] at HC
      obtain ⟨qad, qc, hqe⟩ := hTz.form
      obtain ⟨QN, hQN⟩ : ∃ QN, QN = q.2.len := ⟨_, rfl⟩
      rw [← hQN] at hqe
      subst hqe
      have q0 := (HBw.out.cell (p := ⟨g, A.length * 3, none⟩) hg).trans p0
      have q1 := (HBw.out.cell (p := ⟨g, A.length * 3 + 1, none⟩) hg).trans p1
      have q2 := (HBw.out.cell (p := ⟨g, A.length * 3 + 2, none⟩) hg).trans p2
      have T0 : ∀ o : Obj, (wr.alloc o).cell? ⟨w.heap.size, 0, none⟩ = some (.int .i64 pk) := fun o => (cell_of_blk ((heap_alloc_old _ _ hsr).trans hT) 0).trans rfl
      have T1 : ∀ o : Obj, (wr.alloc o).cell? ⟨w.heap.size, 1, none⟩ = some (.int .i64 pn) := fun o => (cell_of_blk ((heap_alloc_old _ _ hsr).trans hT) 1).trans rfl
      have T2 : ∀ o : Obj, (wr.alloc o).cell? ⟨w.heap.size, 2, none⟩ = some (.slice pad PN pc) := fun o => (cell_of_blk ((heap_alloc_old _ _ hsr).trans hT) 2).trans rfl
      obtain ⟨SM, hSM⟩ : ∃ SM, SM = sameF (.cons q.1 q.2 .nil) (.cons p.1 p.2 .nil) := ⟨_, rfl⟩
      have HSM := hide hSM
      rw [hpe] at hSM
      rw [← hSM] at HC
      have HAB : Hid (out = (A ++ [q]) ++ B) := hide (by rw [hAB]; simp)
      obtain ⟨AN, hAN⟩ : ∃ AN, AN = A.length := ⟨_, rfl⟩
      rw [← hAN] at hlt hlt' ha0 q0 q1 q2 ⊢
      have HAN := hide hAN
      clear hAB hTq hTz hPg p0 p1 p2 hqf hpe hQN hSM hAN
      go_wp2_with fail
      refine Calls.mono (HC.out _) ?_
      rintro e w2 ⟨rfl, hb2⟩
      have hb2' : Below wr.heap.size wr w2 := ((Below.refl _ wr).alloc (Nat.le_refl _) _).trans (hb2.mono (by simp))
      clear HC T0 T1 T2 q0 q1 q2 hb2
      cases SM with
      | true =>
        have hre : R = out := by
          rw [HA.out, if_pos]
          rw [HAB.out, List.any_append, List.any_append]
          simp [← HSM.out]
        have HRe := hide hre
        have HBe : Hid (Below w.heap.size w w2) := hide (HBw.out.trans (hb2'.mono HBw.out.size))
        clear hre
        go_wp2_with fail
        go_ret
        exact ⟨_, rfl, by rw [HRe.out]; exact HT.out.below HBe.out, HBe.out⟩
      | false =>
        go_wp2_with fail
        refine ⟨⟨A ++ [q], B, HAB.out, by rw [List.length_append, List.length_singleton, ← HAN.out]; go_num, ?_, HBr.out.trans (hb2'.mono HBr.out.size)⟩, by simp [intOf]; omega⟩
        rw [List.any_append, HNoA.out]
        simp [← HSM.out]
end Go.Proofs.Ytjalakdpmglamaa.W

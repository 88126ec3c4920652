/-
  What some rows miss, by the program: within at rows behind a constructor. Conditions: good rows. Written by wip/build/mk_msk.py.
-/
import Derived.Test.YtfepljcblajfpabMsL
namespace Go.Proofs.Ytfepljcblajfpab.W
open Go.ChangeShapes Go.WideShapes Go.ChangeAt Go.RowKit
open Go.Maps
set_option linter.unusedVariables false
set_option linter.unusedSimpArgs false

def gF (D : List Int) (a : F) (R : List F) (c : Nat) : Option (List Pt) := match opn D c a with | none => none | some a' => (wn D a' (R.filterMap (opn D c))).map ((⟨2, (c : Int)⟩ : Pt) :: ·)
theorem gF_none {D : List Int} {a : F} {R : List F} {c : Nat} (h : opn D c a = none) : gF D a R c = none := by unfold gF; rw [h]
theorem gF_some {D : List Int} {a a' : F} {R : List F} {c : Nat} (h : opn D c a = some a') : gF D a R c = (wn D a' (R.filterMap (opn D c))).map ((⟨2, (c : Int)⟩ : Pt) :: ·) := by unfold gF; rw [h]

set_option maxRecDepth 20000 in
set_option maxHeartbeats 8000000 in
theorem within_of (f : Nat) (D : List Int) (hd : goodD D = true) (A0 : List Pt) (R0 : List (List Pt)) (da : Option Addr) (dc MB : Nat) (a : F) (R : List F) (vr vR : Value) (w : World) (h : WiIn D A0 R0 da dc MB a R vr vR w) (hA : A0.length ≤ 40) (hR0 : ∀ b ∈ R0, b.length ≤ 40) (h8 : R0.length ≤ 8) (ih : (∀ (a : F) (R : List F) (vr vR : Value) (w : World), mea a R < f → WiIn D A0 R0 da dc MB a R vr vR w → Calls Try.prog 33 #[.agg #[.slice da D.length dc, .map (some MB)], vr, vR] w fun e w' => WiOut D a R w.heap.size w' e ∧ KM D A0 R0 w' MB ∧ Oth MB w w')) (hf : mea a R < f + 1) (x : Pt) (k r : F) (hax : a = .cons x k r) (hR : R ≠ []) (hx : x.kd = 2) :
    Calls Try.prog 33 #[.agg #[.slice da D.length dc, .map (some MB)], vr, vR] w fun e w' => WiOut D a R w.heap.size w' e ∧ KM D A0 R0 w' MB ∧ Oth MB w w' := by
  have hdl := (goodD_len hd).1
  have hdl1 := (goodD_len hd).2
  have hnam : nam1 a = true ∨ R.any nam1 = true := .inl (by rw [hax]; simp [nam1, hx])
  have hwn : wn D a R = fstS (fun c => match opn D c a with | none => none | some a' => (wn D a' (R.filterMap (opn D c))).map ((⟨2, (c : Int)⟩ : Pt) :: ·)) D.length D.length := by
    rw [hax]
    rw [hax] at h
    exact wn_con hd h.wr hR (fun e => by omega)
  have hfl : a.flat = x :: (k.app r).flat := by rw [hax]; exact flat_head
  have halen : 1 ≤ a.len := by rw [hax]; simp [F.len]
  have hne : ∀ l ∈ R.map F.flat, l ≠ [] := by
    intro l hl
    obtain ⟨b, hb, rfl⟩ := List.mem_map.1 hl
    have := (h.wr.oks b hb).2
    cases b with
    | nil => simp [F.len] at this; omega
    | cons y k2 r2 => simp [F.flat]
  have hrow : PV w vr (x :: (k.app r).flat) := by rw [← hfl]; exact h.row
  obtain ⟨rb, ro, rc, hvr, hrb, hrc, q0, q1⟩ := hrow.head (Below.refl _ _)
  have HKey : Hid (∀ w', Below w.heap.size w w' → Calls Try.prog 47 #[vr, vR] w' fun e w'' => e = .returned (.string (kS (ky a R))) ∧ Below w'.heap.size w' w'') := hide (fun w' hb => rowsKey_any D hdl vr vR a.flat (R.map F.flat) w' (h.row.below hb) (h.rows.below hb) (by simpa using hR) (by simpa using h.wr.few) (wr_len h.wr) (wr_good h.wr))
  have hksz : (kS (ky a R)).size ≤ maxLen := by
    rw [kS_size]
    have h1 := kyL_len (L := R.map F.flat ++ [a.flat]) (wr_len h.wr)
    have h2 := h.wr.few
    unfold ky maxLen
    simp at h1 ⊢
    omega
  have hkey : keyOf Try.prog 9 (.string (kS (ky a R))) = some (.string (kB a R)) := WideMaps.keyOf_string_mk Try.underlying9 hksz
  have HIn := hide h
  have HSeen : Hid (∀ (DD : DataW Unit), (∀ s, Maps.has DD (.string s) = true → ∃ a R, WR D a R ∧ wn D a R = none ∧ s = kB a R) → Maps.has DD (.string (kB a R)) = true → wn D a R = none) := hide (fun DD hh hs => by
    obtain ⟨a', R', g1, g2, g3⟩ := hh _ hs
    obtain ⟨rfl, rfl⟩ := kB_inj hdl h.wr g1 g3
    exact g2)
  have HOp := hide (fun (c : Nat) (hc : c < D.length) (w' : World) (hi : WiIn D A0 R0 da dc MB a R vr vR w') => opened_any (.agg #[.slice da D.length dc]) D vr a c w' hi.dat hd hc h.wr.ok halen hi.row (by have := h.wr.big; omega))
  have HAl := hide (fun (c : Nat) (hc : c < D.length) (w' : World) (hi : WiIn D A0 R0 da dc MB a R vr vR w') => allOpened_any (.agg #[.slice da D.length dc]) D vR R c w' hi.dat hd hc (fun b hb => ⟨(h.wr.oks b hb).1, by rw [(h.wr.oks b hb).2]; exact halen, by
    have h1 := h.wr.bigs b hb
    have h2 : 1 ≤ pof a + pofs R := by
      rcases hnam with e | e
      · have : 1 ≤ pof a := by
          cases a with
          | nil => simp [nam1] at e
          | cons y k2 r2 => simp [nam1] at e; simp [pof, e]; omega
        omega
      · have := (opns_pof (c := c) (R := R) (fun b hb => (h.wr.oks b hb).1)).2 e
        omega
    omega⟩) hi.rows)
  have HIh := hide ih
  obtain ⟨nre, hre⟩ := h.re
  have HRe := hide hre
  have HOpn := hide (fun (c : Nat) (a' : F) (ho : opn D c a = some a') => WR.opn hd h.wr ho hnam)
  have HReo := hide (fun (c : Nat) (a' : F) (ho : opn D c a = some a') => hre.opn h.wr ho)
  have HWr := hide h.wr
  have hMB := h.map.lt
  have HNo := hide h.map.noC
  obtain ⟨qa, qc, hvR, -, -, -⟩ := id h.rows
  have hRl : 0 < R.length := List.length_pos_iff.2 hR
  have hdummy : True := trivial
  subst hvr hvR
  have HRq := hide (show ∀ w', Oth MB w w' → w'.cell? ⟨rb, ro, none⟩ = some (.int .i64 x.kd) from fun w' ho => (World.cell?_of_block (a := ⟨rb, ro, none⟩) (ho.block rb hrb (fun e => by subst e; exact h.map.noC _ _ q0))).trans q0)
  obtain ⟨T, hT⟩ : ∃ T, T = wn D a R := ⟨_, rfl⟩
  have HT := hide hT
  rw [← hT] at hwn
  have HTf : Hid (T = fstS (gF D a R) D.length (D.length - 0)) := hide hwn
  have Hd := hide hd
  simp only [List.length_map] at *
  obtain ⟨RN, hRN⟩ : ∃ RN, RN = R.length := ⟨_, rfl⟩
  obtain ⟨N, hN⟩ : ∃ N, N = (k.app r).flat.length + 1 := ⟨_, rfl⟩
  have HRN := hide hRN
  rw [← hN] at hrc
  rw [← hRN] at hRl
  simp only [← hRN, ← hN] at HKey HIn HOp HAl  ⊢
  obtain ⟨KEY, hKEY⟩ : ∃ KEY, KEY = kS (ky a R) := ⟨_, rfl⟩
  rw [← hKEY] at HKey hkey
  have HB0 := hide (show Below w.heap.size w (w.alloc (.cells #[.slice da D.length dc, .map (some MB)] 63)) from (Below.refl _ _).alloc (Nat.le_refl _) _)
  have HX0 := hide (Bx.new w #[.slice da D.length dc, .map (some MB)] 63)
  obtain ⟨w0, hw0⟩ : ∃ w0, w0 = w.alloc (.cells #[.slice da D.length dc, .map (some MB)] 63) := ⟨_, rfl⟩
  obtain ⟨XB, hXB⟩ : ∃ XB, XB = w.heap.size := ⟨_, rfl⟩
  rw [← hw0] at HB0 HX0
  rw [← hXB] at HX0
  have hXM : XB ≠ MB := by omega
  have hXw : w.heap.size ≤ XB := by omega
  have xl0 := HX0.out.lt
  have p0 : w0.cell? ⟨rb, ro, none⟩ = some (.int .i64 2) := by rw [HRq.out w0 (Oth.ofBelow HB0.out), hx]
  have hn0 : ¬ (RN : Int) = 0 := by omega
  have hnb : ((RN : Int) == 0) = false := by simp; omega
  have hNn : 0 < N := by omega
  have hNz : ¬ (N : Int) = 0 := by omega
  have hNb : ((N : Int) == 0) = false := by simp; omega
  have hRN8 : RN ≤ 8 := by have := HWr.out.few; have := HRN.out; omega
  clear hT hwn hRN hN q0 q1 hrow h hne ih hre hax hR hfl hnam hKEY hksz hdummy hx
  go_enter Try.func33, Try.ntmps33
  go_upto_region 1 with fail
  rw [← hw0, ← hXB]
  clear hw0 hXB
  go_wp2_with fail
  have hB1 := HB0.out
  have HX1 := HX0
  refine Calls.mono (HKey.out _ hB1) ?_
  rintro e w2 ⟨rfl, hb2⟩
  have hB2 : Below w.heap.size w w2 := hB1.trans (hb2.mono hB1.size)
  have HX2 := hide (HX1.out.below hb2 HX1.out.lt)
  have HI2 := hide (HIn.out.below hB2)
  have cx := HX2.out.c
  have xl2 := HX2.out.lt
  obtain ⟨DD, cs, hown, htd, hnd, hcs, hhas⟩ := HI2.out.map
  have HHas := hide hhas
  clear hb2 HX1 hB1 HKey hcs hnd hhas htd
  cases hh : Maps.has DD (.string (kB a R)) with
  | true =>
    have hwn0 := hide (HSeen.out DD HHas.out hh)
    have HM2 := hide HI2.out.map
    go_wp2_with (first | (at_lookup; refine wpList_lookup_own_ok_int _ rfl _ _ 61 rfl 9 3 .i64 lawS Try.underlying61 Try.underlying3 (zeroI _) MB cs.length DD rfl hown _ _ rfl hkey ?_; intro c hc hwc) | fail)
    exact bodyPost_ret (v := .tuple #[.slice none 0 0, .bool false]) (by simp [results, Try.results33, go_sem]) rfl ⟨WiOut.no hwn0.out, HM2.out, Oth.ofBelow hB2⟩
  | false =>
    go_wp2_with (first | (at_lookup; refine wpList_lookup_own_ok_int _ rfl _ _ 61 rfl 9 3 .i64 lawS Try.underlying61 Try.underlying3 (zeroI _) MB cs.length DD rfl hown _ _ rfl hkey ?_; intro c hc hwc) | fail)
    clear hc hwc hh hown HHas cx
    have HK2 := hide HI2.out.map
    have HO2 : Hid (Oth MB w w2) := hide (Oth.ofBelow hB2)
    clear hB2 HI2 HSeen
    go_loopw [68] (fun i w' => ∃ j : Nat, j ≤ D.length ∧ i = .int .i64 j ∧ T = fstS (gF D a R) D.length (D.length - j) ∧ KM D A0 R0 w' MB ∧ Oth MB w w' ∧ Bx w' XB #[.slice da D.length dc, .map (some MB)] 63) (fun i _ => D.length - (intOf i).toNat)
    case atStart => exact ⟨0, Nat.zero_le _, rfl, HTf.out, HK2.out, HO2.out, HX2.out⟩
    case round =>
      clear HK2 HO2 HX2 HTf xl2
      obtain ⟨j, hj, rfl, hTj, hkm, hoth, hX⟩ := hrel
      have HTj := hide hTj
      have HKm0 := hide hkm
      have HOt0 := hide hoth
      have HX := hide hX
      have cx := hX.c
      have xl := hX.lt
      have HIr := hide (HIn.out.oth hoth hkm)
      clear hTj hkm hoth hX
      by_cases hlt : j < D.length
      · have hlt' : (j : Int) < (D.length : Int) := by omega
        have HC := hide (HOp.out j hlt _ HIr.out)
        go_wp2_with fail
        refine Calls.mono HC.out ?_
        rintro e w3 ⟨⟨oa, on, oc, rfl, -, hop⟩, hb3⟩
        have hsz3 := hb3.size
        have HX3 := hide (HX.out.below hb3 xl)
        have HI3 := hide (HIr.out.below hb3)
        have HO3 : Hid (Oth MB w w3) := hide (HOt0.out.trans (Oth.ofBelow hb3))
        have HOp3 := hide hop
        clear cx HC HX hb3 HIr HKm0 HOt0 hop
        cases hoc : opn D j a with
        | none =>
          have HT3 : Hid (T = fstS (gF D a R) D.length (D.length - (j + 1))) := hide (by rw [HTj.out, fstS_step hlt, gF_none hoc])
          clear HTj HOp3 hoc
          simp only [Option.isSome_none]
          go_wp2_with fail
          exact ⟨⟨j + 1, by omega, by go_num, HT3.out, HI3.out.map, HO3.out, HX3.out⟩, by simp [intOf]; omega⟩
        | some a' =>
          have hpa := HOp3.out a' hoc
          obtain ⟨hwr2, hme2⟩ := HOpn.out j a' hoc
          have hre2 := HReo.out j a' hoc
          have HT3 : Hid ((wn D a' (R.filterMap (opn D j)) = none → T = fstS (gF D a R) D.length (D.length - (j + 1))) ∧ ∀ l, wn D a' (R.filterMap (opn D j)) = some l → T = some ((⟨2, (j : Int)⟩ : Pt) :: l)) := hide ⟨fun h => by rw [HTj.out, fstS_step hlt, gF_some hoc, h]; rfl, fun l h => by rw [HTj.out, fstS_step hlt, gF_some hoc, h]; rfl⟩
          have HI3d : Hid (WiIn D A0 R0 da dc MB a R (.slice (some ⟨rb, ro, none⟩) N rc) (.slice qa RN qc) w3.drew) := hide (HI3.out.below (belowDrew8 (Below.refl _ _)))
          have HAll : Hid (∀ w', WiIn D A0 R0 da dc MB a R (.slice (some ⟨rb, ro, none⟩) N rc) (.slice qa RN qc) w' → Calls Try.prog 49 #[.agg #[.slice da D.length dc], .slice qa RN qc, .int .i64 (j : Int)] w' fun e w'' => ∃ v', e = .returned v' ∧ QV w'' v' ((R.filterMap (opn D j)).map F.flat) ∧ Below w'.heap.size w' w'') := hide (fun w' hi => HAl.out j hlt w' hi)
          have HWl := hide (fun l h => wn_len (D := D) Hd.out (l := l) hwr2 h)
          have HRec : Hid (∀ w' v', Below w3.drew.heap.size w3.drew w' → QV w' v' ((R.filterMap (opn D j)).map F.flat) → Calls Try.prog 33 #[.agg #[.slice da D.length dc, .map (some MB)], .slice oa on oc, v'] w' fun e w'' => WiOut D a' (R.filterMap (opn D j)) w'.heap.size w'' e ∧ KM D A0 R0 w'' MB ∧ Oth MB w' w'') := hide (fun w' v' hb hq => HIh.out a' _ _ v' w' (by omega) ⟨hwr2, hre2, HI3d.out.dat.below hb, (hpa.below (belowDrew8 (Below.refl _ _))).below hb, hq, HI3d.out.map.keep (hb.block MB HI3d.out.map.lt)⟩)
          unfold WiOut at HRec
          obtain ⟨T2, hT2⟩ : ∃ T2, T2 = wn D a' (R.filterMap (opn D j)) := ⟨_, rfl⟩
          rw [← hT2] at HRec HT3 HWl
          obtain ⟨R2, hR2⟩ : ∃ R2, R2 = R.filterMap (opn D j) := ⟨_, rfl⟩
          rw [← hR2] at HRec HAll
          have xl3 := HX3.out.lt
          have b0 : w3.cell? ⟨XB, 0, none⟩ = some (.slice da D.length dc) := HX3.out.c 0
          have b1 : w3.cell? ⟨XB, 1, none⟩ = some (.map (some MB)) := HX3.out.c 1
          clear HTj HOp3 hoc hpa hwr2 hme2 hre2 hT2 hR2
          simp only [Option.isSome_some]
          go_wp2_with fail
          refine wp_region_noPanic ?_
          refine wp_region_held_drew (S := fun w' => w'.cell? ⟨XB, 0, none⟩ = some (.slice da D.length dc) ∧ w'.cell? ⟨XB, 1, none⟩ = some (.map (some MB))) (by kernel_rfl) ⟨b0, b1⟩ (fun hHeld => ?_)
          refine wpAnyH_take (i := 0) (oi := _) (v := ?_) rfl (by kernel_rfl) (by kernel_rfl) (by kernel_rfl) (fun _ _ _ h => h) (Or.inl ⟨by rfl, ?_⟩) (by assumption) ?_
          rotate_left 1
          · (intro w hSw; (try dsimp only at hSw); (first | (go_simp; done) | (go_simp; with_reducible rfl)))
          try simp only [Act.put, List.getElem_toArray, List.getElem_cons_zero, List.getElem_cons_succ, List.setIfInBounds_toArray, List.set_cons_zero, List.set_cons_succ]
          refine wpAnyH_take (i := 1) (oi := _) (v := ?_) rfl (by kernel_rfl) (by kernel_rfl) (by kernel_rfl) (fun _ _ _ h => h) (Or.inl ⟨by rfl, ?_⟩) (by assumption) ?_
          rotate_left 1
          · (intro w hSw; (try dsimp only at hSw); (first | (go_simp; done) | (go_simp; with_reducible rfl)))
          try simp only [Act.put, List.getElem_toArray, List.getElem_cons_zero, List.getElem_cons_succ, List.setIfInBounds_toArray, List.set_cons_zero, List.set_cons_succ]
          refine wpAnyH_take (i := 2) (oi := _) (v := ?_) rfl (by kernel_rfl) (by kernel_rfl) (by kernel_rfl) (fun _ _ _ h => h) (Or.inl ⟨by rfl, ?_⟩) (by assumption) ?_
          rotate_left 1
          · (intro w hSw; (try dsimp only at hSw); (first | (go_simp; done) | (go_simp; with_reducible rfl)))
          try simp only [Act.put, List.getElem_toArray, List.getElem_cons_zero, List.getElem_cons_succ, List.setIfInBounds_toArray, List.set_cons_zero, List.set_cons_succ]
          refine wpAnyH_take (i := 3) (oi := _) (v := ?_) rfl (by kernel_rfl) (by kernel_rfl) (by kernel_rfl) (fun _ _ _ h => h) (Or.inl ⟨by rfl, ?_⟩) (by assumption) ?_
          rotate_left 1
          · (intro w hSw; (try dsimp only at hSw); (first | (go_simp; done) | (go_simp; with_reducible rfl)))
          try simp only [Act.put, List.getElem_toArray, List.getElem_cons_zero, List.getElem_cons_succ, List.setIfInBounds_toArray, List.set_cons_zero, List.set_cons_succ]
          refine wpAnyH_take (i := 4) (oi := _) (v := ?_) rfl (by kernel_rfl) (by kernel_rfl) (by kernel_rfl) (fun _ _ _ h => h) (Or.inl ⟨by rfl, ?_⟩) (by assumption) ?_
          rotate_left 1
          · (intro w hSw; (try dsimp only at hSw); (first | (go_simp; done) | (go_simp; with_reducible rfl)))
          try simp only [Act.put, List.getElem_toArray, List.getElem_cons_zero, List.getElem_cons_succ, List.setIfInBounds_toArray, List.set_cons_zero, List.set_cons_succ]
          refine wpAnyH_take (i := 5) (oi := _) (v := ?_) rfl (by kernel_rfl) (by kernel_rfl) (by kernel_rfl) (fun _ _ _ h => h) (Or.inl ⟨by rfl, ?_⟩) (by assumption) ?_
          rotate_left 1
          · (intro w hSw; (try dsimp only at hSw); (first | (go_simp; done) | (go_simp; with_reducible rfl)))
          try simp only [Act.put, List.getElem_toArray, List.getElem_cons_zero, List.getElem_cons_succ, List.setIfInBounds_toArray, List.set_cons_zero, List.set_cons_succ]
          refine wpAnyH_ready (rs := [6]) (by kernel_rfl) (by simp) ?_
          refine AllReadyH.cons (o := _) rfl (fun K hK => ?_) AllReadyH.nil
          go_simp
          (with_reducible refine Calls.mono (HAll.out _ HI3d.out) ?_)
          rintro r wa ⟨va, rfl, hqa, hba⟩
          obtain ⟨qa4, qc4, hva, -, -, -⟩ := id hqa
          have HQa := hide hqa
          have HBa := hide hba
          have fa0 := (hba.cell (p := ⟨XB, 0, none⟩) xl3).trans b0
          have fa1 := (hba.cell (p := ⟨XB, 1, none⟩) xl3).trans b1
          have xla : XB < wa.heap.size := Nat.lt_of_lt_of_le xl3 hba.size
          subst hva
          simp only [List.length_map] at HQa
          clear hba hqa
          (try go_wp2_with fail)
          refine hK.out _ _ ⟨fa0, fa1⟩ (fun hHeld => ?_)
          clear hK K
          try simp only [Act.put, List.getElem_toArray, List.getElem_cons_zero, List.getElem_cons_succ, List.setIfInBounds_toArray, List.set_cons_zero, List.set_cons_succ]
          refine wpAnyH_ready (rs := [7]) (by kernel_rfl) (by simp) ?_
          refine AllReadyH.cons (o := _) rfl (fun K hK => ?_) AllReadyH.nil
          go_simp
          (with_reducible refine Calls.mono (HRec.out _ _ HBa.out HQa.out) ?_)
          rintro r wb ⟨⟨ba, bn, bc, rfl, hown, hnone⟩, hkm, hoth⟩
          have HOwn := hide hown
          have HNone := hide hnone
          have HKm := hide hkm
          have HOt := hide hoth
          have fb0 := (World.cell?_of_block (a := ⟨XB, 0, none⟩) (hoth.block XB xla hXM)).trans fa0
          have fb1 := (World.cell?_of_block (a := ⟨XB, 1, none⟩) (hoth.block XB xla hXM)).trans fa1
          clear hown hnone hkm hoth
          (try go_wp2_with fail)
          refine hK.out _ _ ⟨fb0, fb1⟩ (fun hHeld => ?_)
          clear hK K
          try simp only [Act.put, List.getElem_toArray, List.getElem_cons_zero, List.getElem_cons_succ, List.setIfInBounds_toArray, List.set_cons_zero, List.set_cons_succ]
          refine wpAnyH_take (i := 8) (oi := _) (v := ?_) rfl (by kernel_rfl) (by kernel_rfl) (by kernel_rfl) (fun _ _ _ h => h) (Or.inl ⟨by rfl, ?_⟩) (by assumption) ?_
          rotate_left 1
          · (intro w hSw; (try dsimp only at hSw); (first | (go_simp; done) | (go_simp; with_reducible rfl)))
          try simp only [Act.put, List.getElem_toArray, List.getElem_cons_zero, List.getElem_cons_succ, List.setIfInBounds_toArray, List.set_cons_zero, List.set_cons_succ]
          refine wpAnyH_take (i := 9) (oi := _) (v := ?_) rfl (by kernel_rfl) (by kernel_rfl) (by kernel_rfl) (fun _ _ _ h => h) (Or.inl ⟨by rfl, ?_⟩) (by assumption) ?_
          rotate_left 1
          · (intro w hSw; (try dsimp only at hSw); (first | (go_simp; done) | (go_simp; with_reducible rfl)))
          try simp only [Act.put, List.getElem_toArray, List.getElem_cons_zero, List.getElem_cons_succ, List.setIfInBounds_toArray, List.set_cons_zero, List.set_cons_succ]
          refine wpAnyH_take (i := 10) (oi := _) (v := ?_) rfl (by kernel_rfl) (by kernel_rfl) (by kernel_rfl) (fun _ _ _ h => h) (Or.inl ⟨by rfl, ?_⟩) (by assumption) ?_
          rotate_left 1
          · (intro w hSw; (try dsimp only at hSw); (first | (go_simp; done) | (go_simp; with_reducible rfl)))
          try simp only [Act.put, List.getElem_toArray, List.getElem_cons_zero, List.getElem_cons_succ, List.setIfInBounds_toArray, List.set_cons_zero, List.set_cons_succ]
          refine wpAnyH_take (i := 11) (oi := _) (v := ?_) rfl (by kernel_rfl) (by kernel_rfl) (by kernel_rfl) (fun _ _ _ h => h) (Or.inl ⟨by rfl, ?_⟩) (by assumption) ?_
          rotate_left 1
          · (intro w hSw; (try dsimp only at hSw); (first | (go_simp; done) | (go_simp; with_reducible rfl)))
          try simp only [Act.put, List.getElem_toArray, List.getElem_cons_zero, List.getElem_cons_succ, List.setIfInBounds_toArray, List.set_cons_zero, List.set_cons_succ]
          refine wpAnyH_take (i := 12) (oi := _) (v := ?_) rfl (by kernel_rfl) (by kernel_rfl) (by kernel_rfl) (fun _ _ _ h => h) (Or.inl ⟨by rfl, ?_⟩) (by assumption) ?_
          rotate_left 1
          · (intro w hSw; (try dsimp only at hSw); (first | (go_simp; done) | (go_simp; with_reducible rfl)))
          try simp only [Act.put, List.getElem_toArray, List.getElem_cons_zero, List.getElem_cons_succ, List.setIfInBounds_toArray, List.set_cons_zero, List.set_cons_succ]
          refine wpAnyH_done (by kernel_rfl) ?_ _
          refine NoPanic.normal ?_
          have HOw : Hid (Oth MB w wb) := hide ((HO3.out.trans (Oth.ofBelow (belowDrew8 (Below.refl _ _)))).trans ((Oth.ofBelow HBa.out).trans HOt.out))
          have HXb : Hid (Bx wb XB #[.slice da D.length dc, .map (some MB)] 63) := hide ((HOt.out.block XB xla hXM).trans ((HBa.out.block XB xl3).trans HX3.out))
          have hsb : w.heap.size ≤ wb.heap.size := HOw.out.size
          have hswa : w.heap.size ≤ wa.heap.size := by have := HO3.out.size; have : w3.heap.size ≤ wa.heap.size := HBa.out.size; omega
          clear b0 b1 fa0 fa1 fb0 fb1 HRec HQa HAll HX3
          cases T2 with
          | none =>
            obtain ⟨rfl, rfl, rfl⟩ := HNone.out rfl
            have HT4 : Hid (T = fstS (gF D a R) D.length (D.length - (j + 1))) := hide (HT3.out.1 rfl)
            clear HNone HOwn HT3 HWl
            simp only [Option.isSome_none]
            go_wp2_with fail
            exact ⟨⟨j + 1, by omega, by go_num, HT4.out, HKm.out, HOw.out, HXb.out⟩, by simp [intOf]; omega⟩
          | some l =>
            have hll := HWl.out l rfl
            have HOl := hide (HOwn.out l rfl)
            have HPy := hide (putAhead_any (.slice ba bn bc) w.heap.size ⟨2, (j : Int)⟩ l wb hsb (by omega) (own_lower HOl.out hswa))
            have hwn2 : wn D a R = some (⟨2, (j : Int)⟩ :: l) := by rw [← HT.out, HT3.out.2 l rfl]
            clear HNone HOwn HWl HT3
            simp only [Option.isSome_some]
            go_wp2_with fail
            refine Calls.mono HPy.out ?_
            rintro e wd ⟨vd, rfl, hod, hgd⟩
            obtain ⟨ad, ac, rfl⟩ := own_form hod
            have HWi := hide (WiOut.yes (lo := w.heap.size) (w' := wd) hwn2 (by have := hod; simpa using this))
            have hown : ∀ q, (Value.slice ba bn bc).ownBlock = some q → wa.heap.size ≤ q := fun q hq => (HOl.out.lt q hq).1
            have HOd : Hid (Oth MB w wd) := hide (HOw.out.trans' hgd (fun q hq => Nat.le_trans hswa (hown q hq)))
            have HKd := hide (HKm.out.keep (w' := wd) (hgd.block MB HKm.out.lt (fun e => by have := hown MB e.symm; omega)))
            obtain ⟨LN, hLN⟩ : ∃ LN, LN = l.length + 1 := ⟨_, rfl⟩
            rw [← hLN] at HWi ⊢
            clear HPy hod hgd hwn2 hown hLN
            go_wp2_with fail
            exact bodyPost_ret (v := .tuple #[.slice ad LN ac, .bool true]) (by simp [results, Try.results33, go_sem]) rfl ⟨HWi.out, HKd.out, HOd.out⟩
      · obtain rfl : j = D.length := by omega
        have hTn : wn D a R = none := by rw [← HT.out, HTj.out, fstS_end]
        obtain ⟨DD, cs, hown, htd, hnd, hcs, hhas⟩ := HKm0.out
        have hfew := codes_few (D := D) hA hR0 h8 hnd (fun n hn => by obtain ⟨a, R, g1, g2, -⟩ := hcs n hn; exact ⟨a, R, g1, g2⟩)
        have HPut := hide (fun (w1 : World) d hown1 => KM.put (w1 := w1) (MB := MB) (d := d) hdl hA hR0 htd hown.size_le hnd hcs hhas HWr.out HRe.out hTn hown1)
        have hwf : (Lit.int .i64 (RN : Int)).wf = true := by
          have : 0 ≤ RN := Nat.zero_le _
          rcases (by omega : RN = 0 ∨ RN = 1 ∨ RN = 2 ∨ RN = 3 ∨ RN = 4 ∨ RN = 5 ∨ RN = 6 ∨ RN = 7 ∨ RN = 8) with rfl | rfl | rfl | rfl | rfl | rfl | rfl | rfl | rfl <;> rfl
        have HNn := hide hTn
        clear hcs hhas hnd htd hTn HTj HIr
        go_wp2_with (first | (at_mapUpdate; refine wpList_mapUpdate_own _ rfl _ _ _ 61 rfl 9 3 lawS Try.underlying61 _ MB cs.length DD rfl hown hfew _ _ _ rfl rfl hkey _ [] (plainElem_int Try.underlying3 hwf) ?_; intro w6 hown6 hgrow6) | fail)
        exact bodyPost_ret (v := .tuple #[.slice none 0 0, .bool false]) (by simp [results, Try.results33, go_sem]) rfl ⟨WiOut.no HNn.out, HPut.out _ _ hown6, HOt0.out.trans ⟨hgrow6.os, hgrow6.tape, hgrow6.output, hgrow6.size, fun k hk hne => hgrow6.block k hk (fun e => hne (Option.some.inj e))⟩⟩

set_option maxRecDepth 20000 in
set_option maxHeartbeats 8000000 in
theorem within_any (f : Nat) (D : List Int) (hd : goodD D = true) (A0 : List Pt) (R0 : List (List Pt)) (da : Option Addr) (dc MB : Nat) (a : F) (R : List F) (vr vR : Value) (w : World) (h : WiIn D A0 R0 da dc MB a R vr vR w) (hA : A0.length ≤ 40) (hR0 : ∀ b ∈ R0, b.length ≤ 40) (h8 : R0.length ≤ 8) (ih : (∀ (a : F) (R : List F) (vr vR : Value) (w : World), mea a R < f → WiIn D A0 R0 da dc MB a R vr vR w → Calls Try.prog 33 #[.agg #[.slice da D.length dc, .map (some MB)], vr, vR] w fun e w' => WiOut D a R w.heap.size w' e ∧ KM D A0 R0 w' MB ∧ Oth MB w w')) (hf : mea a R < f + 1) (x : Pt) (k r : F) (hax : a = .cons x k r) (hR : R ≠ []) (hx : x.kd = 1) (hn : R.any nam1 = true) :
    Calls Try.prog 33 #[.agg #[.slice da D.length dc, .map (some MB)], vr, vR] w fun e w' => WiOut D a R w.heap.size w' e ∧ KM D A0 R0 w' MB ∧ Oth MB w w' := by
  have hdl := (goodD_len hd).1
  have hdl1 := (goodD_len hd).2
  have hnam : nam1 a = true ∨ R.any nam1 = true := .inr hn
  have hwn : wn D a R = fstS (fun c => match opn D c a with | none => none | some a' => (wn D a' (R.filterMap (opn D c))).map ((⟨2, (c : Int)⟩ : Pt) :: ·)) D.length D.length := by
    rw [hax]
    rw [hax] at h
    exact wn_con hd h.wr hR (fun e => by rw [hn] at e; cases e.2)
  have hfl : a.flat = x :: (k.app r).flat := by rw [hax]; exact flat_head
  have halen : 1 ≤ a.len := by rw [hax]; simp [F.len]
  have hne : ∀ l ∈ R.map F.flat, l ≠ [] := by
    intro l hl
    obtain ⟨b, hb, rfl⟩ := List.mem_map.1 hl
    have := (h.wr.oks b hb).2
    cases b with
    | nil => simp [F.len] at this; omega
    | cons y k2 r2 => simp [F.flat]
  have hrow : PV w vr (x :: (k.app r).flat) := by rw [← hfl]; exact h.row
  obtain ⟨rb, ro, rc, hvr, hrb, hrc, q0, q1⟩ := hrow.head (Below.refl _ _)
  have HKey : Hid (∀ w', Below w.heap.size w w' → Calls Try.prog 47 #[vr, vR] w' fun e w'' => e = .returned (.string (kS (ky a R))) ∧ Below w'.heap.size w' w'') := hide (fun w' hb => rowsKey_any D hdl vr vR a.flat (R.map F.flat) w' (h.row.below hb) (h.rows.below hb) (by simpa using hR) (by simpa using h.wr.few) (wr_len h.wr) (wr_good h.wr))
  have hksz : (kS (ky a R)).size ≤ maxLen := by
    rw [kS_size]
    have h1 := kyL_len (L := R.map F.flat ++ [a.flat]) (wr_len h.wr)
    have h2 := h.wr.few
    unfold ky maxLen
    simp at h1 ⊢
    omega
  have hkey : keyOf Try.prog 9 (.string (kS (ky a R))) = some (.string (kB a R)) := WideMaps.keyOf_string_mk Try.underlying9 hksz
  have HIn := hide h
  have HSeen : Hid (∀ (DD : DataW Unit), (∀ s, Maps.has DD (.string s) = true → ∃ a R, WR D a R ∧ wn D a R = none ∧ s = kB a R) → Maps.has DD (.string (kB a R)) = true → wn D a R = none) := hide (fun DD hh hs => by
    obtain ⟨a', R', g1, g2, g3⟩ := hh _ hs
    obtain ⟨rfl, rfl⟩ := kB_inj hdl h.wr g1 g3
    exact g2)
  have HOp := hide (fun (c : Nat) (hc : c < D.length) (w' : World) (hi : WiIn D A0 R0 da dc MB a R vr vR w') => opened_any (.agg #[.slice da D.length dc]) D vr a c w' hi.dat hd hc h.wr.ok halen hi.row (by have := h.wr.big; omega))
  have HAl := hide (fun (c : Nat) (hc : c < D.length) (w' : World) (hi : WiIn D A0 R0 da dc MB a R vr vR w') => allOpened_any (.agg #[.slice da D.length dc]) D vR R c w' hi.dat hd hc (fun b hb => ⟨(h.wr.oks b hb).1, by rw [(h.wr.oks b hb).2]; exact halen, by
    have h1 := h.wr.bigs b hb
    have h2 : 1 ≤ pof a + pofs R := by
      rcases hnam with e | e
      · have : 1 ≤ pof a := by
          cases a with
          | nil => simp [nam1] at e
          | cons y k2 r2 => simp [nam1] at e; simp [pof, e]; omega
        omega
      · have := (opns_pof (c := c) (R := R) (fun b hb => (h.wr.oks b hb).1)).2 e
        omega
    omega⟩) hi.rows)
  have HIh := hide ih
  obtain ⟨nre, hre⟩ := h.re
  have HRe := hide hre
  have HOpn := hide (fun (c : Nat) (a' : F) (ho : opn D c a = some a') => WR.opn hd h.wr ho hnam)
  have HReo := hide (fun (c : Nat) (a' : F) (ho : opn D c a = some a') => hre.opn h.wr ho)
  have HWr := hide h.wr
  have hMB := h.map.lt
  have HNo := hide h.map.noC
  obtain ⟨qa, qc, hvR, -, -, -⟩ := id h.rows
  have hRl : 0 < R.length := List.length_pos_iff.2 hR
  have HNm := hide (fun (w' : World) (hb : Below w.heap.size w w') => namesAny_any vR (R.map F.flat) w' (h.rows.below hb) hne)
  rw [any_flat, hn] at HNm
  subst hvr hvR
  have HRq := hide (show ∀ w', Oth MB w w' → w'.cell? ⟨rb, ro, none⟩ = some (.int .i64 x.kd) from fun w' ho => (World.cell?_of_block (a := ⟨rb, ro, none⟩) (ho.block rb hrb (fun e => by subst e; exact h.map.noC _ _ q0))).trans q0)
  obtain ⟨T, hT⟩ : ∃ T, T = wn D a R := ⟨_, rfl⟩
  have HT := hide hT
  rw [← hT] at hwn
  have HTf : Hid (T = fstS (gF D a R) D.length (D.length - 0)) := hide hwn
  have Hd := hide hd
  simp only [List.length_map] at *
  obtain ⟨RN, hRN⟩ : ∃ RN, RN = R.length := ⟨_, rfl⟩
  obtain ⟨N, hN⟩ : ∃ N, N = (k.app r).flat.length + 1 := ⟨_, rfl⟩
  have HRN := hide hRN
  rw [← hN] at hrc
  rw [← hRN] at hRl
  simp only [← hRN, ← hN] at HKey HIn HOp HAl HNm ⊢
  obtain ⟨KEY, hKEY⟩ : ∃ KEY, KEY = kS (ky a R) := ⟨_, rfl⟩
  rw [← hKEY] at HKey hkey
  have HB0 := hide (show Below w.heap.size w (w.alloc (.cells #[.slice da D.length dc, .map (some MB)] 63)) from (Below.refl _ _).alloc (Nat.le_refl _) _)
  have HX0 := hide (Bx.new w #[.slice da D.length dc, .map (some MB)] 63)
  obtain ⟨w0, hw0⟩ : ∃ w0, w0 = w.alloc (.cells #[.slice da D.length dc, .map (some MB)] 63) := ⟨_, rfl⟩
  obtain ⟨XB, hXB⟩ : ∃ XB, XB = w.heap.size := ⟨_, rfl⟩
  rw [← hw0] at HB0 HX0
  rw [← hXB] at HX0
  have hXM : XB ≠ MB := by omega
  have hXw : w.heap.size ≤ XB := by omega
  have xl0 := HX0.out.lt
  have p0 : w0.cell? ⟨rb, ro, none⟩ = some (.int .i64 1) := by rw [HRq.out w0 (Oth.ofBelow HB0.out), hx]
  have hn0 : ¬ (RN : Int) = 0 := by omega
  have hnb : ((RN : Int) == 0) = false := by simp; omega
  have hNn : 0 < N := by omega
  have hNz : ¬ (N : Int) = 0 := by omega
  have hNb : ((N : Int) == 0) = false := by simp; omega
  have hRN8 : RN ≤ 8 := by have := HWr.out.few; have := HRN.out; omega
  clear hT hwn hRN hN q0 q1 hrow h hne ih hre hax hR hfl hnam hKEY hksz hx hn
  go_enter Try.func33, Try.ntmps33
  go_upto_region 1 with fail
  rw [← hw0, ← hXB]
  clear hw0 hXB
  go_wp2_with fail
  refine Calls.mono (HNm.out _ HB0.out) ?_
  rintro e w1 ⟨rfl, hb1⟩
  have hB1 : Below w.heap.size w w1 := HB0.out.trans (hb1.mono HB0.out.size)
  have HX1 := hide (HX0.out.below hb1 xl0)
  clear hb1 HNm HX0 xl0 p0
  go_wp2_with fail
  refine Calls.mono (HKey.out _ hB1) ?_
  rintro e w2 ⟨rfl, hb2⟩
  have hB2 : Below w.heap.size w w2 := hB1.trans (hb2.mono hB1.size)
  have HX2 := hide (HX1.out.below hb2 HX1.out.lt)
  have HI2 := hide (HIn.out.below hB2)
  have cx := HX2.out.c
  have xl2 := HX2.out.lt
  obtain ⟨DD, cs, hown, htd, hnd, hcs, hhas⟩ := HI2.out.map
  have HHas := hide hhas
  clear hb2 HX1 hB1 HKey hcs hnd hhas htd
  cases hh : Maps.has DD (.string (kB a R)) with
  | true =>
    have hwn0 := hide (HSeen.out DD HHas.out hh)
    have HM2 := hide HI2.out.map
    go_wp2_with (first | (at_lookup; refine wpList_lookup_own_ok_int _ rfl _ _ 61 rfl 9 3 .i64 lawS Try.underlying61 Try.underlying3 (zeroI _) MB cs.length DD rfl hown _ _ rfl hkey ?_; intro c hc hwc) | fail)
    exact bodyPost_ret (v := .tuple #[.slice none 0 0, .bool false]) (by simp [results, Try.results33, go_sem]) rfl ⟨WiOut.no hwn0.out, HM2.out, Oth.ofBelow hB2⟩
  | false =>
    go_wp2_with (first | (at_lookup; refine wpList_lookup_own_ok_int _ rfl _ _ 61 rfl 9 3 .i64 lawS Try.underlying61 Try.underlying3 (zeroI _) MB cs.length DD rfl hown _ _ rfl hkey ?_; intro c hc hwc) | fail)
    clear hc hwc hh hown HHas cx
    have HK2 := hide HI2.out.map
    have HO2 : Hid (Oth MB w w2) := hide (Oth.ofBelow hB2)
    clear hB2 HI2 HSeen
    go_loopw [68] (fun i w' => ∃ j : Nat, j ≤ D.length ∧ i = .int .i64 j ∧ T = fstS (gF D a R) D.length (D.length - j) ∧ KM D A0 R0 w' MB ∧ Oth MB w w' ∧ Bx w' XB #[.slice da D.length dc, .map (some MB)] 63) (fun i _ => D.length - (intOf i).toNat)
    case atStart => exact ⟨0, Nat.zero_le _, rfl, HTf.out, HK2.out, HO2.out, HX2.out⟩
    case round =>
      clear HK2 HO2 HX2 HTf xl2
      obtain ⟨j, hj, rfl, hTj, hkm, hoth, hX⟩ := hrel
      have HTj := hide hTj
      have HKm0 := hide hkm
      have HOt0 := hide hoth
      have HX := hide hX
      have cx := hX.c
      have xl := hX.lt
      have HIr := hide (HIn.out.oth hoth hkm)
      clear hTj hkm hoth hX
      by_cases hlt : j < D.length
      · have hlt' : (j : Int) < (D.length : Int) := by omega
        have HC := hide (HOp.out j hlt _ HIr.out)
        go_wp2_with fail
        refine Calls.mono HC.out ?_
        rintro e w3 ⟨⟨oa, on, oc, rfl, -, hop⟩, hb3⟩
        have hsz3 := hb3.size
        have HX3 := hide (HX.out.below hb3 xl)
        have HI3 := hide (HIr.out.below hb3)
        have HO3 : Hid (Oth MB w w3) := hide (HOt0.out.trans (Oth.ofBelow hb3))
        have HOp3 := hide hop
        clear cx HC HX hb3 HIr HKm0 HOt0 hop
        cases hoc : opn D j a with
        | none =>
          have HT3 : Hid (T = fstS (gF D a R) D.length (D.length - (j + 1))) := hide (by rw [HTj.out, fstS_step hlt, gF_none hoc])
          clear HTj HOp3 hoc
          simp only [Option.isSome_none]
          go_wp2_with fail
          exact ⟨⟨j + 1, by omega, by go_num, HT3.out, HI3.out.map, HO3.out, HX3.out⟩, by simp [intOf]; omega⟩
        | some a' =>
          have hpa := HOp3.out a' hoc
          obtain ⟨hwr2, hme2⟩ := HOpn.out j a' hoc
          have hre2 := HReo.out j a' hoc
          have HT3 : Hid ((wn D a' (R.filterMap (opn D j)) = none → T = fstS (gF D a R) D.length (D.length - (j + 1))) ∧ ∀ l, wn D a' (R.filterMap (opn D j)) = some l → T = some ((⟨2, (j : Int)⟩ : Pt) :: l)) := hide ⟨fun h => by rw [HTj.out, fstS_step hlt, gF_some hoc, h]; rfl, fun l h => by rw [HTj.out, fstS_step hlt, gF_some hoc, h]; rfl⟩
          have HI3d : Hid (WiIn D A0 R0 da dc MB a R (.slice (some ⟨rb, ro, none⟩) N rc) (.slice qa RN qc) w3.drew) := hide (HI3.out.below (belowDrew8 (Below.refl _ _)))
          have HAll : Hid (∀ w', WiIn D A0 R0 da dc MB a R (.slice (some ⟨rb, ro, none⟩) N rc) (.slice qa RN qc) w' → Calls Try.prog 49 #[.agg #[.slice da D.length dc], .slice qa RN qc, .int .i64 (j : Int)] w' fun e w'' => ∃ v', e = .returned v' ∧ QV w'' v' ((R.filterMap (opn D j)).map F.flat) ∧ Below w'.heap.size w' w'') := hide (fun w' hi => HAl.out j hlt w' hi)
          have HWl := hide (fun l h => wn_len (D := D) Hd.out (l := l) hwr2 h)
          have HRec : Hid (∀ w' v', Below w3.drew.heap.size w3.drew w' → QV w' v' ((R.filterMap (opn D j)).map F.flat) → Calls Try.prog 33 #[.agg #[.slice da D.length dc, .map (some MB)], .slice oa on oc, v'] w' fun e w'' => WiOut D a' (R.filterMap (opn D j)) w'.heap.size w'' e ∧ KM D A0 R0 w'' MB ∧ Oth MB w' w'') := hide (fun w' v' hb hq => HIh.out a' _ _ v' w' (by omega) ⟨hwr2, hre2, HI3d.out.dat.below hb, (hpa.below (belowDrew8 (Below.refl _ _))).below hb, hq, HI3d.out.map.keep (hb.block MB HI3d.out.map.lt)⟩)
          unfold WiOut at HRec
          obtain ⟨T2, hT2⟩ : ∃ T2, T2 = wn D a' (R.filterMap (opn D j)) := ⟨_, rfl⟩
          rw [← hT2] at HRec HT3 HWl
          obtain ⟨R2, hR2⟩ : ∃ R2, R2 = R.filterMap (opn D j) := ⟨_, rfl⟩
          rw [← hR2] at HRec HAll
          have xl3 := HX3.out.lt
          have b0 : w3.cell? ⟨XB, 0, none⟩ = some (.slice da D.length dc) := HX3.out.c 0
          have b1 : w3.cell? ⟨XB, 1, none⟩ = some (.map (some MB)) := HX3.out.c 1
          clear HTj HOp3 hoc hpa hwr2 hme2 hre2 hT2 hR2
          simp only [Option.isSome_some]
          go_wp2_with fail
          refine wp_region_noPanic ?_
          refine wp_region_held_drew (S := fun w' => w'.cell? ⟨XB, 0, none⟩ = some (.slice da D.length dc) ∧ w'.cell? ⟨XB, 1, none⟩ = some (.map (some MB))) (by kernel_rfl) ⟨b0, b1⟩ (fun hHeld => ?_)
          refine wpAnyH_take (i := 0) (oi := _) (v := ?_) rfl (by kernel_rfl) (by kernel_rfl) (by kernel_rfl) (fun _ _ _ h => h) (Or.inl ⟨by rfl, ?_⟩) (by assumption) ?_
          rotate_left 1
          · (intro w hSw; (try dsimp only at hSw); (first | (go_simp; done) | (go_simp; with_reducible rfl)))
          try simp only [Act.put, List.getElem_toArray, List.getElem_cons_zero, List.getElem_cons_succ, List.setIfInBounds_toArray, List.set_cons_zero, List.set_cons_succ]
          refine wpAnyH_take (i := 1) (oi := _) (v := ?_) rfl (by kernel_rfl) (by kernel_rfl) (by kernel_rfl) (fun _ _ _ h => h) (Or.inl ⟨by rfl, ?_⟩) (by assumption) ?_
          rotate_left 1
          · (intro w hSw; (try dsimp only at hSw); (first | (go_simp; done) | (go_simp; with_reducible rfl)))
          try simp only [Act.put, List.getElem_toArray, List.getElem_cons_zero, List.getElem_cons_succ, List.setIfInBounds_toArray, List.set_cons_zero, List.set_cons_succ]
          refine wpAnyH_take (i := 2) (oi := _) (v := ?_) rfl (by kernel_rfl) (by kernel_rfl) (by kernel_rfl) (fun _ _ _ h => h) (Or.inl ⟨by rfl, ?_⟩) (by assumption) ?_
          rotate_left 1
          · (intro w hSw; (try dsimp only at hSw); (first | (go_simp; done) | (go_simp; with_reducible rfl)))
          try simp only [Act.put, List.getElem_toArray, List.getElem_cons_zero, List.getElem_cons_succ, List.setIfInBounds_toArray, List.set_cons_zero, List.set_cons_succ]
          refine wpAnyH_take (i := 3) (oi := _) (v := ?_) rfl (by kernel_rfl) (by kernel_rfl) (by kernel_rfl) (fun _ _ _ h => h) (Or.inl ⟨by rfl, ?_⟩) (by assumption) ?_
          rotate_left 1
          · (intro w hSw; (try dsimp only at hSw); (first | (go_simp; done) | (go_simp; with_reducible rfl)))
          try simp only [Act.put, List.getElem_toArray, List.getElem_cons_zero, List.getElem_cons_succ, List.setIfInBounds_toArray, List.set_cons_zero, List.set_cons_succ]
          refine wpAnyH_take (i := 4) (oi := _) (v := ?_) rfl (by kernel_rfl) (by kernel_rfl) (by kernel_rfl) (fun _ _ _ h => h) (Or.inl ⟨by rfl, ?_⟩) (by assumption) ?_
          rotate_left 1
          · (intro w hSw; (try dsimp only at hSw); (first | (go_simp; done) | (go_simp; with_reducible rfl)))
          try simp only [Act.put, List.getElem_toArray, List.getElem_cons_zero, List.getElem_cons_succ, List.setIfInBounds_toArray, List.set_cons_zero, List.set_cons_succ]
          refine wpAnyH_take (i := 5) (oi := _) (v := ?_) rfl (by kernel_rfl) (by kernel_rfl) (by kernel_rfl) (fun _ _ _ h => h) (Or.inl ⟨by rfl, ?_⟩) (by assumption) ?_
          rotate_left 1
          · (intro w hSw; (try dsimp only at hSw); (first | (go_simp; done) | (go_simp; with_reducible rfl)))
          try simp only [Act.put, List.getElem_toArray, List.getElem_cons_zero, List.getElem_cons_succ, List.setIfInBounds_toArray, List.set_cons_zero, List.set_cons_succ]
          refine wpAnyH_ready (rs := [6]) (by kernel_rfl) (by simp) ?_
          refine AllReadyH.cons (o := _) rfl (fun K hK => ?_) AllReadyH.nil
          go_simp
          (with_reducible refine Calls.mono (HAll.out _ HI3d.out) ?_)
          rintro r wa ⟨va, rfl, hqa, hba⟩
          obtain ⟨qa4, qc4, hva, -, -, -⟩ := id hqa
          have HQa := hide hqa
          have HBa := hide hba
          have fa0 := (hba.cell (p := ⟨XB, 0, none⟩) xl3).trans b0
          have fa1 := (hba.cell (p := ⟨XB, 1, none⟩) xl3).trans b1
          have xla : XB < wa.heap.size := Nat.lt_of_lt_of_le xl3 hba.size
          subst hva
          simp only [List.length_map] at HQa
          clear hba hqa
          (try go_wp2_with fail)
          refine hK.out _ _ ⟨fa0, fa1⟩ (fun hHeld => ?_)
          clear hK K
          try simp only [Act.put, List.getElem_toArray, List.getElem_cons_zero, List.getElem_cons_succ, List.setIfInBounds_toArray, List.set_cons_zero, List.set_cons_succ]
          refine wpAnyH_ready (rs := [7]) (by kernel_rfl) (by simp) ?_
          refine AllReadyH.cons (o := _) rfl (fun K hK => ?_) AllReadyH.nil
          go_simp
          (with_reducible refine Calls.mono (HRec.out _ _ HBa.out HQa.out) ?_)
          rintro r wb ⟨⟨ba, bn, bc, rfl, hown, hnone⟩, hkm, hoth⟩
          have HOwn := hide hown
          have HNone := hide hnone
          have HKm := hide hkm
          have HOt := hide hoth
          have fb0 := (World.cell?_of_block (a := ⟨XB, 0, none⟩) (hoth.block XB xla hXM)).trans fa0
          have fb1 := (World.cell?_of_block (a := ⟨XB, 1, none⟩) (hoth.block XB xla hXM)).trans fa1
          clear hown hnone hkm hoth
          (try go_wp2_with fail)
          refine hK.out _ _ ⟨fb0, fb1⟩ (fun hHeld => ?_)
          clear hK K
          try simp only [Act.put, List.getElem_toArray, List.getElem_cons_zero, List.getElem_cons_succ, List.setIfInBounds_toArray, List.set_cons_zero, List.set_cons_succ]
          refine wpAnyH_take (i := 8) (oi := _) (v := ?_) rfl (by kernel_rfl) (by kernel_rfl) (by kernel_rfl) (fun _ _ _ h => h) (Or.inl ⟨by rfl, ?_⟩) (by assumption) ?_
          rotate_left 1
          · (intro w hSw; (try dsimp only at hSw); (first | (go_simp; done) | (go_simp; with_reducible rfl)))
          try simp only [Act.put, List.getElem_toArray, List.getElem_cons_zero, List.getElem_cons_succ, List.setIfInBounds_toArray, List.set_cons_zero, List.set_cons_succ]
          refine wpAnyH_take (i := 9) (oi := _) (v := ?_) rfl (by kernel_rfl) (by kernel_rfl) (by kernel_rfl) (fun _ _ _ h => h) (Or.inl ⟨by rfl, ?_⟩) (by assumption) ?_
          rotate_left 1
          · (intro w hSw; (try dsimp only at hSw); (first | (go_simp; done) | (go_simp; with_reducible rfl)))
          try simp only [Act.put, List.getElem_toArray, List.getElem_cons_zero, List.getElem_cons_succ, List.setIfInBounds_toArray, List.set_cons_zero, List.set_cons_succ]
          refine wpAnyH_take (i := 10) (oi := _) (v := ?_) rfl (by kernel_rfl) (by kernel_rfl) (by kernel_rfl) (fun _ _ _ h => h) (Or.inl ⟨by rfl, ?_⟩) (by assumption) ?_
          rotate_left 1
          · (intro w hSw; (try dsimp only at hSw); (first | (go_simp; done) | (go_simp; with_reducible rfl)))
          try simp only [Act.put, List.getElem_toArray, List.getElem_cons_zero, List.getElem_cons_succ, List.setIfInBounds_toArray, List.set_cons_zero, List.set_cons_succ]
          refine wpAnyH_take (i := 11) (oi := _) (v := ?_) rfl (by kernel_rfl) (by kernel_rfl) (by kernel_rfl) (fun _ _ _ h => h) (Or.inl ⟨by rfl, ?_⟩) (by assumption) ?_
          rotate_left 1
          · (intro w hSw; (try dsimp only at hSw); (first | (go_simp; done) | (go_simp; with_reducible rfl)))
          try simp only [Act.put, List.getElem_toArray, List.getElem_cons_zero, List.getElem_cons_succ, List.setIfInBounds_toArray, List.set_cons_zero, List.set_cons_succ]
          refine wpAnyH_take (i := 12) (oi := _) (v := ?_) rfl (by kernel_rfl) (by kernel_rfl) (by kernel_rfl) (fun _ _ _ h => h) (Or.inl ⟨by rfl, ?_⟩) (by assumption) ?_
          rotate_left 1
          · (intro w hSw; (try dsimp only at hSw); (first | (go_simp; done) | (go_simp; with_reducible rfl)))
          try simp only [Act.put, List.getElem_toArray, List.getElem_cons_zero, List.getElem_cons_succ, List.setIfInBounds_toArray, List.set_cons_zero, List.set_cons_succ]
          refine wpAnyH_done (by kernel_rfl) ?_ _
          refine NoPanic.normal ?_
          have HOw : Hid (Oth MB w wb) := hide ((HO3.out.trans (Oth.ofBelow (belowDrew8 (Below.refl _ _)))).trans ((Oth.ofBelow HBa.out).trans HOt.out))
          have HXb : Hid (Bx wb XB #[.slice da D.length dc, .map (some MB)] 63) := hide ((HOt.out.block XB xla hXM).trans ((HBa.out.block XB xl3).trans HX3.out))
          have hsb : w.heap.size ≤ wb.heap.size := HOw.out.size
          have hswa : w.heap.size ≤ wa.heap.size := by have := HO3.out.size; have : w3.heap.size ≤ wa.heap.size := HBa.out.size; omega
          clear b0 b1 fa0 fa1 fb0 fb1 HRec HQa HAll HX3
          cases T2 with
          | none =>
            obtain ⟨rfl, rfl, rfl⟩ := HNone.out rfl
            have HT4 : Hid (T = fstS (gF D a R) D.length (D.length - (j + 1))) := hide (HT3.out.1 rfl)
            clear HNone HOwn HT3 HWl
            simp only [Option.isSome_none]
            go_wp2_with fail
            exact ⟨⟨j + 1, by omega, by go_num, HT4.out, HKm.out, HOw.out, HXb.out⟩, by simp [intOf]; omega⟩
          | some l =>
            have hll := HWl.out l rfl
            have HOl := hide (HOwn.out l rfl)
            have HPy := hide (putAhead_any (.slice ba bn bc) w.heap.size ⟨2, (j : Int)⟩ l wb hsb (by omega) (own_lower HOl.out hswa))
            have hwn2 : wn D a R = some (⟨2, (j : Int)⟩ :: l) := by rw [← HT.out, HT3.out.2 l rfl]
            clear HNone HOwn HWl HT3
            simp only [Option.isSome_some]
            go_wp2_with fail
            refine Calls.mono HPy.out ?_
            rintro e wd ⟨vd, rfl, hod, hgd⟩
            obtain ⟨ad, ac, rfl⟩ := own_form hod
            have HWi := hide (WiOut.yes (lo := w.heap.size) (w' := wd) hwn2 (by have := hod; simpa using this))
            have hown : ∀ q, (Value.slice ba bn bc).ownBlock = some q → wa.heap.size ≤ q := fun q hq => (HOl.out.lt q hq).1
            have HOd : Hid (Oth MB w wd) := hide (HOw.out.trans' hgd (fun q hq => Nat.le_trans hswa (hown q hq)))
            have HKd := hide (HKm.out.keep (w' := wd) (hgd.block MB HKm.out.lt (fun e => by have := hown MB e.symm; omega)))
            obtain ⟨LN, hLN⟩ : ∃ LN, LN = l.length + 1 := ⟨_, rfl⟩
            rw [← hLN] at HWi ⊢
            clear HPy hod hgd hwn2 hown hLN
            go_wp2_with fail
            exact bodyPost_ret (v := .tuple #[.slice ad LN ac, .bool true]) (by simp [results, Try.results33, go_sem]) rfl ⟨HWi.out, HKd.out, HOd.out⟩
      · obtain rfl : j = D.length := by omega
        have hTn : wn D a R = none := by rw [← HT.out, HTj.out, fstS_end]
        obtain ⟨DD, cs, hown, htd, hnd, hcs, hhas⟩ := HKm0.out
        have hfew := codes_few (D := D) hA hR0 h8 hnd (fun n hn => by obtain ⟨a, R, g1, g2, -⟩ := hcs n hn; exact ⟨a, R, g1, g2⟩)
        have HPut := hide (fun (w1 : World) d hown1 => KM.put (w1 := w1) (MB := MB) (d := d) hdl hA hR0 htd hown.size_le hnd hcs hhas HWr.out HRe.out hTn hown1)
        have hwf : (Lit.int .i64 (RN : Int)).wf = true := by
          have : 0 ≤ RN := Nat.zero_le _
          rcases (by omega : RN = 0 ∨ RN = 1 ∨ RN = 2 ∨ RN = 3 ∨ RN = 4 ∨ RN = 5 ∨ RN = 6 ∨ RN = 7 ∨ RN = 8) with rfl | rfl | rfl | rfl | rfl | rfl | rfl | rfl | rfl <;> rfl
        have HNn := hide hTn
        clear hcs hhas hnd htd hTn HTj HIr
        go_wp2_with (first | (at_mapUpdate; refine wpList_mapUpdate_own _ rfl _ _ _ 61 rfl 9 3 lawS Try.underlying61 _ MB cs.length DD rfl hown hfew _ _ _ rfl rfl hkey _ [] (plainElem_int Try.underlying3 hwf) ?_; intro w6 hown6 hgrow6) | fail)
        exact bodyPost_ret (v := .tuple #[.slice none 0 0, .bool false]) (by simp [results, Try.results33, go_sem]) rfl ⟨WiOut.no HNn.out, HPut.out _ _ hown6, HOt0.out.trans ⟨hgrow6.os, hgrow6.tape, hgrow6.output, hgrow6.size, fun k hk hne => hgrow6.block k hk (fun e => hne (Option.some.inj e))⟩⟩
end Go.Proofs.Ytfepljcblajfpab.W

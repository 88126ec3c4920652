/-
  All steps by the specification: a contract of l4Steps. Conditions: good terms.
-/
import Derived.Test.YtbimfnnbfbfdoaaTeSq
namespace Go.Proofs.Ytbimfnnbfbfdoaa.W
open Go.ChangeShapes Go.WideShapes Go.ChangeAt Go.RowKit
set_option linter.unusedVariables false

theorem steps_none {X : Cc} {d r : F} {y : Cc} {ky : F} {OW : List (Option (Cc × F))} {D S : List (Option F)} (hS : S = D ++ (sv (.cons y ky r)).map (Option.map fun r' => d.app r')) (hn : coll (shv y ky) = none) : coll (OW ++ S.map (Option.map fun k' => (X, k'))) = none := by
  rw [hS, sv_cons, List.map_append, List.map_append, List.map_append, coll_app]
  cases coll OW with
  | none => rfl
  | some o =>
    simp only
    rw [coll_app]
    cases coll (D.map (Option.map fun k' => (X, k'))) with
    | none => rfl
    | some dd =>
      simp only
      rw [coll_app, coll_map, coll_map, coll_map, hn]
      rfl
theorem steps_next {d r : F} {y : Cc} {ky : F} {D S : List (Option F)} (hS : S = D ++ (sv (.cons y ky r)).map (Option.map fun r' => d.app r')) : S = (D ++ (shv y ky).map (Option.map fun p : Cc × F => d.app (.cons p.1 p.2 r))) ++ (sv r).map (Option.map fun r' => (d.app (.cons y ky .nil)).app r') := by
  rw [hS, sv_cons, List.map_append, List.append_assoc]
  congr 1
  simp [Function.comp_def, F.app_assoc, F.app]
theorem steps_some {X : Cc} {d r : F} {y : Cc} {ky : F} {OW : List (Option (Cc × F))} {D : List (Option F)} {Lo M : List (Cc × F)} (hL : coll (OW ++ D.map (Option.map fun k' => (X, k'))) = some Lo) (hM : coll (shv y ky) = some M) :
    coll (OW ++ (D ++ (shv y ky).map (Option.map fun p : Cc × F => d.app (.cons p.1 p.2 r))).map (Option.map fun k' => (X, k'))) = some (Lo ++ M.map fun p => (X, d.app (.cons p.1 p.2 r))) := by
  rw [List.map_append, ← List.append_assoc, coll_app, hL]
  simp only
  rw [coll_map, coll_map, hM]
  simp [Function.comp_def]

set_option maxRecDepth 20000 in
set_option maxHeartbeats 8000000 in
theorem l4Steps_any : ∀ k, SGoal k := by
  apply F.rec_kids
  intro k ih x s P w hok hl hT0
  have IH := hide ih
  have HOk := hide hok
  obtain ⟨P', hP'⟩ : ∃ P' : Nat → Prop, P' = fun g => P g ∧ g < w.heap.size := ⟨_, rfl⟩
  have HT : Hid (KidT w P' k s) := hide (by rw [hP']; exact kid_old hT0)
  have HPP : Hid (∀ g, P' g → P g ∧ g < w.heap.size) := hide (fun g h => by rw [hP'] at h; exact h)
  clear hP'
  have hkl3 : k.len ≤ 3 := by rw [hok.2.1]; exact ar_le _
  have hlen : (shv x k).length ≤ 600 := Nat.le_trans (sh_len hok) hl
  have HIs := hide (fun (w' : World) (hb : Below w.heap.size w w') => l4Is_any x k s _ w' hok.2.1 hok.2.2 (HT.out.below hb))
  have HC := hide (fun (w' : World) (hb : Below w.heap.size w w') => l4Contract_any x k s _ w' hok hl (HT.out.below hb))
  obtain ⟨i0, hi0, hz0, hz1, hz2⟩ := infoPartsT infoT
  have Hi := hide hi0
  clear hi0
  obtain ⟨sad, sc, rfl⟩ := hT0.form
  obtain ⟨KL, hKL⟩ : ∃ KL, KL = k.len := ⟨_, rfl⟩
  obtain ⟨R, hR⟩ : ∃ R, R = coll (shv x k) := ⟨_, rfl⟩
  rw [← hR]
  rw [← hKL] at HT HC HIs hkl3 ⊢
  have HKL := hide hKL
  obtain ⟨xk, xn⟩ := x
  rw [shv_eq] at hR hlen
  have HR := hide hR
  simp only at HC HIs ⊢
  clear ih hok hT0 hR hKL
  cases hrd : redx ⟨xk, xn⟩ k with
  | false =>
    rw [hrd] at HIs
    have hOW : ownR ⟨xk, xn⟩ k = [] := by unfold ownR; rw [if_neg (by rw [hrd]; simp)]
    obtain ⟨OW, hOWe⟩ : ∃ OW, OW = ownR ⟨xk, xn⟩ k := ⟨_, rfl⟩
    have HRe : Hid (R = coll (OW ++ (sv k).map (Option.map fun k' => ((⟨xk, xn⟩ : Cc), k')))) := hide (by rw [hOWe]; exact HR.out)
    have HLo : Hid (coll OW = some []) := hide (by rw [hOWe, hOW]; rfl)
    rw [← hOWe] at hlen
    clear HC hrd HR hOW hOWe
    go_enter Try.func55, Try.ntmps55
    go_wp2_with fail
    obtain ⟨w0, hw0⟩ : ∃ w0, w0 = w.alloc (.cells #[.int .i64 xk, .int .i64 xn, .slice sad KL sc] 63) := ⟨_, rfl⟩
    rw [← hw0]
    have hB0 : Below w.heap.size w w0 := by rw [hw0]; exact (Below.refl _ _).alloc (Nat.le_refl _) _
    have hbT : w0.heap[w.heap.size]? = some (.cells #[.int .i64 xk, .int .i64 xn, .slice sad KL sc] 63) := by rw [hw0]; exact heap_alloc_new _ _
    have hsz0 : w0.heap.size = w.heap.size + 1 := by rw [hw0]; simp
    clear hw0
    refine Calls.mono (HIs.out _ hB0) ?_
    rintro e w1 ⟨rfl, hb1⟩
    have hsz1 := hb1.size
    have hBw1 : Below w.heap.size w w1 := hB0.trans (hb1.mono hB0.size)
    have hT1 := (hb1.block w.heap.size (by omega)).trans hbT
    have t0 : w1.cell? ⟨w.heap.size, 0, none⟩ = some (.int .i64 xk) := (cell_of_blk hT1 0).trans rfl
    have t1 : w1.cell? ⟨w.heap.size, 1, none⟩ = some (.int .i64 xn) := (cell_of_blk hT1 1).trans rfl
    have t2 : w1.cell? ⟨w.heap.size, 2, none⟩ = some (.slice sad KL sc) := (cell_of_blk hT1 2).trans rfl
    have HT1 := hide hT1
    clear HIs hbT hT1
    go_wp2_with fail
    obtain ⟨Lo0, hLo0⟩ : ∃ Lo0 : List (Cc × F), Lo0 = [] := ⟨_, rfl⟩
    obtain ⟨cs0, hcs0⟩ : ∃ cs0 : List Value, cs0 = [] := ⟨_, rfl⟩
    have HOT : Hid (OT w1 (w.heap.size + 1) P' (.slice none 0 0) Lo0 cs0) := hide (by rw [hLo0, hcs0]; exact OT.start _ _ _)
    rw [← hLo0] at HLo
    have hszs : w.heap.size + 1 ≤ w1.heap.size := by omega
    have HTs := HT1
    have hBs := hBw1
    clear hLo0 hcs0 t0 t1 t2
    go_loopw [4, 29] (fun v i w' => ∃ (d r : F) (D : List (Option F)) (Lo : List (Cc × F)) (cs : List Value), k = d.app r ∧ i = .int .i64 (d.len : Int) ∧ sv k = D ++ (sv r).map (Option.map fun r' => d.app r') ∧ coll (OW ++ D.map (Option.map fun k' => ((⟨xk, xn⟩ : Cc), k'))) = some Lo ∧ OT w' (w.heap.size + 1) P' v Lo cs ∧ w.heap.size + 1 ≤ w'.heap.size ∧ w'.heap[w.heap.size]? = some (.cells #[.int .i64 xk, .int .i64 xn, .slice sad KL sc] 63 (0, 0)) ∧ Below w.heap.size w w') (fun _ i _ => KL - (intOf i).toNat)
    case atStart => exact ⟨.nil, k, [], Lo0, cs0, rfl, rfl, by simp [F.app], by rw [List.map_nil, List.append_nil]; exact HLo.out, HOT.out, hszs, HTs.out, hBs⟩
    case round =>
      obtain ⟨d, r, D, Lo, cs, hk, rfl, hsv, hLo, hot, hszr, hbTr, hBw⟩ := hrel
      have HSv := hide hsv
      have HLr := hide hLo
      have HOr := hide hot
      have HTr := hide hbTr
      obtain ⟨oa, oc, rfl⟩ := iOwn_form hot.own
      clear hsv hLo hot hbTr HOT HLo HTs
      cases r with
      | nil =>
        have hRn : R = some Lo := by rw [HRe.out, HSv.out]; simp only [sv, sk, List.map_nil, List.append_nil]; exact HLr.out
        subst hRn
        rw [F.app_nil] at hk
        subst hk
        have hKL := HKL.out
        rw [← hKL]
        obtain ⟨LN, hLN⟩ : ∃ LN, LN = Lo.length := ⟨_, rfl⟩
        rw [← hLN] at HOr ⊢
        clear hKL HRe hLN
        go_wp2_with fail
        exact bodyPost_ret (v := .tuple #[.slice oa LN oc, .bool true]) (by simp [results, Try.results55, go_sem]) rfl ⟨⟨_, rfl, HOr.out.kidT (fun g h => h.elim (fun h => .inl (HPP.out g h.1).1) (fun h => .inr (by omega)))⟩, hBw⟩
      | cons y ky r =>
        have hO := HOk.out.2.2
        rw [hk] at hO
        obtain ⟨gy, ly, oy, orr⟩ := ((F.app_ok _ _).1 hO).2
        have hfk : k.flat.length = d.flat.length + (1 + ky.flat.length + r.flat.length) := by rw [hk, F.app_flat]; simp [F.flat]; omega
        have hI := IH.out
        rw [hk] at hI
        have hkl2 : KL = d.len + (r.len + 1) := by rw [HKL.out, hk, F.app_len]; rfl
        have hlt' : (d.len : Int) < (KL : Int) := by omega
        have hd0 : (0 : Int) ≤ (d.len : Int) := by omega
        obtain ⟨g, cap, sy, he, hPg, hg, hTy, p0, p1, p2⟩ := KidT.kid (a := d) (k := ky) (r := r) (x := y) (s := .slice sad KL sc) (by rw [← hk]; exact HT.out)
        simp only [Value.slice.injEq] at he
        obtain ⟨rfl, -, rfl⟩ := he
        have q0 := (hBw.cell (p := ⟨g, d.len * 3, none⟩) hg).trans p0
        have q1 := (hBw.cell (p := ⟨g, d.len * 3 + 1, none⟩) hg).trans p1
        have q2 := (hBw.cell (p := ⟨g, d.len * 3 + 2, none⟩) hg).trans p2
        have HCl := hide (fun (w' : World) (hw' : Below w.heap.size w w') => F.all_at hI y sy _ w' ⟨gy, ly, oy⟩ (by omega) (hTy.below hw'))
        have HWi := hide (fun (z : Cc) (kz : F) (sz : Value) (Q : Nat → Prop) (w' : World) (hw' : Below w.heap.size w w') (hZ : KidT w' Q kz sz) => l4With_any ⟨xk, xn⟩ y z d ky r kz (.slice (some ⟨g, 0, none⟩) KL sc) sz _ Q w' (by rw [← hk]; have := HKL.out; omega) (by rw [← hk]; exact HT.out.below hw') hZ)
        obtain ⟨yad, yc, rfl⟩ := hTy.form
        have HSn := hide (hk.trans (F.app_snoc d ky r y))
        have HDl : Hid ((d.app (.cons y ky .nil)).len = d.len + 1) := hide (by rw [F.app_len]; rfl)
        have HNone : Hid (coll (shv y ky) = none → R = none) := hide (fun hv => by rw [HRe.out]; exact steps_none HSv.out hv)
        have HNext := hide (steps_next HSv.out)
        have HSome : Hid (∀ M, coll (shv y ky) = some M → _) := hide (fun M hv => steps_some (X := ⟨xk, xn⟩) (d := d) (r := r) HLr.out hv)
        have hlen2 : ∀ M, coll (shv y ky) = some M → Lo.length + M.length ≤ 600 := fun M hv => by
          have h1 := coll_len HLr.out
          have h2 := coll_len hv
          have h3 := hlen
          rw [HNext.out] at h3
          simp only [List.length_append, List.length_map] at h1 h3
          omega
        obtain ⟨DL, hDL⟩ : ∃ DL, DL = d.len := ⟨_, rfl⟩
        obtain ⟨kn, hkn⟩ : ∃ kn, kn = ky.len := ⟨_, rfl⟩
        obtain ⟨CM, hCM⟩ : ∃ CM, CM = coll (shv y ky) := ⟨_, rfl⟩
        rw [← hDL] at hlt' hd0 q0 q1 q2 HDl HWi ⊢
        rw [← hkn] at q2 HCl
        rw [← hCM] at HCl HNone HSome hlen2
        have HDL := hide hDL
        have hDL3 : DL ≤ 3 := by omega
        have hBa : ∀ o : Obj, Below w.heap.size w (wr.alloc o) := fun o => hBw.alloc hBw.size o
        clear p0 p1 p2 hTy hI hO gy ly oy orr hfk hk hkl2 hDL hkn hCM HRe hlen
        go_wp2_with fail
        refine Calls.mono (HCl.out _ (hBa _)) ?_
        rintro e w2 ⟨hso, hb2⟩
        have hsa : wr.heap.size + 1 ≤ w2.heap.size := by have := hb2.size; simpa using this
        have hb2' : Below wr.heap.size wr w2 := ((Below.refl _ wr).alloc (Nat.le_refl _) _).trans (hb2.mono (by simp))
        have hB2 : Below w.heap.size w w2 := hBw.trans (hb2'.mono hBw.size)
        have hT2 := (hb2'.block w.heap.size (by omega)).trans HTr.out
        have HO2 := hide (HOr.out.below hb2')
        clear q0 q1 q2 HCl
        cases CM with
        | none =>
          obtain rfl : e = .returned (.tuple #[.slice none 0 0, .bool false]) := hso
          have hRn := HNone.out rfl
          subst hRn
          go_wp2_with fail
          exact bodyPost_ret (v := .tuple #[.slice none 0 0, .bool false]) (by simp [results, Try.results55, go_sem]) rfl ⟨rfl, hB2⟩
        | some M =>
          obtain ⟨s2, rfl, hM2⟩ : ∃ s', e = .returned (.tuple #[s', .bool true]) ∧ KidT w2 _ (toF M) s' := hso
          have HSo := hide (HSome.out M rfl)
          have hlM := hlen2 M rfl
          obtain ⟨mad, mc, hmf⟩ := hM2.form
          rw [toF_len] at hmf
          subst hmf
          have HM2 : Hid (KidT w2 (fun g => (P' g ∧ g < w.heap.size) ∨ (wr.heap.size ≤ g ∧ g < w2.heap.size)) (toF M) (.slice mad M.length mc)) := hide (hM2.weak (fun g h1 h2 => h1.elim (fun h => .inl ⟨h, (HPP.out g h).2⟩) (fun h => .inr ⟨by have h' : (wr.alloc (.cells #[.int .i64 y.k, .int .i64 y.n, .slice yad kn yc] 63)).heap.size ≤ g := h; simp at h'; omega, h2⟩)))
          have HTt := hide hT2
          have hownlt : ∀ q, (Value.slice oa Lo.length oc).ownBlock = some q → q < wr.heap.size := fun q hq => (HOr.out.own.lt q hq).2
          have HOwn := hide hownlt
          clear hM2 hT2 HNone HSome hlen2 hownlt hb2
          obtain ⟨ML, hML⟩ : ∃ ML, ML = M.length := ⟨_, rfl⟩
          obtain ⟨LN, hLN⟩ : ∃ LN, LN = Lo.length := ⟨_, rfl⟩
          rw [← hML] at HM2 hlM ⊢
          rw [← hLN] at HO2 hlM HOwn HOr ⊢
          have HML := hide hML
          have HLN := hide hLN
          clear hML hLN
          obtain ⟨WS, hWS⟩ : ∃ WS, WS = wr.heap.size := ⟨_, rfl⟩
          rw [← hWS] at HM2 HOwn hsa hszr
          clear hWS
          go_wp2_with fail
          go_loopw [4, 43] (fun v i w' => ∃ (A B : List (Cc × F)) (cs : List Value), M = A ++ B ∧ i = .int .i64 (A.length : Int) ∧ OT w' (w.heap.size + 1) P' v (Lo ++ A.map fun p => ((⟨xk, xn⟩ : Cc), d.app (.cons p.1 p.2 r))) cs ∧ Below (w.heap.size + 1) w2 w' ∧ (∀ g, g < w.heap.size + 1 ∨ WS ≤ g → g < w2.heap.size → w'.heap[g]? = w2.heap[g]?) ∧ (∀ g, v.ownBlock = some g → g < WS ∨ w2.heap.size ≤ g)) (fun _ i _ => ML - (intOf i).toNat)
          case atStart => exact ⟨[], M, cs, rfl, rfl, by rw [List.map_nil, List.append_nil]; exact HO2.out, Below.refl _ _, fun _ _ _ => rfl, fun g hg => .inl (HOwn.out g hg)⟩
          case round =>
            obtain ⟨A, B, cs2, hM, rfl, hot, hBe, hkp, hap⟩ := hrel
            have HOt := hide hot
            have HKp := hide hkp
            have HAp := hide hap
            obtain ⟨oa2, oc2, rfl⟩ := iOwn_form hot.own
            have hsr := hBe.size
            have hBr2 : Below w.heap.size w wr := hB2.trans (hBe.mono (by omega))
            have hTq := (HKp.out w.heap.size (.inl (by omega)) (by omega)).trans HTt.out
            clear hot hkp hap HO2
            cases B with
            | nil =>
              rw [List.append_nil] at hM
              subst hM
              have hML := HML.out
              rw [← hML]
              obtain ⟨ON, hON⟩ : ∃ ON, ON = (Lo ++ M.map fun p => ((⟨xk, xn⟩ : Cc), d.app (.cons p.1 p.2 r))).length := ⟨_, rfl⟩
              rw [← hON] at HOt ⊢
              clear hML hON
              have HTq := hide hTq
              clear hTq
              go_wp2_with fail
              exact ⟨⟨d.app (.cons y ky .nil), r, _, _, cs2, HSn.out, by rw [HDl.out]; go_num, HNext.out, HSo.out, HOt.out, by omega, HTq.out, hBr2⟩, by simp [intOf]; omega⟩
            | cons p B =>
              have hMl : ML = A.length + (B.length + 1) := by rw [HML.out, hM]; simp
              have hlt2 : (A.length : Int) < (ML : Int) := by omega
              have hA0 : (0 : Int) ≤ (A.length : Int) := by omega
              have hMr : KidT wr (fun g => (P' g ∧ g < w.heap.size) ∨ (WS ≤ g ∧ g < w2.heap.size)) ((toF A).app (.cons p.1 p.2 (toF B))) (.slice mad ML mc) := by
                have h := HM2.out.keep (w' := wr) (P' := fun g => (P' g ∧ g < w.heap.size) ∨ (WS ≤ g ∧ g < w2.heap.size)) hsr (fun g h1 h2 => ⟨HKp.out g (h1.imp (fun h => by omega) (fun h => h.1)) h2, h1⟩)
                rw [hM, toF_app] at h
                exact h
              obtain ⟨gm, cpm, sz, hem, hPm, hgm, hTz, p0, p1, p2⟩ := KidT.kid hMr
              simp only [Value.slice.injEq] at hem
              obtain ⟨rfl, -, rfl⟩ := hem
              rw [toF_len] at p0 p1 p2
              obtain ⟨zad, zc, rfl⟩ := hTz.form
              have T0 : ∀ o : Obj, (wr.alloc o).cell? ⟨w.heap.size, 0, none⟩ = some (.int .i64 xk) := fun o => (cell_of_blk ((heap_alloc_old _ _ (by omega)).trans hTq) 0).trans rfl
              have T1 : ∀ o : Obj, (wr.alloc o).cell? ⟨w.heap.size, 1, none⟩ = some (.int .i64 xn) := fun o => (cell_of_blk ((heap_alloc_old _ _ (by omega)).trans hTq) 1).trans rfl
              have T2 : ∀ o : Obj, (wr.alloc o).cell? ⟨w.heap.size, 2, none⟩ = some (.slice (some ⟨g, 0, none⟩) KL sc) := fun o => (cell_of_blk ((heap_alloc_old _ _ (by omega)).trans hTq) 2).trans rfl
              have HWW := hide (fun o : Obj => HWi.out p.1 p.2 (.slice zad p.2.len zc) _ (wr.alloc o) (hBr2.alloc hBr2.size o) (hTz.below ((Below.refl _ _).alloc (Nat.le_refl _) o)))
              have HMs : Hid (M = (A ++ [p]) ++ B) := hide (by rw [hM]; simp)
              obtain ⟨AN, hAN⟩ : ∃ AN, AN = A.length := ⟨_, rfl⟩
              obtain ⟨PN, hPN⟩ : ∃ PN, PN = p.2.len := ⟨_, rfl⟩
              obtain ⟨ON, hON⟩ : ∃ ON, ON = (Lo ++ A.map fun p => ((⟨xk, xn⟩ : Cc), d.app (.cons p.1 p.2 r))).length := ⟨_, rfl⟩
              have hON6 : ON ≤ 600 := by rw [hON, List.length_append, List.length_map, ← HLN.out]; omega
              rw [← hAN] at hlt2 hA0 hMl p0 p1 p2 ⊢
              rw [← hPN] at HWW p2
              have HON := hide hON
              rw [← hON] at HOt HAp ⊢
              have HAN := hide hAN
              have hAN6 : AN ≤ 600 := by omega
              clear hM hMr hTz hAN hPN hON hTq HWi HM2
              go_wp2_with fail
              refine Calls.mono (HWW.out _) ?_
              rintro e w4 ⟨s4, rfl, hK4, hb4⟩
              have hs4 : wr.heap.size + 1 ≤ w4.heap.size := by have := hb4.size; simpa using this
              have hb4' : Below wr.heap.size wr w4 := ((Below.refl _ wr).alloc (Nat.le_refl _) _).trans (hb4.mono (by simp))
              have HOt4 := hide (HOt.out.below hb4')
              have HK4 := hide hK4
              obtain ⟨qad, qc, rfl⟩ := hK4.form
              obtain ⟨QN, hQN⟩ : ∃ QN, QN = (d.app (.cons p.1 p.2 r)).len := ⟨_, rfl⟩
              rw [← hQN] at HK4 ⊢
              clear hK4 hQN HWW T0 T1 T2 p0 p1 p2
              go_wp2_with (at_builtin; refine wpList_append_sep rfl _ _ 61 rfl (w.heap.size + 1) 63 i0 (.agg #[.int .i64 0, .int .i64 0, .slice none 0 0]) 3 40 Try.underlying61 Hi.out hz0 hz1 hz2 rfl (by decide) _ _ _ rfl ((show w4.ownsRow (w.heap.size + 1) 63 3 (.slice oa2 ON oc2) ON cs2 from by rw [HON.out] at HOt4 ⊢; exact HOt4.out.own).alloc _) ⟨w4.heap.size, 0, none⟩ 1 1 (tC ⟨xk, xn⟩ (.slice qad QN qc)) rfl rfl ?c1 ?c2 ?c3 ?c4 ?c5 ?_)
              case c1 => exact tC_cells (heap_alloc_new _ _)
              case c2 => exact tC_one _ _ rfl
              case c3 => unfold maxLen; omega
              case c4 => omega
              case c5 => simp; omega
              intro v' w6 hown6 hgr6 hap6
              have hom := HOt.out.more (p := ((⟨xk, xn⟩ : Cc), d.app (.cons p.1 p.2 r))) (by omega) hb4' HK4.out (fun g1 h1 h2 => ?hR) (by rw [← HON.out]; exact hown6) hgr6 hap6
              case hR =>
                have hfar : ∀ g1, WS ≤ g1 → g1 < w2.heap.size ∨ wr.heap.size ≤ g1 → (Value.slice oa2 ON oc2).ownBlock ≠ some g1 := fun g1 ha hb' e => by
                  have := (HOt.out.own.lt g1 e).2
                  rcases HAp.out g1 e with h | h <;> omega
                rcases h1 with (h1 | h1 | h1) | h1
                · exact .inl ⟨h1, by have := (HPP.out g1 h1).2; omega⟩
                · exact .inl ⟨h1.1, by omega⟩
                · exact .inr ⟨by omega, hfar g1 h1.1 (.inl h1.2)⟩
                · have h1' : wr.heap.size + 1 ≤ g1 := by simpa using h1
                  exact .inr ⟨by omega, hfar g1 (by omega) (.inr (by omega))⟩
              obtain ⟨ho6, hb6, hk6⟩ := hom
              obtain ⟨va, vc, rfl⟩ := iOwn_form hown6
              have HO6 := hide ho6
              have HK6 := hide hk6
              have HA6 := hide hap6
              clear ho6 hk6 hap6 hown6 hgr6
              go_wp2_with fail
              have hA := HAN.out
              refine ⟨⟨_, _, _, ⟨A ++ [p], ⟨B, HMs.out⟩, by rw [List.length_append, List.length_singleton, ← hA]; go_num, ⟨cs2 ++ tC (⟨xk, xn⟩ : Cc) (.slice qad QN qc), ?_⟩, hBe.trans hb6, fun g1 h1 h2 => ?_, fun g1 h1 => ?_⟩, rfl, rfl, rfl⟩, by simp [intOf]; omega⟩
              · rw [List.map_append, ← List.append_assoc]; exact HO6.out
              · rw [HK6.out g1 (by omega) (fun e => ?_), hb4'.block g1 (by omega)]
                · exact HKp.out g1 h1 h2
                · have hb0 := (HOt.out.own.lt g1 e).1
                  rcases HAp.out g1 e with h | h
                  · rcases h1 with h1 | h1 <;> omega
                  · omega
              · rcases HA6.out g1 h1 with h | h
                · exact HAp.out g1 h
                · simp at h; right; omega
  | true =>
    rw [hrd] at HIs
    have hOW : ownR ⟨xk, xn⟩ k = [ctrO ⟨xk, xn⟩ k] := by unfold ownR; rw [if_pos hrd]
    have hCe : ctrR ⟨xk, xn⟩ k = ctrO ⟨xk, xn⟩ k := by unfold ctrR; rw [if_pos hrd]
    rw [hCe] at HC
    obtain ⟨OW, hOWe⟩ : ∃ OW, OW = ownR ⟨xk, xn⟩ k := ⟨_, rfl⟩
    have HRe : Hid (R = coll (OW ++ (sv k).map (Option.map fun k' => ((⟨xk, xn⟩ : Cc), k')))) := hide (by rw [hOWe]; exact HR.out)
    rw [hOW] at hOWe
    rw [hOW] at hlen
    obtain ⟨C, hC⟩ : ∃ C, C = ctrO ⟨xk, xn⟩ k := ⟨_, rfl⟩
    rw [← hC] at HC hOWe hlen
    have HOWe := hide hOWe
    clear hrd HR hOW hOWe hC hCe
    go_enter Try.func55, Try.ntmps55
    go_wp2_with fail
    obtain ⟨w0, hw0⟩ : ∃ w0, w0 = w.alloc (.cells #[.int .i64 xk, .int .i64 xn, .slice sad KL sc] 63) := ⟨_, rfl⟩
    rw [← hw0]
    have hB0 : Below w.heap.size w w0 := by rw [hw0]; exact (Below.refl _ _).alloc (Nat.le_refl _) _
    have hbT : w0.heap[w.heap.size]? = some (.cells #[.int .i64 xk, .int .i64 xn, .slice sad KL sc] 63) := by rw [hw0]; exact heap_alloc_new _ _
    have hsz0 : w0.heap.size = w.heap.size + 1 := by rw [hw0]; simp
    clear hw0
    refine Calls.mono (HIs.out _ hB0) ?_
    rintro e w1 ⟨rfl, hb1⟩
    have hsz1 := hb1.size
    have hBw1 : Below w.heap.size w w1 := hB0.trans (hb1.mono hB0.size)
    have hT1 := (hb1.block w.heap.size (by omega)).trans hbT
    have t0 : w1.cell? ⟨w.heap.size, 0, none⟩ = some (.int .i64 xk) := (cell_of_blk hT1 0).trans rfl
    have t1 : w1.cell? ⟨w.heap.size, 1, none⟩ = some (.int .i64 xn) := (cell_of_blk hT1 1).trans rfl
    have t2 : w1.cell? ⟨w.heap.size, 2, none⟩ = some (.slice sad KL sc) := (cell_of_blk hT1 2).trans rfl
    have HT1 := hide hT1
    clear HIs hbT hT1
    go_wp2_with fail
    refine Calls.mono (HC.out _ hBw1) ?_
    rintro e w2 ⟨hto, hb2⟩
    have hBw2 : Below w.heap.size w w2 := hBw1.trans (hb2.mono hBw1.size)
    have hsz2 := hb2.size
    have HTs2 := hide ((hb2.block w.heap.size (by omega)).trans HT1.out)
    clear t0 t1 t2 HC
    cases C with
    | none =>
      obtain rfl : e = .returned (.tuple #[.agg #[.int .i64 0, .int .i64 0, .slice none 0 0], .bool false]) := hto
      have hRn : R = none := by rw [HRe.out, HOWe.out]; rfl
      subst hRn
      go_wp2_with fail
      exact bodyPost_ret (v := .tuple #[.slice none 0 0, .bool false]) (by simp [results, Try.results55, go_sem]) rfl ⟨rfl, hBw2.alloc hBw2.size _⟩
    | some p =>
      obtain ⟨s2, rfl, hK2⟩ : ∃ s', e = .returned (.tuple #[.agg #[.int .i64 p.1.k, .int .i64 p.1.n, s'], .bool true]) ∧ KidT w2 _ p.2 s' := hto
      obtain ⟨pad, pc2, hpf⟩ := hK2.form
      subst hpf
      obtain ⟨PN, hPN⟩ : ∃ PN, PN = p.2.len := ⟨_, rfl⟩
      have HK2 := hide hK2
      rw [← hPN] at HK2 ⊢
      clear hK2 hPN
      go_wp2_with (at_builtin; refine wpList_append_sep rfl _ _ 61 rfl (w.heap.size + 1) 63 i0 (.agg #[.int .i64 0, .int .i64 0, .slice none 0 0]) 3 40 Try.underlying61 Hi.out hz0 hz1 hz2 rfl (by decide) _ 0 [] rfl (World.ownsRow_nil _ _ _ _) ⟨w2.heap.size + 1, 0, none⟩ 1 1 (tC p.1 (.slice pad PN pc2)) rfl rfl ?c1 ?c2 ?c3 ?c4 ?c5 ?_)
      case c1 => exact tC_cells (by have := heap_alloc_new (w2.alloc (.cells #[.int .i64 p.1.k, .int .i64 p.1.n, .slice pad PN pc2] 63)) (.cells #[.int .i64 p.1.k, .int .i64 p.1.n, .slice pad PN pc2] 63); simpa using this)
      case c2 => exact tC_one _ _ rfl
      case c3 => unfold maxLen; omega
      case c4 => omega
      case c5 => simp; omega
      intro v' w6 hown6 hgr6 hap6
      have hba : Below w2.heap.size w2 (w2.alloc (.cells #[.int .i64 p.1.k, .int .i64 p.1.n, .slice pad PN pc2] 63)) := (Below.refl _ _).alloc (Nat.le_refl _) _
      have hom := (OT.start w2 (w.heap.size + 1) P').more (p := p) (by omega) hba (HK2.out.below hba) (fun g1 h1 h2 => ?hR) hown6 hgr6 hap6
      case hR =>
        rcases h1 with h1 | h1
        · exact .inl ⟨h1, by have := (HPP.out g1 h1).2; omega⟩
        · exact .inr ⟨by omega, by simp [Value.ownBlock]⟩
      obtain ⟨ho6, hb6, hk6⟩ := hom
      have hTs6 : w6.heap[w.heap.size]? = some (.cells #[.int .i64 xk, .int .i64 xn, .slice sad KL sc] 63 (0, 0)) := (hb6.block _ (by omega)).trans HTs2.out
      have hszs : w.heap.size + 1 ≤ w6.heap.size := by have := hb6.size; omega
      have hBs : Below w.heap.size w w6 := hBw2.trans (hb6.mono (by omega))
      have t2 : w6.cell? ⟨w.heap.size, 2, none⟩ = some (.slice sad KL sc) := (cell_of_blk hTs6 2).trans rfl
      obtain ⟨va, vc, rfl⟩ := iOwn_form hown6
      obtain ⟨Lo0, hLo0⟩ : ∃ Lo0 : List (Cc × F), Lo0 = [p] := ⟨_, rfl⟩
      obtain ⟨cs0, hcs0⟩ : ∃ cs0 : List Value, cs0 = [] ++ tC p.1 (.slice pad PN pc2) := ⟨_, rfl⟩
      have HOT : Hid (OT w6 (w.heap.size + 1) P' (.slice va (0 + 1) vc) Lo0 cs0) := hide (by rw [hLo0, hcs0]; exact ho6)
      have HLo : Hid (coll OW = some Lo0) := hide (by rw [HOWe.out, hLo0]; rfl)
      have HTs := hide hTs6
      have hlen' : (OW ++ (sv k).map (Option.map fun k' => ((⟨xk, xn⟩ : Cc), k'))).length ≤ 600 := by rw [HOWe.out]; exact hlen
      have hlen := hlen'
      clear hlen' ho6 hb6 hk6 hTs6 hown6 hgr6 hap6 hLo0 hcs0 HK2 HTs2 HOWe
      go_wp2_with fail
      go_loopw [4, 29] (fun v i w' => ∃ (d r : F) (D : List (Option F)) (Lo : List (Cc × F)) (cs : List Value), k = d.app r ∧ i = .int .i64 (d.len : Int) ∧ sv k = D ++ (sv r).map (Option.map fun r' => d.app r') ∧ coll (OW ++ D.map (Option.map fun k' => ((⟨xk, xn⟩ : Cc), k'))) = some Lo ∧ OT w' (w.heap.size + 1) P' v Lo cs ∧ w.heap.size + 1 ≤ w'.heap.size ∧ w'.heap[w.heap.size]? = some (.cells #[.int .i64 xk, .int .i64 xn, .slice sad KL sc] 63 (0, 0)) ∧ Below w.heap.size w w') (fun _ i _ => KL - (intOf i).toNat)
      case atStart => exact ⟨.nil, k, [], Lo0, cs0, rfl, rfl, by simp [F.app], by rw [List.map_nil, List.append_nil]; exact HLo.out, HOT.out, hszs, HTs.out, hBs⟩
      case round =>
        obtain ⟨d, r, D, Lo, cs, hk, rfl, hsv, hLo, hot, hszr, hbTr, hBw⟩ := hrel
        have HSv := hide hsv
        have HLr := hide hLo
        have HOr := hide hot
        have HTr := hide hbTr
        obtain ⟨oa, oc, rfl⟩ := iOwn_form hot.own
        clear hsv hLo hot hbTr HOT HLo HTs
        cases r with
        | nil =>
          have hRn : R = some Lo := by rw [HRe.out, HSv.out]; simp only [sv, sk, List.map_nil, List.append_nil]; exact HLr.out
          subst hRn
          rw [F.app_nil] at hk
          subst hk
          have hKL := HKL.out
          rw [← hKL]
          obtain ⟨LN, hLN⟩ : ∃ LN, LN = Lo.length := ⟨_, rfl⟩
          rw [← hLN] at HOr ⊢
          clear hKL HRe hLN
          go_wp2_with fail
          exact bodyPost_ret (v := .tuple #[.slice oa LN oc, .bool true]) (by simp [results, Try.results55, go_sem]) rfl ⟨⟨_, rfl, HOr.out.kidT (fun g h => h.elim (fun h => .inl (HPP.out g h.1).1) (fun h => .inr (by omega)))⟩, hBw⟩
        | cons y ky r =>
          have hO := HOk.out.2.2
          rw [hk] at hO
          obtain ⟨gy, ly, oy, orr⟩ := ((F.app_ok _ _).1 hO).2
          have hfk : k.flat.length = d.flat.length + (1 + ky.flat.length + r.flat.length) := by rw [hk, F.app_flat]; simp [F.flat]; omega
          have hI := IH.out
          rw [hk] at hI
          have hkl2 : KL = d.len + (r.len + 1) := by rw [HKL.out, hk, F.app_len]; rfl
          have hlt' : (d.len : Int) < (KL : Int) := by omega
          have hd0 : (0 : Int) ≤ (d.len : Int) := by omega
          obtain ⟨g, cap, sy, he, hPg, hg, hTy, p0, p1, p2⟩ := KidT.kid (a := d) (k := ky) (r := r) (x := y) (s := .slice sad KL sc) (by rw [← hk]; exact HT.out)
          simp only [Value.slice.injEq] at he
          obtain ⟨rfl, -, rfl⟩ := he
          have q0 := (hBw.cell (p := ⟨g, d.len * 3, none⟩) hg).trans p0
          have q1 := (hBw.cell (p := ⟨g, d.len * 3 + 1, none⟩) hg).trans p1
          have q2 := (hBw.cell (p := ⟨g, d.len * 3 + 2, none⟩) hg).trans p2
          have HCl := hide (fun (w' : World) (hw' : Below w.heap.size w w') => F.all_at hI y sy _ w' ⟨gy, ly, oy⟩ (by omega) (hTy.below hw'))
          have HWi := hide (fun (z : Cc) (kz : F) (sz : Value) (Q : Nat → Prop) (w' : World) (hw' : Below w.heap.size w w') (hZ : KidT w' Q kz sz) => l4With_any ⟨xk, xn⟩ y z d ky r kz (.slice (some ⟨g, 0, none⟩) KL sc) sz _ Q w' (by rw [← hk]; have := HKL.out; omega) (by rw [← hk]; exact HT.out.below hw') hZ)
          obtain ⟨yad, yc, rfl⟩ := hTy.form
          have HSn := hide (hk.trans (F.app_snoc d ky r y))
          have HDl : Hid ((d.app (.cons y ky .nil)).len = d.len + 1) := hide (by rw [F.app_len]; rfl)
          have HNone : Hid (coll (shv y ky) = none → R = none) := hide (fun hv => by rw [HRe.out]; exact steps_none HSv.out hv)
          have HNext := hide (steps_next HSv.out)
          have HSome : Hid (∀ M, coll (shv y ky) = some M → _) := hide (fun M hv => steps_some (X := ⟨xk, xn⟩) (d := d) (r := r) HLr.out hv)
          have hlen2 : ∀ M, coll (shv y ky) = some M → Lo.length + M.length ≤ 600 := fun M hv => by
            have h1 := coll_len HLr.out
            have h2 := coll_len hv
            have h3 := hlen
            rw [HNext.out] at h3
            simp only [List.length_append, List.length_map] at h1 h3
            omega
          obtain ⟨DL, hDL⟩ : ∃ DL, DL = d.len := ⟨_, rfl⟩
          obtain ⟨kn, hkn⟩ : ∃ kn, kn = ky.len := ⟨_, rfl⟩
          obtain ⟨CM, hCM⟩ : ∃ CM, CM = coll (shv y ky) := ⟨_, rfl⟩
          rw [← hDL] at hlt' hd0 q0 q1 q2 HDl HWi ⊢
          rw [← hkn] at q2 HCl
          rw [← hCM] at HCl HNone HSome hlen2
          have HDL := hide hDL
          have hDL3 : DL ≤ 3 := by omega
          have hBa : ∀ o : Obj, Below w.heap.size w (wr.alloc o) := fun o => hBw.alloc hBw.size o
          clear p0 p1 p2 hTy hI hO gy ly oy orr hfk hk hkl2 hDL hkn hCM HRe hlen
          go_wp2_with fail
          refine Calls.mono (HCl.out _ (hBa _)) ?_
          rintro e w2 ⟨hso, hb2⟩
          have hsa : wr.heap.size + 1 ≤ w2.heap.size := by have := hb2.size; simpa using this
          have hb2' : Below wr.heap.size wr w2 := ((Below.refl _ wr).alloc (Nat.le_refl _) _).trans (hb2.mono (by simp))
          have hB2 : Below w.heap.size w w2 := hBw.trans (hb2'.mono hBw.size)
          have hT2 := (hb2'.block w.heap.size (by omega)).trans HTr.out
          have HO2 := hide (HOr.out.below hb2')
          clear q0 q1 q2 HCl
          cases CM with
          | none =>
            obtain rfl : e = .returned (.tuple #[.slice none 0 0, .bool false]) := hso
            have hRn := HNone.out rfl
            subst hRn
            go_wp2_with fail
            exact bodyPost_ret (v := .tuple #[.slice none 0 0, .bool false]) (by simp [results, Try.results55, go_sem]) rfl ⟨rfl, hB2⟩
          | some M =>
            obtain ⟨s2, rfl, hM2⟩ : ∃ s', e = .returned (.tuple #[s', .bool true]) ∧ KidT w2 _ (toF M) s' := hso
            have HSo := hide (HSome.out M rfl)
            have hlM := hlen2 M rfl
            obtain ⟨mad, mc, hmf⟩ := hM2.form
            rw [toF_len] at hmf
            subst hmf
            have HM2 : Hid (KidT w2 (fun g => (P' g ∧ g < w.heap.size) ∨ (wr.heap.size ≤ g ∧ g < w2.heap.size)) (toF M) (.slice mad M.length mc)) := hide (hM2.weak (fun g h1 h2 => h1.elim (fun h => .inl ⟨h, (HPP.out g h).2⟩) (fun h => .inr ⟨by have h' : (wr.alloc (.cells #[.int .i64 y.k, .int .i64 y.n, .slice yad kn yc] 63)).heap.size ≤ g := h; simp at h'; omega, h2⟩)))
            have HTt := hide hT2
            have hownlt : ∀ q, (Value.slice oa Lo.length oc).ownBlock = some q → q < wr.heap.size := fun q hq => (HOr.out.own.lt q hq).2
            have HOwn := hide hownlt
            clear hM2 hT2 HNone HSome hlen2 hownlt hb2
            obtain ⟨ML, hML⟩ : ∃ ML, ML = M.length := ⟨_, rfl⟩
            obtain ⟨LN, hLN⟩ : ∃ LN, LN = Lo.length := ⟨_, rfl⟩
            rw [← hML] at HM2 hlM ⊢
            rw [← hLN] at HO2 hlM HOwn HOr ⊢
            have HML := hide hML
            have HLN := hide hLN
            clear hML hLN
            obtain ⟨WS, hWS⟩ : ∃ WS, WS = wr.heap.size := ⟨_, rfl⟩
            rw [← hWS] at HM2 HOwn hsa hszr
            clear hWS
            go_wp2_with fail
            go_loopw [4, 43] (fun v i w' => ∃ (A B : List (Cc × F)) (cs : List Value), M = A ++ B ∧ i = .int .i64 (A.length : Int) ∧ OT w' (w.heap.size + 1) P' v (Lo ++ A.map fun p => ((⟨xk, xn⟩ : Cc), d.app (.cons p.1 p.2 r))) cs ∧ Below (w.heap.size + 1) w2 w' ∧ (∀ g, g < w.heap.size + 1 ∨ WS ≤ g → g < w2.heap.size → w'.heap[g]? = w2.heap[g]?) ∧ (∀ g, v.ownBlock = some g → g < WS ∨ w2.heap.size ≤ g)) (fun _ i _ => ML - (intOf i).toNat)
            case atStart => exact ⟨[], M, cs, rfl, rfl, by rw [List.map_nil, List.append_nil]; exact HO2.out, Below.refl _ _, fun _ _ _ => rfl, fun g hg => .inl (HOwn.out g hg)⟩
            case round =>
              obtain ⟨A, B, cs2, hM, rfl, hot, hBe, hkp, hap⟩ := hrel
              have HOt := hide hot
              have HKp := hide hkp
              have HAp := hide hap
              obtain ⟨oa2, oc2, rfl⟩ := iOwn_form hot.own
              have hsr := hBe.size
              have hBr2 : Below w.heap.size w wr := hB2.trans (hBe.mono (by omega))
              have hTq := (HKp.out w.heap.size (.inl (by omega)) (by omega)).trans HTt.out
              clear hot hkp hap HO2
              cases B with
              | nil =>
                rw [List.append_nil] at hM
                subst hM
                have hML := HML.out
                rw [← hML]
                obtain ⟨ON, hON⟩ : ∃ ON, ON = (Lo ++ M.map fun p => ((⟨xk, xn⟩ : Cc), d.app (.cons p.1 p.2 r))).length := ⟨_, rfl⟩
                rw [← hON] at HOt ⊢
                clear hML hON
                have HTq := hide hTq
                clear hTq
                go_wp2_with fail
                exact ⟨⟨d.app (.cons y ky .nil), r, _, _, cs2, HSn.out, by rw [HDl.out]; go_num, HNext.out, HSo.out, HOt.out, by omega, HTq.out, hBr2⟩, by simp [intOf]; omega⟩
              | cons p B =>
                have hMl : ML = A.length + (B.length + 1) := by rw [HML.out, hM]; simp
                have hlt2 : (A.length : Int) < (ML : Int) := by omega
                have hA0 : (0 : Int) ≤ (A.length : Int) := by omega
                have hMr : KidT wr (fun g => (P' g ∧ g < w.heap.size) ∨ (WS ≤ g ∧ g < w2.heap.size)) ((toF A).app (.cons p.1 p.2 (toF B))) (.slice mad ML mc) := by
                  have h := HM2.out.keep (w' := wr) (P' := fun g => (P' g ∧ g < w.heap.size) ∨ (WS ≤ g ∧ g < w2.heap.size)) hsr (fun g h1 h2 => ⟨HKp.out g (h1.imp (fun h => by omega) (fun h => h.1)) h2, h1⟩)
                  rw [hM, toF_app] at h
                  exact h
                obtain ⟨gm, cpm, sz, hem, hPm, hgm, hTz, p0, p1, p2⟩ := KidT.kid hMr
                simp only [Value.slice.injEq] at hem
                obtain ⟨rfl, -, rfl⟩ := hem
                rw [toF_len] at p0 p1 p2
                obtain ⟨zad, zc, rfl⟩ := hTz.form
                have T0 : ∀ o : Obj, (wr.alloc o).cell? ⟨w.heap.size, 0, none⟩ = some (.int .i64 xk) := fun o => (cell_of_blk ((heap_alloc_old _ _ (by omega)).trans hTq) 0).trans rfl
                have T1 : ∀ o : Obj, (wr.alloc o).cell? ⟨w.heap.size, 1, none⟩ = some (.int .i64 xn) := fun o => (cell_of_blk ((heap_alloc_old _ _ (by omega)).trans hTq) 1).trans rfl
                have T2 : ∀ o : Obj, (wr.alloc o).cell? ⟨w.heap.size, 2, none⟩ = some (.slice (some ⟨g, 0, none⟩) KL sc) := fun o => (cell_of_blk ((heap_alloc_old _ _ (by omega)).trans hTq) 2).trans rfl
                have HWW := hide (fun o : Obj => HWi.out p.1 p.2 (.slice zad p.2.len zc) _ (wr.alloc o) (hBr2.alloc hBr2.size o) (hTz.below ((Below.refl _ _).alloc (Nat.le_refl _) o)))
                have HMs : Hid (M = (A ++ [p]) ++ B) := hide (by rw [hM]; simp)
                obtain ⟨AN, hAN⟩ : ∃ AN, AN = A.length := ⟨_, rfl⟩
                obtain ⟨PN, hPN⟩ : ∃ PN, PN = p.2.len := ⟨_, rfl⟩
                obtain ⟨ON, hON⟩ : ∃ ON, ON = (Lo ++ A.map fun p => ((⟨xk, xn⟩ : Cc), d.app (.cons p.1 p.2 r))).length := ⟨_, rfl⟩
                have hON6 : ON ≤ 600 := by rw [hON, List.length_append, List.length_map, ← HLN.out]; omega
                rw [← hAN] at hlt2 hA0 hMl p0 p1 p2 ⊢
                rw [← hPN] at HWW p2
                have HON := hide hON
                rw [← hON] at HOt HAp ⊢
                have HAN := hide hAN
                have hAN6 : AN ≤ 600 := by omega
                clear hM hMr hTz hAN hPN hON hTq HWi HM2
                go_wp2_with fail
                refine Calls.mono (HWW.out _) ?_
                rintro e w4 ⟨s4, rfl, hK4, hb4⟩
                have hs4 : wr.heap.size + 1 ≤ w4.heap.size := by have := hb4.size; simpa using this
                have hb4' : Below wr.heap.size wr w4 := ((Below.refl _ wr).alloc (Nat.le_refl _) _).trans (hb4.mono (by simp))
                have HOt4 := hide (HOt.out.below hb4')
                have HK4 := hide hK4
                obtain ⟨qad, qc, rfl⟩ := hK4.form
                obtain ⟨QN, hQN⟩ : ∃ QN, QN = (d.app (.cons p.1 p.2 r)).len := ⟨_, rfl⟩
                rw [← hQN] at HK4 ⊢
                clear hK4 hQN HWW T0 T1 T2 p0 p1 p2
                go_wp2_with (at_builtin; refine wpList_append_sep rfl _ _ 61 rfl (w.heap.size + 1) 63 i0 (.agg #[.int .i64 0, .int .i64 0, .slice none 0 0]) 3 40 Try.underlying61 Hi.out hz0 hz1 hz2 rfl (by decide) _ _ _ rfl ((show w4.ownsRow (w.heap.size + 1) 63 3 (.slice oa2 ON oc2) ON cs2 from by rw [HON.out] at HOt4 ⊢; exact HOt4.out.own).alloc _) ⟨w4.heap.size, 0, none⟩ 1 1 (tC ⟨xk, xn⟩ (.slice qad QN qc)) rfl rfl ?c1 ?c2 ?c3 ?c4 ?c5 ?_)
                case c1 => exact tC_cells (heap_alloc_new _ _)
                case c2 => exact tC_one _ _ rfl
                case c3 => unfold maxLen; omega
                case c4 => omega
                case c5 => simp; omega
                intro v' w6 hown6 hgr6 hap6
                have hom := HOt.out.more (p := ((⟨xk, xn⟩ : Cc), d.app (.cons p.1 p.2 r))) (by omega) hb4' HK4.out (fun g1 h1 h2 => ?hR) (by rw [← HON.out]; exact hown6) hgr6 hap6
                case hR =>
                  have hfar : ∀ g1, WS ≤ g1 → g1 < w2.heap.size ∨ wr.heap.size ≤ g1 → (Value.slice oa2 ON oc2).ownBlock ≠ some g1 := fun g1 ha hb' e => by
                    have := (HOt.out.own.lt g1 e).2
                    rcases HAp.out g1 e with h | h <;> omega
                  rcases h1 with (h1 | h1 | h1) | h1
                  · exact .inl ⟨h1, by have := (HPP.out g1 h1).2; omega⟩
                  · exact .inl ⟨h1.1, by omega⟩
                  · exact .inr ⟨by omega, hfar g1 h1.1 (.inl h1.2)⟩
                  · have h1' : wr.heap.size + 1 ≤ g1 := by simpa using h1
                    exact .inr ⟨by omega, hfar g1 (by omega) (.inr (by omega))⟩
                obtain ⟨ho6, hb6, hk6⟩ := hom
                obtain ⟨va, vc, rfl⟩ := iOwn_form hown6
                have HO6 := hide ho6
                have HK6 := hide hk6
                have HA6 := hide hap6
                clear ho6 hk6 hap6 hown6 hgr6
                go_wp2_with fail
                have hA := HAN.out
                refine ⟨⟨_, _, _, ⟨A ++ [p], ⟨B, HMs.out⟩, by rw [List.length_append, List.length_singleton, ← hA]; go_num, ⟨cs2 ++ tC (⟨xk, xn⟩ : Cc) (.slice qad QN qc), ?_⟩, hBe.trans hb6, fun g1 h1 h2 => ?_, fun g1 h1 => ?_⟩, rfl, rfl, rfl⟩, by simp [intOf]; omega⟩
                · rw [List.map_append, ← List.append_assoc]; exact HO6.out
                · rw [HK6.out g1 (by omega) (fun e => ?_), hb4'.block g1 (by omega)]
                  · exact HKp.out g1 h1 h2
                  · have hb0 := (HOt.out.own.lt g1 e).1
                    rcases HAp.out g1 e with h | h
                    · rcases h1 with h1 | h1 <;> omega
                    · omega
                · rcases HA6.out g1 h1 with h | h
                  · exact HAp.out g1 h
                  · simp at h; right; omega
end Go.Proofs.Ytbimfnnbfbfdoaa.W

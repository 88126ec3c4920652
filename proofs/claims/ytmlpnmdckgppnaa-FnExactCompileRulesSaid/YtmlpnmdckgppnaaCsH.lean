/-
  All nodes of some rules: spec.l8Compile. Conditions: good data, askings of at most 1000 cells in all, at most 200 nodes ahead.
-/
import Derived.Test.YtmlpnmdckgppnaaCsG
namespace Go.Proofs.Ytmlpnmdckgppnaa.W
open Go.ChangeShapes Go.WideShapes Go.ChangeAt Go.RowKit
set_option linter.unusedVariables false
set_option linter.unusedSimpArgs false

set_option maxRecDepth 20000 in
set_option maxHeartbeats 8000000 in
theorem l8Compile_any (vd : Value) (D : List Int) (hd : goodD D = true) : ∀ (n base : Nat) (O : Nat → Prop) (v : Value) (xs : List Value) (ns : List Nd) (vl : Value) (l : List Aq) (w : World), St O w (DRow · vd D) → NVx base O w v xs ns → base ≤ w.heap.size → SqR O w vl l → SdOk D n l → ns.length ≤ 200 → tot ns ≤ ns.length →
    Calls Try.prog 21 #[vd, vl, v] w fun e w' => ∃ v' b O' xs', e = .returned (.tuple #[v', .bool b]) ∧ LcP base O' w' v' b xs' (cmpS D.length n l ns) ∧ Off O w w' ∧ (∀ i, O' i → O i ∨ w.heap.size ≤ i) := by
  intro n
  induction n with
  | zero => intro base O v xs ns vl l w hD hN hb hl hs hns hto; exact absurd hs.sz (Nat.not_lt_zero _)
  | succ n ih =>
  intro base O v xs ns vl l w hD hN hb hl hs hns hto
  obtain ⟨i1, hi1, hy0, hy1, hy2⟩ := infoPartsT infoIntC
  obtain ⟨i2, hi2, hx0, hx1, hx2⟩ := infoPartsT infoQ
  have Hj := hide hi1
  have Hq := hide hi2
  have hD0 := hD.here
  obtain ⟨da, dc, rfl, hDr, hDl⟩ := id hD0
  obtain ⟨va, vc, rfl⟩ := own_form hN.own
  obtain ⟨la, lc, rfl, hlc⟩ := hl.form
  have HD := hide hD
  have HS := hide hs
  have HL := hide hl
  have HN := hide hN
  have HOl := hide hN.ge
  have Hto := hide hto
  have Hih := hide ih
  have hB0 : Below w.heap.size w (w.alloc (.cells #[.slice da D.length dc] 31)) := (Below.refl _ _).alloc (Nat.le_refl _) _
  have HX0 := hide (Bx.new w #[.slice da D.length dc] 31)
  obtain ⟨R, hR⟩ : ∃ R, R = cmpS D.length (n + 1) l ns := ⟨_, rfl⟩
  have HR := hide hR
  rw [← hR]
  obtain ⟨at0, hat⟩ : ∃ a, a = ns.length := ⟨_, rfl⟩
  have Hat := hide hat
  rw [← hat] at HN hns ⊢
  obtain ⟨nl, hnl⟩ : ∃ m, m = l.length := ⟨_, rfl⟩
  have Hnl := hide hnl
  have hnlb : nl ≤ 1000 := by rw [hnl]; exact hs.len
  rw [← hnl] at HL hlc ⊢
  obtain ⟨nD, hnD⟩ : ∃ m, m = D.length := ⟨_, rfl⟩
  have HnD := hide hnD
  rw [← hnD] at HX0 hB0 hDl HD HR Hih ⊢
  clear hto hD hD0 hDr hs hl hN ih hi1 hi2 hR hnl hat hnD
  go_enter Try.func21, Try.ntmps21
  go_upto_region 1 with fail
  obtain ⟨W1, hW1⟩ : ∃ W1, W1 = w.alloc (.cells #[.slice da nD dc] 31) := ⟨_, rfl⟩
  have hs1 : w.heap.size < W1.heap.size := by rw [hW1]; simp
  rw [← hW1] at hB0 HX0 ⊢
  obtain ⟨B3, hB3⟩ : ∃ B3, B3 = w.heap.size := ⟨_, rfl⟩
  have HB3 := hide hB3
  rw [← hB3] at HX0 ⊢
  clear hW1 hB3
  have HB0 := hide hB0
  have HD1 := hide (HD.out.later (Off.of_below hB0) (fun i hi => .inl hi))
  have HN1 := hide (HN.out.below hB0)
  by_cases h200 : at0 = 200
  · have h200' : (at0 : Int) = 200 := by omega
    have HRe := hide (HR.out.trans (cmpS_full (by have := Hat.out; omega)))
    have HOf := hide (Off.of_below (O := O) hB0)
    clear h200 hB0
    go_wp2_with fail
    refine bodyPost_ret (v := .tuple #[.slice none 0 0, .bool false]) (by simp [results, Try.results21, go_sem]) rfl ⟨_, false, O, [], rfl, by rw [HRe.out]; exact ⟨rfl, rfl⟩, HOf.out, fun i hi => .inl hi⟩
  have h200' : ¬ (at0 : Int) = 200 := by omega
  have hne : ¬ ns.length = 200 := by have := Hat.out; omega
  have Hne := hide hne
  clear h200 hne
  cases l with
  | nil =>
    have hn0 : nl = 0 := Hnl.out
    subst hn0
    have HRe := hide (HR.out.trans (cmpS_nil Hne.out))
    clear HL HR hB0
    go_wp2_with (at_builtin; refine wpList_append_node rfl _ _ rfl at0 Hat.out rfl HN1.out (by omega) rfl (fun w' _ => owi_nil base w') (fun g h => by cases h) (fun i b g _ _ _ h => by cases h) hns ?_)
    intro ad c xs' O' w4 hN4 hof hO
    have HN4 := hide hN4
    have Hof := hide ((Off.of_below (O := O) HB0.out).trans hof (fun i hi => .inl hi))
    have HO' : Hid (∀ i, O' i → O i ∨ w.heap.size ≤ i) := hide (fun i hi => by
      rcases hO i hi with h | h
      · exact .inl h
      · exact .inr (by omega))
    clear hN4 hof hO
    go_wp2_with fail
    refine bodyPost_ret (v := .tuple #[.slice ad (at0 + 1) c, .bool true]) (by simp [results, Try.results21, go_sem]) rfl ⟨_, true, O', xs', rfl, by rw [HRe.out]; exact ⟨rfl, HN4.out⟩, Hof.out, HO'.out⟩
  | cons r l =>
    obtain ⟨rl, rq⟩ := r
    have hn0 : ¬ (nl : Int) = 0 := by have := Hnl.out; simp at this; omega
    have hn1 : (0 : Int) < (nl : Int) := by omega
    have HL1 := hide (HL.out.below hB0)
    obtain ⟨b, ob, pv, tv, rfl, hbl, c0, c1, c2, hS⟩ := HL1.out.at Hnl.out (j := 0) (by simp)
    simp only [Nat.zero_mul, Nat.add_zero, List.getElem_cons_zero] at c0 c1 c2 hS
    obtain ⟨pp, tt, xs0, ys0, e, h1, h2, h3, h4, h5, h6⟩ := id hS
    simp only [Value.agg.injEq, Array.mk.injEq, List.cons.injEq, and_true, true_and] at e
    obtain ⟨rfl, rfl⟩ := e
    obtain ⟨pa, pc, rfl, hpc⟩ := h1.form
    cases rq with
    | nil =>
      have HRe := hide (HR.out.trans (cmpS_done Hne.out))
      clear HL HR hB0 h1 h2 h3 h4 h5 h6 hS HL1 hbl c2
      go_wp2_with (at_builtin; refine wpList_append_node rfl _ _ rfl at0 Hat.out rfl HN1.out (by omega) rfl (fun w' _ => owi_nil base w') (fun g h => by cases h) (fun i b g _ _ _ h => by cases h) hns ?_)
      intro ad c xs' O' w4 hN4 hof hO
      have HN4 := hide hN4
      have Hof := hide ((Off.of_below (O := O) HB0.out).trans hof (fun i hi => .inl hi))
      have HO' : Hid (∀ i, O' i → O i ∨ w.heap.size ≤ i) := hide (fun i hi => by
        rcases hO i hi with h | h
        · exact .inl h
        · exact .inr (by omega))
      clear hN4 hof hO
      go_wp2_with fail
      refine bodyPost_ret (v := .tuple #[.slice ad (at0 + 1) c, .bool true]) (by simp [results, Try.results21, go_sem]) rfl ⟨_, true, O', xs', rfl, by rw [HRe.out]; exact ⟨rfl, HN4.out⟩, Hof.out, HO'.out⟩
    | cons a q =>
      have HRe := hide (HR.out.trans (cmpS_more Hne.out))
      have HLW := HL1
      have HSd : Hid (∀ c : Nat, SdOk D n (ansAllS a.p (c : Int) (⟨rl, a :: q⟩ :: l))) := hide (fun c => sdOk_side HS.out rfl c)
      obtain ⟨p0, ep, stp⟩ := h2.2 0 (by simp)
      replace stp : St O W1 (fun w' => IV w' p0 a.p ∧ CapOk p0) := stp
      obtain ⟨b1, o1, e1, -, cp⟩ := h1.at ep
      try simp only [Nat.add_zero] at cp
      subst e1
      obtain ⟨⟨pa0, pc0, rfl, hr0, hl0⟩, hcap⟩ := id stp.here
      obtain ⟨p, hp⟩ : ∃ p, p = a.p := ⟨_, rfl⟩
      have hSc0 := iv_scx (w := W1.alloc (.cells #[] 3)) (va := pa0) (np := a.p.length) (vc := pc0) (p := a.p) ⟨pa0, pc0, rfl, RRow.below hr0 ((Below.refl _ _).alloc (Nat.le_refl _) _), hl0⟩ hcap
      have HP := hide stp
      rw [← hp] at HP HSd HRe hl0 hSc0 cp
      obtain ⟨np, hnp⟩ : ∃ np, np = p.length := ⟨_, rfl⟩
      have Hnp := hide hnp
      rw [← hnp] at HP hl0 hSc0 cp
      have HSc := hide hSc0
      obtain ⟨nq, hnq⟩ : ∃ nq, nq = (a :: q).length := ⟨_, rfl⟩
      have hnq0 : 0 < nq := by rw [hnq]; simp
      rw [← hnq] at c1
      have hq0 : ¬ (nq : Int) = 0 := by omega
      have hq1 : (0 : Int) < (nq : Int) := by omega
      obtain ⟨L, hLe⟩ : ∃ L, L = (⟨rl, a :: q⟩ :: l : List Aq) := ⟨_, rfl⟩
      rw [← hLe] at HRe HSd HLW Hnl HS
      clear HR hB0 h1 h2 h3 h4 h5 h6 hS HL1 HL hbl c2 ep stp hr0 hcap hp hSc0 hnp hnq hLe hpc
      go_upto_region 9 with fail
      have HOw : Hid ((W1.alloc (.cells #[] 3)).ownsRow W1.heap.size 3 1 (.slice (some ⟨W1.heap.size, 0, none⟩) 0 0) 0 []) := hide ⟨rfl, .inr ⟨W1.heap.size, 0, #[], rfl, Nat.le_refl _, Bx.new W1 #[] _, Nat.le_refl _, by omega, rfl, rfl⟩⟩
      have hb12 : Below W1.heap.size W1 (W1.alloc (.cells #[] 3)) := (Below.refl _ _).alloc (Nat.le_refl _) _
      have Hb12 := hide hb12
      clear hb12
      go_wp2_with (at_builtin; refine wpList_append_scx rfl _ _ 22 rfl W1.heap.size 3 i1 (.int .i64 0) 1 8 Try.underlying22 Hj.out hy0 hy1 hy2 rfl (by decide) _ 0 [] rfl HOw.out _ np (nC p) rfl HSc.out (by unfold maxLen; omega) (by omega) Hb12.out.size ?_)
      intro v5 w5 hown5 hgrow5 hap5
      try simp only [Nat.zero_add, List.nil_append] at hown5
      obtain ⟨a5, c5, e5⟩ := own_form hown5
      subst e5
      have hb15 : Below W1.heap.size W1 w5 := Hb12.out.trans ((Below.refl _ _).grown hgrow5 Hb12.out.size (fun k h => (HOw.out.lt k h).1))
      have hpoO : ∀ g, (Value.slice a5 np c5).ownBlock = some g → ¬ O g := fun k hk hO => by
        have h1 := own_ge hown5 k hk
        have h2 := (HOl.out k hO).2
        omega
      have hpo5 : OwI base (.slice a5 np c5) p w5 := by
        have h1 := own_down hown5 (base' := base) (by omega)
        rw [nC_rc, Hnp.out] at h1
        rw [Hnp.out]
        exact h1
      have hst5 : St O w5 (OwI base (.slice a5 np c5) p) := own_stO hpo5 hpoO
      have hpnn : ∀ (i : Nat) (b : Value) (g : Nat), i < ns.length → xs[i * 3 + 1]? = some b → b.ownBlock = some g → (Value.slice a5 np c5).ownBlock = some g → False := fun i b g hi e1 e2 e3 => by
        have h1 := own_ge hown5 g e3
        have h2 := ((HN1.out.pathOwn hi e1).lt g e2).2
        omega
      have HpoO := hide hpoO
      have Hpnn := hide hpnn
      have HN5 := hide (HN1.out.below hb15)
      have Hst5 := hide hst5
      have HB5 := hide hb15
      have HX5 := hide (HX0.out.below hb15 HX0.out.lt)
      clear hown5 hgrow5 hap5 hb15 hst5 hpoO hpo5 hpnn HOw HSc Hb12 HX0
      have hs5 := HB5.out.size
      go_wp2_with (at_builtin; refine wpList_append_node rfl _ _ rfl at0 Hat.out rfl HN5.out (by omega) rfl Hst5.out HpoO.out Hpnn.out hns ?_)
      intro ad c xs' O' w6 hN6 hof6 hO6
      have hof : Off O W1 w6 := (Off.of_below (O := O) HB5.out).trans hof6 (fun i hi => .inl hi)
      have hO' : ∀ i, O' i → O i ∨ W1.heap.size ≤ i := fun i hi => by
        rcases hO6 i hi with h | h
        · exact .inl h
        · exact .inr (by omega)
      have hnb5 : ¬ O B3 := fun h => by have := (HOl.out _ h).2; have := HB3.out; omega
      have hx5l := HX5.out.lt
      have hnb : ¬ O' B3 := fun h => by
        rcases hO6 B3 h with h1 | h1
        · exact hnb5 h1
        · omega
      have HI : Hid (SpI base O W1 B3 (.slice da nD dc) at0 (cmpS nD n) R p L nD 0 O' (.slice ad (at0 + 1) c) xs' (ns ++ [⟨-2, p, []⟩]) w6) :=
        hide ⟨hN6, by rw [Nat.sub_zero, Hat.out]; exact HRe.out.symm, hof, hO', hnb, (hof6.block B3 hx5l hnb5).trans HX5.out, by have := Hat.out; simp; omega, by have := Hat.out; simp; omega, by have := Hto.out; rw [tot_app]; simp [tot] at this ⊢; omega⟩
      clear hN6 hof6 hO6 hof hO' hnb hnb5 hx5l HX5 HB5 HN5 Hst5 HN1 HN hs5
      clear cp c0 c1 hq0 hq1 hnq0
      have cx := HI.out.bx.c 0
      go_wp2_with fail
      clear cx
      go_loopw [2, 60] (fun v1 i w' => ∃ (j : Nat) (O1 : Nat → Prop) (xs1 : List Value) (ns1 : List Nd), j ≤ nD ∧ i = .int .i64 j ∧ SpI base O W1 B3 (.slice da nD dc) at0 (cmpS nD n) R p L nD j O1 v1 xs1 ns1 w') (fun _ i _ => nD - (intOf i).toNat)
      case atStart => exact ⟨0, _, _, _, by omega, rfl, HI.out⟩
      case round =>
        clear HI
        obtain ⟨j, O1, xs1, ns1, hj, rfl, hI⟩ := hrel
        obtain ⟨gv, cv, rfl⟩ := hI.nv.form (by have := hI.lt; omega)
        have HI := hide hI
        obtain ⟨n1, hn1⟩ : ∃ n1, n1 = ns1.length := ⟨_, rfl⟩
        have Hn1 := hide hn1
        have hn1l := hI.lt
        have hn1e := hI.le
        have cx := hI.bx.c 0
        rw [← hn1] at HI hn1l hn1e ⊢
        clear hI hn1
        by_cases hlt : j < nD
        · have hlt' : (j : Int) < (nD : Int) := by omega
          have hbw := HI.out.off.size
          have HLV := hide (HLW.out.later HI.out.off HI.out.oo)
          have HPV := hide (HP.out.later HI.out.off HI.out.oo)
          rename World => V
          have HLt : Hid (∀ (u : Value) (W : World), (∀ k, u.ownBlock = some k → V.heap.size ≤ k) → Below V.heap.size V W → SqR (ObO O1 u) W (.slice (some ⟨b, ob, none⟩) nl lc) L) := hide (fun u W hu hb => HLV.out.later (Off.of_below hb) (fun k hk => by
            rcases hk with hk | hk
            · exact .inl hk
            · exact .inr (hu k hk)))
          have HPt : Hid (∀ (u : Value) (W : World), (∀ k, u.ownBlock = some k → V.heap.size ≤ k) → Below V.heap.size V W → St (ObO O1 u) W (fun w' => IV w' (.slice pa0 np pc0) p ∧ CapOk (.slice pa0 np pc0))) := hide (fun u W hu hb => HPV.out.later (Off.of_below hb) (fun k hk => by
            rcases hk with hk | hk
            · exact .inl hk
            · exact .inr (hu k hk)))
          have HO1 : Hid (∀ g, O1 g → g < V.heap.size) := hide (fun g hg => (HI.out.nv.ge g hg).2)
          go_wp2_with fail
          go_loopw [11, 65] (fun v11 i w' => ∃ (k : Nat) (ys : List Value), k ≤ nl ∧ i = .int .i64 k ∧ w'.ownsRow V.heap.size 53 3 v11 (ansAllS p (j : Int) (L.take k)).length ys ∧ SqC (ObO O1 v11) w' ys (ansAllS p (j : Int) (L.take k)) ∧ Below V.heap.size V w') (fun _ i _ => nl - (intOf i).toNat)
          case atStart => exact ⟨0, [], by omega, rfl, World.ownsRow_nil _ _ _ _, SqC.nil _ _, Below.refl _ _⟩
          case round =>
            clear cx
            obtain ⟨k, ys, hk, rfl, hO, hV, hB⟩ := hrel
            have Hge := hide (own_ge hO)
            have Hlt := hide hO.lt
            have HOw := hide hO
            have HV := hide hV
            have HB := hide hB
            obtain ⟨a9, c9, e9⟩ := own_form hO
            obtain ⟨n9, hn9⟩ : ∃ n9, n9 = (ansAllS p (j : Int) (L.take k)).length := ⟨_, rfl⟩
            have hn9l : n9 ≤ 1000 := by rw [hn9]; have := ansAllS_few p (j : Int) (L.take k); rw [List.length_take] at this; omega
            rw [← hn9] at e9 HOw
            subst e9
            have Hn9 := hide hn9
            clear hO hV hB hn9
            by_cases hlk : k < nl
            · have hlk' : (k : Int) < (nl : Int) := by omega
              have hk0 : (0 : Int) ≤ (k : Int) := by omega
              have hkl : k < L.length := by rw [← Hnl.out]; exact hlk
              obtain ⟨b', o', pvk, tvk, e, hbl, p0, p1, p2, hSk⟩ := (HLt.out (.slice a9 n9 c9) wr Hge.out HB.out).at Hnl.out hkl
              simp only [Option.some.injEq, Addr.mk.injEq, and_true] at e
              obtain ⟨rfl, rfl⟩ := e
              have HTk := hide (ansAllS_take (p := p) (c := (j : Int)) hkl)
              have hqm := HS.out.ok L[k] (List.getElem_mem hkl)
              have hql := (HS.out.lok L[k] (List.getElem_mem hkl)).2
              have hqz := lsz_mem (List.getElem_mem hkl)
              obtain ⟨⟨rk, qk⟩, hr⟩ : ∃ r : Aq, r = L[k] := ⟨_, rfl⟩
              rw [← hr] at p0 hSk HTk hqm hql hqz
              dsimp only at p0 hSk HTk hqm hql hqz
              obtain ⟨a1, d1, a2, d2, e⟩ := hSk.form
              simp only [Value.agg.injEq, Array.mk.injEq, List.cons.injEq, and_true, true_and] at e
              obtain ⟨rfl, rfl⟩ := e
              have HSk := hide hSk
              have Hqm := hide hqm
              have Hql := hide hql
              have hq1000 : qsz qk ≤ 1000 := by have := HS.out.few; omega
              obtain ⟨mq, hmq⟩ : ∃ m, m = qk.length := ⟨_, rfl⟩
              rw [← hmq] at p1 p2 HSk
              clear hSk hr hqm hql hqz hmq hbl
              go_upto_region 17 with fail
              clear p0 p1 p2
              have hbA : Below wr.heap.size wr (wr.alloc (.cells #[.int .i64 rk, .slice a1 mq d1, .slice a2 mq d2] 53)) := (Below.refl _ _).alloc (Nat.le_refl _) _
              have HXB := hide (Bx.new wr #[.int .i64 rk, .slice a1 mq d1, .slice a2 mq d2] 53)
              obtain ⟨W5, hW5⟩ : ∃ W5, W5 = wr.alloc (.cells #[.int .i64 rk, .slice a1 mq d1, .slice a2 mq d2] 53) := ⟨_, rfl⟩
              rw [← hW5] at hbA HXB ⊢
              obtain ⟨B8, hB8⟩ : ∃ B8, B8 = wr.heap.size := ⟨_, rfl⟩
              rw [← hB8] at HXB ⊢
              clear hW5 hB8
              have hB5 : Below V.heap.size V W5 := HB.out.trans (hbA.mono HB.out.size)
              have hs5 := hB5.size
              have hsA := hbA.size
              have HC := hide (l8Answer_any (ObO O1 (.slice a9 n9 c9)) (.agg #[.int .i64 rk, .slice a1 mq d1, .slice a2 mq d2]) ⟨rk, qk⟩ (.slice pa0 np pc0) p (j : Int) D W5 (fun g hg => by
                rcases hg with hg | hg
                · have := HO1.out g hg; omega
                · have := (Hlt.out g hg).2; omega) (HSk.out.below hbA) (HPt.out _ _ Hge.out hB5) Hql.out Hqm.out hq1000)
              dsimp only at HC
              obtain ⟨R2, hR2⟩ : ∃ R2, R2 = ansS p (j : Int) qk := ⟨_, rfl⟩
              rw [← hR2] at HC HTk
              have cx := HXB.out.c 0
              have cy := HXB.out.c 1
              have cz := HXB.out.c 2
              have HbA := hide hbA
              clear hR2 hs5 hsA hbA hB5
              go_wp2_with fail
              refine Calls.mono HC.out ?_
              clear HC cx cy cz HXB
              rintro e w6 ⟨v', bb, rfl, hP, hb6⟩
              have HbB := hide (HbA.out.trans (hb6.mono HbA.out.size))
              clear hb6
              cases R2 with
              | none =>
                obtain ⟨rfl, rfl⟩ : bb = false ∧ v' = .agg #[.int .i64 0, .slice none 0 0, .slice none 0 0] := hP
                have HTn : Hid (ansAllS p (j : Int) (L.take (k + 1)) = ansAllS p (j : Int) (L.take k)) := hide (by have := HTk.out; simpa using this)
                clear HTk
                go_upto_region 18 with fail
                obtain ⟨W8, hW8⟩ : ∃ W8, W8 = w6.alloc (.cells #[.int .i64 0, .slice none 0 0, .slice none 0 0] 53) := ⟨_, rfl⟩
                have hb8 : Below wr.heap.size wr W8 := by rw [hW8]; exact HbB.out.alloc HbB.out.size _
                rw [← hW8]
                clear hW8
                have HO8 := hide (own_keep HOw.out (w' := W8) (fun k _ hk => hb8.block k hk))
                have HV8 := hide (HV.out.later (Off.of_below hb8) (fun i hi => .inl hi))
                have HB8 := hide (HB.out.trans (hb8.mono HB.out.size))
                clear hb8
                go_wp2_with fail
                exact ⟨⟨k + 1, ys, by omega, by go_num, by rw [HTn.out, ← Hn9.out]; exact HO8.out, by rw [HTn.out]; exact HV8.out, HB8.out⟩, by simp [intOf]; omega⟩
              | some q' =>
                obtain ⟨rfl, hS'⟩ : bb = true ∧ SqS (ObO O1 (.slice a9 n9 c9)) w6 v' ⟨rk, q'⟩ := hP
                have HTn : Hid (ansAllS p (j : Int) (L.take (k + 1)) = ansAllS p (j : Int) (L.take k) ++ [⟨rk, q'⟩]) := hide (by have := HTk.out; simpa using this)
                obtain ⟨a3, d3, a4, d4, e⟩ := hS'.form
                subst e
                dsimp only at hS' ⊢
                have HS' := hide hS'
                obtain ⟨m', hm'⟩ : ∃ m', m' = q'.length := ⟨_, rfl⟩
                rw [← hm'] at HS' ⊢
                clear hS' hm' HTk
                go_upto_region 18 with fail
                obtain ⟨W8, hW8⟩ : ∃ W8, W8 = w6.alloc (.cells #[.int .i64 rk, .slice a3 m' d3, .slice a4 m' d4] 53) := ⟨_, rfl⟩
                have hb68 : Below w6.heap.size w6 W8 := by rw [hW8]; exact (Below.refl _ _).alloc (Nat.le_refl _) _
                have hb8 : Below wr.heap.size wr W8 := by rw [hW8]; exact HbB.out.alloc HbB.out.size _
                have HX8 : Hid (Bx W8 w6.heap.size #[.int .i64 rk, .slice a3 m' d3, .slice a4 m' d4] 53) := hide (by rw [hW8]; exact Bx.new _ _ _)
                rw [← hW8]
                clear hW8
                have cx := HX8.out.c 0
                have cy := HX8.out.c 1
                have cz := HX8.out.c 2
                have HO8 := hide (own_keep HOw.out (w' := W8) (fun k _ hk => hb8.block k hk))
                have HV8 := hide (HV.out.later (Off.of_below hb8) (fun i hi => .inl hi))
                have HB8 := hide (HB.out.trans (hb8.mono HB.out.size))
                have HS8 := hide (HS'.out.below hb68)
                have hs8 := HB8.out.size
                clear hb8 hb68 HX8
                go_wp2_with (at_builtin; refine wpList_append_sep rfl _ _ 48 rfl V.heap.size 53 i2 (.agg #[.int .i64 0, .slice none 0 0, .slice none 0 0]) 3 56 Try.underlying48 Hq.out hx0 hx1 hx2 rfl (by decide) _ _ _ rfl (HO8.out.alloc _) ⟨W8.heap.size, 0, none⟩ 1 1 [.int .i64 rk, .slice a3 m' d3, .slice a4 m' d4] rfl rfl ?c1 ?c2 ?c3 ?c4 ?c5 ?_)
                case c1 => exact threeC_cells (heap_alloc_new W8 _)
                case c2 => intro u hu; simp only [List.mem_cons, List.not_mem_nil, or_false] at hu; rcases hu with rfl | rfl | rfl <;> rfl
                case c3 => unfold maxLen; omega
                case c4 => omega
                case c5 => simp; omega
                intro v10 w9 hown9 hgrow hap
                have hb66 : Below W8.heap.size W8 (W8.alloc (.cells #[.int .i64 rk, .slice a3 m' d3, .slice a4 m' d4] 53)) := (Below.refl _ _).alloc (Nat.le_refl _) _
                obtain ⟨W7, hW7⟩ : ∃ W7, W7 = W8.alloc (.cells #[.int .i64 rk, .slice a3 m' d3, .slice a4 m' d4] 53) := ⟨_, rfl⟩
                rw [← hW7] at hgrow hap hb66
                clear hW7
                have hs67 := hb66.size
                have hof : Off (ObO O1 (.slice a9 n9 c9)) W8 w9 := (Off.of_below hb66).trans (Off.of_grown hgrow (fun k h => .inr h)) (fun i hi => .inl hi)
                have hbg : Below V.heap.size W7 w9 := (Below.refl _ _).grown hgrow (by omega) (fun k h => (Hlt.out k h).1)
                have hb69 : Below V.heap.size W8 w9 := (hb66.mono (by omega)).trans hbg
                have HQ9 := hide ((HV8.out.snoc (r := ⟨rk, q'⟩) HS8.out).later hof (O' := ObO O1 v10) (fun i h => by
                  rcases h with h | h
                  · exact .inl (.inl h)
                  · rcases hap i h with h | h
                    · exact .inl (.inr h)
                    · exact .inr (by omega)))
                have HB9 := hide (HB8.out.trans hb69)
                have HO9 := hide hown9
                clear hof hbg hb69 hb66 hap hgrow hown9 cx cy cz
                obtain ⟨a10, c10, e10⟩ := own_form HO9.out
                subst e10
                go_wp2_with fail
                exact ⟨⟨k + 1, _, by omega, by go_num, by rw [HTn.out, List.length_append, ← Hn9.out]; exact HO9.out, by rw [HTn.out]; exact HQ9.out, HB9.out⟩, by simp [intOf]; omega⟩
            · have hkn : k = nl := by omega
              subst hkn
              have hlt0 := HO1.out
              have HTe : L.take k = L := by rw [Hnl.out, List.take_length]
              have HNx0 : SqR O1 wr (.slice a9 n9 c9) (ansAllS p (j : Int) L) := by
                have h1 := HOw.out
                have h2 := HV.out
                have h3 := Hn9.out
                rw [HTe] at h2 h3
                rw [h3] at h1
                rw [h3]
                exact ⟨ys, RowX.ofOwn h1 (fun g hg hc => by
                  have h4 := own_ge h1 g hg
                  have h5 := hlt0 g hc
                  omega), h2.later (Off.refl _ _) (fun i hi => .inl (.inl hi))⟩
              have HNx := hide HNx0
              have HI1 : SpI base O W1 B3 (.slice da nD dc) at0 (cmpS nD n) R p L nD j O1 (.slice (some ⟨gv, 0, none⟩) n1 cv) xs1 ns1 wr :=
                { nv := HI.out.nv.below HB.out
                  eq := HI.out.eq
                  off := HI.out.off.trans (Off.of_below HB.out) (fun i hi => .inl hi)
                  oo := HI.out.oo
                  nb := HI.out.nb
                  bx := HI.out.bx.below HB.out HI.out.bx.lt
                  lt := HI.out.lt
                  le := HI.out.le
                  tt := HI.out.tt }
              replace HI := hide HI1
              have HEq : Hid (sdS (cmpS nD n) at0 p L (nD - (j + 1) + 1) j ns1 = R) := hide (by rw [show nD - (j + 1) + 1 = nD - j by omega]; exact HI1.eq)
              have HSj := hide (HSd.out j)
              obtain ⟨sj, hsj⟩ : ∃ sj, sj = ansAllS p (j : Int) L := ⟨_, rfl⟩
              have Hsj := hide hsj
              rw [← hsj] at HSj HNx
              have hnv := HI.out.nv
              have ha1 : at0 < ns1.length := by have := Hn1.out; omega
              obtain ⟨pv, nv, x1, x2, x3, hst5, hno, hnO⟩ := hnv.el at0 ha1
              obtain ⟨na, nc, rfl⟩ := own_form hno
              have ho1 : wr.ownsRow base 65 3 (.slice (some ⟨gv, 0, none⟩) ns1.length cv) ns1.length xs1 := by have := hnv.own; rwa [Hn1.out] at this
              have hc2 : wr.cell? ⟨gv, at0 * 3 + 2, none⟩ = some (.slice na ns1[at0].next.length nc) := (ho1.cellAt _ (by omega)).trans x3
              have Hno := hide hno
              have Hx3 := hide x3
              have Ho1 := hide ho1
              obtain ⟨nn, hnn⟩ : ∃ nn, nn = ns1[at0].next.length := ⟨_, rfl⟩
              have Hnn := hide hnn
              rw [← hnn] at hc2 Hno Hx3
              have hati : (at0 : Int) < (n1 : Int) := by omega
              have hat0 : (0 : Int) ≤ (at0 : Int) := by omega
              clear hnv x1 x2 x3 hst5 hno hnO ho1 hnn hsj HTe HNx0 HI1 HOw HV Hge Hlt Hn9 HLt HPt HLV HPV hlt0
              go_upto_region 21 with fail
              have hnn : nn ≤ 201 := by
                have h1 := tot_mem (List.getElem_mem ha1)
                have h2 := HI.out.tt
                have h3 := HI.out.le
                have h4 := Hnn.out
                omega
              have hbw2 := HI.out.off.size
              have hbwr : base ≤ wr.heap.size := by omega
              go_wp2_with (at_builtin; refine wpList_append_sep rfl _ _ 22 rfl base 3 i1 (.int .i64 0) 1 8 Try.underlying22 Hj.out hy0 hy1 hy2 rfl (by decide) _ _ _ rfl (Hno.out.alloc _) ⟨wr.heap.size, 0, none⟩ 1 1 [.int .i64 (n1 : Int)] rfl rfl ?d1 ?d2 ?d3 ?d4 ?d5 ?_)
              case d1 => exact oneC_cells (heap_alloc_new wr _)
              case d2 => intro u hu; simp only [List.mem_cons, List.not_mem_nil, or_false] at hu; rcases hu with rfl; rfl
              case d3 => unfold maxLen; have := Hnn.out; omega
              case d4 => have := Hnn.out; omega
              case d5 => first | omega | (simp; omega)
              intro v5 w5 hown5 hgrow5 hap5
              obtain ⟨Wb, hWb⟩ : ∃ Wb, Wb = wr.alloc (.cells #[.int .i64 (n1 : Int)] 3) := ⟨_, rfl⟩
              have hbb : Below wr.heap.size wr Wb := by rw [hWb]; exact (Below.refl _ _).alloc (Nat.le_refl _) _
              rw [← hWb] at hgrow5 hap5
              have hsb := hbb.size
              have hNb := HI.out.nv.below hbb
              have hNb' : NVx base O1 Wb (.slice (some ⟨gv, 0, none⟩) ns1.length cv) xs1 ns1 := by rw [← Hn1.out]; exact hNb
              have hown5' : w5.ownsRow base 3 1 v5 (ns1[at0].next.length + 1) (rcells 1 iC (ns1[at0].next ++ [(ns1.length : Int)])) := by
                rw [rcells_app, ← Hn1.out, ← Hnn.out]; exact hown5
              obtain ⟨hNc, hoc⟩ := hNb'.nextAt ha1 Hx3.out hown5' hgrow5 hap5
              have hoA : w5.ownsRow base 65 3 (.slice (some ⟨gv, 0, none⟩) ns1.length cv) ns1.length xs1 := own_grown hNb'.own hgrow5 (fun k hk hv => own_apart Ho1.out Hno.out (by decide) hk hv)
              have hc5 : w5.cell? ⟨gv, at0 * 3 + 2, none⟩ = some (.slice na nn nc) := (hoA.cellAt _ (by omega)).trans Hx3.out
              have hf5 := hoA.frozenAt (at0 * 3 + 2)
              obtain ⟨a5, c5, e5⟩ := own_form hown5
              subst e5
              rw [← Hn1.out] at hNc
              have HNc := hide hNc
              have hOc : Off O1 wr (w5.setCell ⟨gv, at0 * 3 + 2, none⟩ (.slice a5 (nn + 1) c5)) := (Off.of_below hbb).trans hoc (fun i hi => .inl hi)
              have HOc := hide hOc
              have hO2 : ∀ i, ObO O1 (.slice a5 (nn + 1) c5) i → O1 i ∨ wr.heap.size ≤ i := fun i hi => by
                rcases hi with hi | hi
                · exact .inl hi
                · rcases hap5 i hi with h | h
                  · exact .inl ((HI.out.nv.el at0 ha1).elim fun _ ⟨_, _, _, y3, _, _, y6⟩ => by
                      rw [Hx3.out] at y3
                      simp only [Option.some.injEq] at y3
                      subst y3
                      exact y6 i h)
                  · exact .inr (by omega)
              have HO2 := hide hO2
              clear hWb hbb hNb hNb' hown5' hNc hoc hoA hgrow5 hap5 hown5 hOc hO2 hc2 hsb
              go_upto_region 22 with fail
              obtain ⟨Wc, hWc⟩ : ∃ Wc, Wc = w5.setCell ⟨gv, at0 * 3 + 2, none⟩ (.slice a5 (nn + 1) c5) := ⟨_, rfl⟩
              rw [← hWc] at HNc HOc ⊢
              clear hWc hc5 hf5
              have hofw : Off O W1 Wc := HI.out.off.trans HOc.out HI.out.oo
              have hbx : Bx Wc B3 #[.slice da nD dc] 31 := (HOc.out.block B3 HI.out.bx.lt HI.out.nb).trans HI.out.bx
              have cx := hbx.c 0
              have hsc' := hofw.size
              have hswr := HOc.out.size
              have hs2l : (setN at0 ns1).length = n1 := by rw [setN_length, Hn1.out]
              have hs2t : tot (setN at0 ns1) ≤ (setN at0 ns1).length := by
                have h1 := tot_setN at0 ns1
                have h2 := HI.out.tt
                rw [hs2l]; have := Hn1.out; omega
              have HC := hide (Hih.out base (ObO O1 (.slice a5 (nn + 1) c5)) (.slice (some ⟨gv, 0, none⟩) n1 cv) _ (setN at0 ns1) (.slice a9 n9 c9) sj Wc (HD1.out.later hofw (fun i hi => by
                rcases HO2.out i hi with h | h
                · exact HI.out.oo i h
                · exact .inr (by omega))) HNc.out (by omega) (HNx.out.later HOc.out HO2.out) HSj.out (by omega) hs2t)
              have Hs2l := hide hs2l
              clear hofw hbx hs2t HNc HNx hs2l
              go_wp2_with fail
              refine Calls.mono HC.out ?_
              clear HC cx
              rintro e w6 ⟨v3, bb, O3, xs3, rfl, hP3, hof3, hO3⟩
              have hofr : Off O1 wr w6 := HOc.out.trans hof3 HO2.out
              have hO31 : ∀ i, O3 i → O1 i ∨ wr.heap.size ≤ i := fun i hi => by
                rcases hO3 i hi with h | h
                · exact HO2.out i h
                · exact .inr (by omega)
              have hoW : Off O W1 w6 := HI.out.off.trans hofr HI.out.oo
              have hooW : ∀ i, O3 i → O i ∨ W1.heap.size ≤ i := fun i hi => by
                rcases hO31 i hi with h | h
                · exact HI.out.oo i h
                · exact .inr (by omega)
              have HoW := hide hoW
              have HooW := hide hooW
              obtain ⟨R3, hR3⟩ : ∃ R3, R3 = cmpS nD n sj (setN at0 ns1) := ⟨_, rfl⟩
              rw [← hR3] at hP3
              cases R3 with
              | none =>
                obtain ⟨rfl, rfl⟩ : bb = false ∧ v3 = .slice none 0 0 := hP3
                have HRn : Hid (R = none) := hide (HEq.out.symm.trans (sdS_none (by rw [← Hsj.out]; exact hR3.symm)))
                clear hof3 hO3 hofr hO31 hoW hooW hR3
                go_wp2_with fail
                refine bodyPost_ret (v := .tuple #[.slice none 0 0, .bool false]) (by simp [results, Try.results21, go_sem]) rfl ⟨_, false, O3, xs3, rfl, by rw [HRn.out]; exact ⟨rfl, rfl⟩, (Off.of_below (O := O) HB0.out).trans HoW.out (fun i hi => .inl hi), fun i hi => by
                  rcases HooW.out i hi with h | h
                  · exact .inl h
                  · exact .inr (by omega)⟩
              | some r3 =>
                obtain ⟨rfl, hN3⟩ : bb = true ∧ NVx base O3 w6 v3 xs3 r3 := hP3
                obtain ⟨m1, m2, m3⟩ := cmpS_some HSj.out (by have := Hs2l.out; omega) hR3.symm
                have hbl3 := HI.out.bx.lt
                have HI2 : Hid (SpI base O W1 B3 (.slice da nD dc) at0 (cmpS nD n) R p L nD (j + 1) O3 v3 xs3 r3 w6) := hide
                  { nv := hN3
                    eq := (sdS_some (by rw [← Hsj.out]; exact hR3.symm)).symm.trans HEq.out
                    off := hoW
                    oo := hooW
                    nb := fun h => by
                      rcases hO31 B3 h with h | h
                      · exact HI.out.nb h
                      · omega
                    bx := (hofr.block B3 hbl3 HI.out.nb).trans HI.out.bx
                    lt := by have := Hs2l.out; omega
                    le := m2
                    tt := by
                      have h1 := tot_setN at0 ns1
                      have h2 := HI.out.tt
                      have h3 := Hs2l.out
                      have h4 := Hn1.out
                      omega }
                obtain ⟨a3, c3, e3⟩ := own_form hN3.own
                subst e3
                clear hN3 hof3 hO3 hofr hO31 m1 m2 m3 hoW hooW hR3 hbl3
                go_wp2_with fail
                exact ⟨⟨j + 1, _, _, _, by omega, by go_num, HI2.out⟩, by simp [intOf]; omega⟩
        · have hjn : j = nD := by omega
          subst hjn
          have hR1 : Hid (some ns1 = R) := hide (by
            have := HI.out.eq
            rw [Nat.sub_self] at this
            exact this)
          go_wp2_with fail
          refine bodyPost_ret (v := .tuple #[.slice (some ⟨gv, 0, none⟩) n1 cv, .bool true]) (by simp [results, Try.results21, go_sem]) rfl ⟨_, true, O1, xs1, rfl, ?_, (Off.of_below (O := O) HB0.out).trans HI.out.off (fun i hi => .inl hi), fun i hi => by
            rcases HI.out.oo i hi with h | h
            · exact .inl h
            · exact .inr (by omega)⟩
          rw [← hR1.out]
          exact ⟨rfl, HI.out.nv⟩
end Go.Proofs.Ytmlpnmdckgppnaa.W

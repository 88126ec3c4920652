/-
  What a rule asks once a constructor stands at a path: spec.l8Answer.
-/
import Derived.Test.YtmlpnmdckgppnaaCsI
import Derived.Laws.ResultCell
namespace Go.Proofs.Ytmlpnmdckgppnaa.W
open Go.ChangeShapes Go.WideShapes Go.ChangeAt Go.RowKit
set_option linter.unusedVariables false
set_option linter.unusedSimpArgs false

/-- What l8Answer tells. -/
def AnsSP (O : Nat → Prop) (w : World) (v : Value) (b : Bool) (rule : Int) : Option (List Ak) → Prop
  | some q => b = true ∧ SqS O w v ⟨rule, q⟩
  | none => b = false ∧ v = .agg #[.int .i64 0, .slice none 0 0, .slice none 0 0]

theorem results_cell_two {P : Program} {fn : Func} {p u : Tmp} {ty : TypeId} (h : fn.results = #[.cell p ty, .tmp u]) (tmps : Array Value) (w : World) (g : Nat) (t : TypeId) (cs : Array Value) (fr : Nat × Nat) (d : TypeDesc) (x : Value)
    (hp : tmps.getD p undef = .pointer (some ⟨g, 0, none⟩)) (hx : tmps.getD u undef = x) (hg : w.heap[g]? = some (.cells cs t fr))
    (hu : P.underlying ty = some d) (hd : (match d with | .struct _ | .array _ _ => true | _ => false) = true) (hi : (P.info? ty).map (·.size) = some cs.size) :
    (results fn tmps).run P w = .ok (.tuple #[.agg cs, x]) w := by
  rw [results_cell_tmp h, hp, hx]
  simp [asAddr, run_loadVar_row w g t ty cs fr d hg hu hd hi]
theorem RowX.at2 {O : Nat → Prop} {w : World} {ad : Option Addr} {c n z : Nat} {xs : List Value} (h : RowX O w (.slice ad n c) n z xs) {j : Nat} {x : Value} (hx : xs[j]? = some x) : ∃ b o, ad = some ⟨b, o, none⟩ ∧ b < w.heap.size ∧ ¬ O b ∧ w.cell? ⟨b, o + j, none⟩ = some x := by
  obtain ⟨ad', c', h1, h2, h3, h4⟩ := h
  simp only [Value.slice.injEq] at h1
  obtain ⟨rfl, -, rfl⟩ := h1
  rcases h4 with h4 | ⟨b, o, h5, h6, h7, h8⟩
  · rw [h4, Nat.zero_mul] at h3
    rw [List.eq_nil_of_length_eq_zero h3] at hx
    simp at hx
  · exact ⟨b, o, h5, h6, h7, h8 j x hx⟩
theorem SqS.empty (O : Nat → Prop) (w : World) (rule : Int) : SqS O w (.agg #[.int .i64 rule, .slice none 0 0, .slice none 0 0]) ⟨rule, []⟩ :=
  ⟨_, _, [], [], rfl, RowX.nil _ _ _, PaC.nil _ _, RowX.nil _ _ _, TrC.nil _ _, ⟨none, 0, 0, rfl, Nat.le_refl _, fun _ => ⟨rfl, rfl⟩⟩, ⟨none, 0, 0, rfl, Nat.le_refl _, fun _ => ⟨rfl, rfl⟩⟩⟩
theorem off_oth {O : Nat → Prop} {b : Nat} {w w' : World} (h : Oth b w w') (hb : O b) : Off O w w' := ⟨h.os, h.tape, h.output, h.size, fun k hk hn => h.block k hk (fun e => hn (e ▸ hb))⟩
theorem SqS.form {O : Nat → Prop} {w : World} {v : Value} {r : Aq} (h : SqS O w v r) : ∃ a1 c1 a2 c2, v = .agg #[.int .i64 r.rule, .slice a1 r.q.length c1, .slice a2 r.q.length c2] := by
  obtain ⟨pv, tv, xs, ys, e, h1, -, h3, -⟩ := h
  obtain ⟨a1, c1, e1, -⟩ := h1.form
  obtain ⟨a2, c2, e2, -⟩ := h3.form
  subst e1; subst e2
  exact ⟨_, _, _, _, e⟩

set_option maxRecDepth 20000 in
set_option maxHeartbeats 8000000 in
theorem l8Answer_any (O : Nat → Prop) (rv : Value) (r : Aq) (pv : Value) (p : List Int) (c : Int) (D : List Int) (w : World) (hO : ∀ g, O g → g < w.heap.size) (hr : SqS O w rv r) (hp : St O w (fun w' => IV w' pv p ∧ CapOk pv)) (hk : ∀ a ∈ r.q, a.x.kd ≠ 1) (hq : QokD D r.q) (hsz : qsz r.q ≤ 1000) :
    Calls Try.prog 35 #[rv, pv, .int .i64 c] w fun e w' => ∃ v' b, e = .returned (.tuple #[v', .bool b]) ∧ AnsSP O w' v' b r.rule (ansS p c r.q) ∧ Below w.heap.size w w' := by
  obtain ⟨pp, tt, xs, ys, rfl, h1, h2, h3, h4, h5, h6⟩ := id hr
  obtain ⟨pa, pc, rfl, hpc⟩ := h1.form
  obtain ⟨ta, tc, rfl, htc⟩ := h3.form
  obtain ⟨⟨va, vc, rfl, -, hvl⟩, -⟩ := hp.here
  have H1 := hide h1
  have H2 := hide h2
  have H3 := hide h3
  have H4 := hide h4
  have HP := hide hp
  have HKd := hide hk
  have HQk := hide hq
  have HSz := hide hsz
  have HOl := hide hO
  have hnq1 : r.q.length ≤ 1000 := Nat.le_trans (qsz_len r.q) hsz
  obtain ⟨nq, hnq⟩ : ∃ nq, nq = r.q.length := ⟨_, rfl⟩
  have Hnq := hide hnq
  obtain ⟨np, hnp⟩ : ∃ np, np = p.length := ⟨_, rfl⟩
  have Hnp := hide hnp
  rw [← hnq] at H1 H3 hnq1 hpc htc ⊢
  rw [← hnp] at HP hvl ⊢
  obtain ⟨rr, hrr⟩ : ∃ rr, rr = r.rule := ⟨_, rfl⟩
  rw [← hrr]
  obtain ⟨q, hqq⟩ : ∃ q, q = r.q := ⟨_, rfl⟩
  rw [← hqq] at H2 H4 HKd HQk HSz Hnq ⊢
  clear hr hp hk hq hsz hO h1 h2 h3 h4 h5 h6 hnq hnp hrr hqq r
  go_enter Try.func35, Try.ntmps35
  go_upto_region 2 with fail
  obtain ⟨W4, hW4⟩ : ∃ W4, W4 = (((w.alloc (.cells #[.int .i64 rr, .slice pa nq pc, .slice ta nq tc] 53)).alloc (.cells #[.int .i64 0, .slice none 0 0, .slice none 0 0] 53)).alloc (.cells #[.int .i64 rr, .slice none 0 0, .slice none 0 0] 53)) := ⟨_, rfl⟩
  have hX3 : Bx W4 w.heap.size #[.int .i64 rr, .slice pa nq pc, .slice ta nq tc] 53 := by rw [hW4]; exact ((Bx.new _ _ _).alloc _).alloc _
  have hX6 : Bx W4 (w.heap.size + 1) #[.int .i64 0, .slice none 0 0, .slice none 0 0] 53 := by rw [hW4]; have := (Bx.new (w.alloc (.cells #[.int .i64 rr, .slice pa nq pc, .slice ta nq tc] 53)) #[.int .i64 0, .slice none 0 0, .slice none 0 0] 53).alloc (.cells #[.int .i64 rr, .slice none 0 0, .slice none 0 0] 53); simpa using this
  have hX8 : Bx W4 (w.heap.size + 1 + 1) #[.int .i64 rr, .slice none 0 0, .slice none 0 0] 53 := by rw [hW4]; have := Bx.new ((w.alloc (.cells #[.int .i64 rr, .slice pa nq pc, .slice ta nq tc] 53)).alloc (.cells #[.int .i64 0, .slice none 0 0, .slice none 0 0] 53)) #[.int .i64 rr, .slice none 0 0, .slice none 0 0] 53; simpa using this
  have hB4 : Below w.heap.size w W4 := by rw [hW4]; exact (((Below.refl _ _).alloc (Nat.le_refl _) _).alloc (by simp) _).alloc (by simp; omega) _
  rw [← hW4]
  obtain ⟨B3, hb3⟩ : ∃ B3, B3 = w.heap.size := ⟨_, rfl⟩
  obtain ⟨B6, hb6⟩ : ∃ B6, B6 = w.heap.size + 1 := ⟨_, rfl⟩
  obtain ⟨B8, hb8⟩ : ∃ B8, B8 = w.heap.size + 1 + 1 := ⟨_, rfl⟩
  rw [← hb8] at hX8 ⊢
  rw [← hb6] at hX6 ⊢
  rw [← hb3] at hX3 ⊢
  have n36 : B3 ≠ B6 := by omega
  have n38 : B3 ≠ B8 := by omega
  have n68 : B6 ≠ B8 := by omega
  obtain ⟨O1, hO1⟩ : ∃ O1 : Nat → Prop, O1 = fun g => O g ∨ g = B6 ∨ g = B8 := ⟨_, rfl⟩
  have hO8 : O1 B8 := by rw [hO1]; exact .inr (.inr rfl)
  have hO6 : O1 B6 := by rw [hO1]; exact .inr (.inl rfl)
  have HO6 := hide hO6
  have hOO : ∀ i, O i → O1 i := by intro i hi; rw [hO1]; exact .inl hi
  have hO1l : ∀ g, O1 g → g < W4.heap.size := by
    intro g hg
    rw [hO1] at hg
    rcases hg with hg | rfl | rfl
    · have := HOl.out g hg; have := hB4.size; omega
    · exact hX6.lt
    · exact hX8.lt
  have hOi : ∀ i, O1 i → O i ∨ w.heap.size ≤ i := by
    intro i hi
    rw [hO1] at hi
    rcases hi with hi | rfl | rfl
    · exact .inl hi
    · exact .inr (by omega)
    · exact .inr (by omega)
  have hof0 : Off O w W4 := Off.of_below hB4
  replace H1 := hide (H1.out.later hof0 hOi)
  replace H2 := hide (H2.out.later hof0 hOi)
  replace H3 := hide (H3.out.later hof0 hOi)
  replace H4 := hide (H4.out.later hof0 hOi)
  replace HP := hide (HP.out.later hof0 hOi)
  have HX3 := hide hX3
  have HX6 := hide hX6
  have HX8 := hide hX8
  have HB4 := hide hB4
  have HO8 := hide hO8
  have HOO := hide hOO
  have HO1l := hide hO1l
  have hzB8 : Hid (w.heap.size ≤ B8) := hide (by omega)
  have hzB6 : Hid (w.heap.size ≤ B6) := hide (by omega)
  have c3 : ∀ o, W4.cell? ⟨B3, o, none⟩ = #[.int .i64 rr, .slice pa nq pc, .slice ta nq tc][o]? := hX3.c
  clear hW4 hb3 hb6 hb8 hO1 hO8 hO6 hOO hO1l hOi hof0 hX3 hX6 hX8 hB4 HOl
  go_wp2_with fail
  clear c3
  go_loopw [21] (fun i w' => ∃ (k : Nat) (o : List Ak) (v8 : Array Value), k ≤ nq ∧ i = .int .i64 k ∧ ansK p c (q.take k) = some o ∧ Bx w' B8 v8 53 ∧ SqS O1 w' (.agg v8) ⟨rr, o⟩ ∧ Oth B8 W4 w') (fun i _ => nq - (intOf i).toNat)
  case atStart => exact ⟨0, [], _, by omega, rfl, by rw [List.take_zero]; rfl, HX8.out, SqS.empty _ _ _, Oth.refl _ _⟩
  case round =>
    clear HX8
    obtain ⟨k, o, v8, hk, rfl, hA, hx8, hS, hO⟩ := hrel
    have HA := hide hA
    have HX8 := hide hx8
    have HS := hide hS
    have HO := hide hO
    have hoff := off_oth hO HO8.out
    have Hoff := hide hoff
    have hx3 : Bx wr B3 #[.int .i64 rr, .slice pa nq pc, .slice ta nq tc] 53 := (hO.block B3 HX3.out.lt n38).trans HX3.out
    have HX3w := hide hx3
    clear hA hx8 hS hO
    by_cases hlt : k < nq
    · have hlt' : (k : Int) < (nq : Int) := by omega
      have hk0 : (0 : Int) ≤ (k : Int) := by omega
      have hkq : k < q.length := by rw [← Hnq.out]; exact hlt
      obtain ⟨pk, ek, stk⟩ := H2.out.2 k hkq
      obtain ⟨b, ob, rfl, -, ck⟩ := (H1.out.later hoff (fun i hi => .inl hi)).at ek
      obtain ⟨⟨ak, dk, rfl, rk, lk⟩, -⟩ := (stk.later hoff (fun i hi => .inl hi)).here
      obtain ⟨⟨va', vc', ev, rv, lv⟩, -⟩ := (HP.out.later hoff (fun i hi => .inl hi)).here
      obtain ⟨rfl, -, rfl⟩ : va = va' ∧ np = p.length ∧ vc = vc' := by simpa using ev
      have HSa := hide (l8SamePath_any ak dk q[k].p va vc p wr rk rv lk lv)
      rw [← Hnp.out] at HSa
      obtain ⟨mk, hmk⟩ : ∃ mk, mk = q[k].p.length := ⟨_, rfl⟩
      rw [← hmk] at HSa ck
      have HNo := hide (fun (hpp : q[k].p ≠ p) => ansK_other hkq hpp HA.out)
      have HYes := hide (fun (hpp : q[k].p = p) (hcc : q[k].x.con = c) => ansK_same hkq hpp hcc HA.out)
      have HBad := hide (fun (hpp : q[k].p = p) (hcc : q[k].x.con ≠ c) => ansK_bad hkq hpp hcc)
      have hkd := HKd.out _ (List.getElem_mem hkq)
      obtain ⟨s, y0, y1, hT⟩ := H4.out.2 k hkq
      have et : tcon q[k].x = q[k].x.con := by unfold tcon; rw [if_neg hkd]
      rw [et] at y0
      have R3 := H3.out.later hoff (fun i hi => .inl hi)
      have HR3 := hide R3
      have HTk := hide hT
      clear ev et hT stk rk rv lk lv hmk R3 hx3 hoff
      go_wp2_with fail
      refine Calls.mono HSa.out ?_
      rintro e w5 ⟨rfl, hb5⟩
      have Hb5 := hide hb5
      clear ck hb5 HSa
      by_cases hpp : q[k].p = p
      · have hd : decide (q[k].p = p) = true := decide_eq_true hpp
        rw [hd]
        have hE := HBad.out hpp
        have hYe := HYes.out hpp
        obtain ⟨y, hy⟩ : ∃ y, y = q[k].x.con := ⟨_, rfl⟩
        rw [← hy] at y0 hE hYe
        have HE := hide hE
        have HYe := hide hYe
        have HPp := hide hpp
        obtain ⟨bt, ot, rfl, lt, t0⟩ := HR3.out.at y0
        obtain ⟨bt', ot', e', -, t1⟩ := HR3.out.at y1
        simp only [Option.some.injEq, Addr.mk.injEq, and_true] at e'
        obtain ⟨rfl, rfl⟩ := e'
        replace t0 := (Hb5.out.cell (p := ⟨bt, ot + k * 2, none⟩) lt).trans t0
        replace t1 := (Hb5.out.cell (p := ⟨bt, ot + (k * 2 + 1), none⟩) lt).trans t1
        rw [← Nat.add_assoc] at t1
        have HX3v := hide (HX3w.out.below Hb5.out HX3w.out.lt)
        have HO5 := hide (HO.out.trans (Oth.ofBelow (b := B8) Hb5.out))
        have c3 := HX3v.out.c 2
        clear hd hpp hE hYe hy HNo HYes HBad y0 y1 lt
        by_cases hcc : y = c
        · have HEy := hide (HYe.out hcc)
          subst hcc
          have HX8v := hide (HX8.out.below Hb5.out HX8.out.lt)
          have HSv := hide (HS.out.below Hb5.out)
          obtain ⟨f, hf⟩ : ∃ f, f = q[k].k := ⟨_, rfl⟩
          rw [← hf] at HTk HEy
          obtain ⟨sa, sc, rfl⟩ := HTk.out.form
          obtain ⟨nk, hnk⟩ : ∃ nk, nk = f.len := ⟨_, rfl⟩
          rw [← hnk] at t1 HTk
          have Hnk := hide hnk
          have HFo : Hid (f.ok D ∧ p.length + f.flat.length ≤ 999) := hide (by
            have h := HQk.out _ (List.getElem_mem hkq)
            rw [hf]
            exact ⟨h.1.2.2.1, by rw [← HPp.out]; exact h.2⟩)
          have hnk1 : nk ≤ 999 := by rw [hnk]; have := F.len_flat f; have := HFo.out.2; omega
          clear HE HYe hf hnk hkd
          go_wp2_with fail
          clear t0 t1 c3
          go_loopw [46] (fun i w' => ∃ (a b : F) (v8 : Array Value), f = a.app b ∧ i = .int .i64 a.len ∧ Bx w' B8 v8 53 ∧ SqS O1 w' (.agg v8) ⟨rr, o ++ kidA p 0 a⟩ ∧ Oth B8 W4 w') (fun i _ => nk - (intOf i).toNat)
          case atStart => exact ⟨.nil, f, _, rfl, rfl, HX8v.out, by simpa [kidA] using HSv.out, HO5.out⟩
          case round =>
            clear HX8v HSv HO5 HX8 HS HO Hb5 HX3v HX3w HR3
            obtain ⟨a, bF, v8, hfe, rfl, hx8, hS, hO⟩ := hrel
            have HX8 := hide hx8
            have HS := hide hS
            have HO := hide hO
            have hoff := off_oth hO HO8.out
            have Hoff := hide hoff
            have Hfe := hide hfe
            clear hx8 hS hO
            cases bF with
            | nil =>
              have he : f = a := by rw [hfe, F.app_nil]
              have hal : a.len = nk := by rw [Hnk.out, he]
              have HS2 : Hid (SqS O1 wr (.agg v8) ⟨rr, o ++ kidA p 0 f⟩) := hide (by rw [he]; exact HS.out)
              rw [hal]
              clear hfe he hal HS hoff
              go_wp2_with fail
              exact ⟨⟨k + 1, _, v8, by omega, by go_num, HEy.out, HX8.out, HS2.out, HO.out⟩, by simp [intOf]; omega⟩
            | cons x kk rs =>
              have hal : a.len < nk := by rw [Hnk.out, hfe, F.app_len]; simp [F.len]
              obtain ⟨na, hna⟩ : ∃ na, na = a.len := ⟨_, rfl⟩
              have Hna := hide hna
              obtain ⟨gk, capk, sx, es, -, lk, hKx, k0, k1⟩ := (show KidT wr (fun g => ¬ O1 g) (a.app (.cons x kk rs)) (.slice sa nk sc) from by rw [← hfe]; exact HTk.out.later hoff (fun i hi => .inl hi)).kid
              obtain ⟨xa, xc, rfl⟩ := hKx.form
              simp only [Value.slice.injEq] at es
              obtain ⟨rfl, -, rfl⟩ := es
              have hgc := goodC_con ((F.app_ok D a (.cons x kk rs)).1 (hfe ▸ HFo.out.1)).2.1
              have hlen : (o ++ kidA p 0 a).length ≤ 1000 := Nat.le_trans (ans_len1 HEy.out hfe) HSz.out
              have HKx := hide hKx
              have hStp := HP.out.later hoff (fun i hi => .inl hi)
              have HStp := hide hStp
              have hfe2 : f = (a.app (.cons x kk .nil)).app rs := by rw [hfe, F.app_assoc]; rfl
              have hln2 : (a.app (.cons x kk .nil)).len = na + 1 := by rw [F.app_len, hna]; simp [F.len]
              have Hfe2 := hide hfe2
              have Hln2 := hide hln2
              have hnp1 : np ≤ 999 := by rw [Hnp.out]; have := HFo.out.2; omega
              obtain ⟨a1, d1, a2, d2, e⟩ := HS.out.form
              simp only [Value.agg.injEq] at e
              subst e
              have hSa := HS.out
              have hCall : ∀ (V : World) (pv' : Value), Below wr.heap.size wr V → St O1 V (fun w' => IV w' pv' (p ++ [(a.len : Int)]) ∧ CapOk pv') → Calls Try.prog 20 #[.agg #[.int .i64 rr, .slice a1 (o ++ kidA p 0 a).length d1, .slice a2 (o ++ kidA p 0 a).length d2], pv', .agg #[.int .i64 (tcon x), .slice xa kk.len xc]] V fun e w' => ∃ v', e = .returned v' ∧ SqS O1 w' v' ⟨rr, o ++ kidA p 0 (a.app (.cons x kk .nil))⟩ ∧ Below V.heap.size V w' := fun V pv' hbw hst => by
                have h := l8Asks_any O1 (.agg #[.int .i64 rr, .slice a1 (o ++ kidA p 0 a).length d1, .slice a2 (o ++ kidA p 0 a).length d2]) ⟨rr, o ++ kidA p 0 a⟩ pv' (p ++ [(a.len : Int)]) (.slice xa kk.len xc) x kk V (fun g hg => Nat.lt_of_lt_of_le (HO1l.out g hg) (Nat.le_trans HO.out.size hbw.size)) (hSa.below hbw) hst (hKx.below hbw) hgc hlen
                have e : (if x.kd = 1 then o ++ kidA p 0 a else o ++ kidA p 0 a ++ [(⟨p ++ [(a.len : Int)], x, kk⟩ : Ak)]) = o ++ kidA p 0 (a.app (.cons x kk .nil)) := by
                  rw [kidA_snoc]
                  split
                  · rfl
                  · rw [List.append_assoc]
                simp only at h
                rw [e] at h
                exact h
              rw [← hna] at hCall hal k0 k1 ⊢
              obtain ⟨m1, hm1⟩ : ∃ m1, m1 = (o ++ kidA p 0 a).length := ⟨_, rfl⟩
              have hx8 := HX8.out
              rw [← hm1] at hx8 hCall
              have HX8v := hide hx8
              obtain ⟨R, hR⟩ : ∃ R, R = o ++ kidA p 0 (a.app (.cons x kk .nil)) := ⟨_, rfl⟩
              rw [← hR] at hCall
              have HRe := hide hR
              obtain ⟨tx, htx⟩ : ∃ tx, tx = tcon x := ⟨_, rfl⟩
              obtain ⟨nx, hnx⟩ : ∃ nx, nx = kk.len := ⟨_, rfl⟩
              rw [← htx] at hCall k0
              rw [← hnx] at hCall k1
              have HCall := hide hCall
              have hna' : (na : Int) < (nk : Int) := by omega
              have hna0 : (0 : Int) ≤ (na : Int) := by omega
              clear hCall hSa hx8 hm1 hR htx hnx hgc hlen hKx hStp hfe hfe2 hln2 hna hoff
              obtain ⟨W1, hW1⟩ : ∃ W1, W1 = wr.alloc (.cells #[.int .i64 tx, .slice xa nx xc] 50) := ⟨_, rfl⟩
              have hb1 : Below wr.heap.size wr W1 := by rw [hW1]; exact (Below.refl _ _).alloc (Nat.le_refl _) _
              have HX12 : Hid (Bx W1 wr.heap.size #[.int .i64 tx, .slice xa nx xc] 50) := hide (by rw [hW1]; exact Bx.new wr _ _)
              have Hb1 := hide hb1
              have HW1 := hide hW1
              clear hW1
              go_upto_region 11 with fail
              rw [← HW1.out]
              obtain ⟨B12, hB12⟩ : ∃ B12, B12 = wr.heap.size := ⟨_, rfl⟩
              have n12 : B12 ≠ B8 := by have := HX8v.out.lt; omega
              rw [← hB12] at HX12 ⊢
              clear hB12
              have HKs : Hid (∀ V, Below W1.heap.size W1 V → V.cell? ⟨B12, 0, none⟩ = some (.int .i64 tx) ∧ V.cell? ⟨B12, 1, none⟩ = some (.slice xa nx xc)) := hide (fun V h => ⟨((HX12.out.below h HX12.out.lt).c 0).trans rfl, ((HX12.out.below h HX12.out.lt).c 1).trans rfl⟩)
              have HKz : Hid (∀ V W', Below W1.heap.size W1 V → Oth B8 V W' → W'.cell? ⟨B12, 0, none⟩ = some (.int .i64 tx) ∧ W'.cell? ⟨B12, 1, none⟩ = some (.slice xa nx xc)) := hide (fun V W' h ho => by
                obtain ⟨e1, e2⟩ := HKs.out V h
                have l3 := Nat.lt_of_lt_of_le HX12.out.lt h.size
                exact ⟨(World.cell?_of_block (a := ⟨B12, 0, none⟩) (ho.block B12 l3 n12)).trans e1, (World.cell?_of_block (a := ⟨B12, 1, none⟩) (ho.block B12 l3 n12)).trans e2⟩)
              have HX8w := hide (HX8v.out.below Hb1.out HX8v.out.lt)
              have HCell : Hid (∀ V, Below W1.heap.size W1 V → (V.cell? ⟨B8, 0, none⟩ = some (.int .i64 rr) ∧ V.cell? ⟨B8, 1, none⟩ = some (.slice a1 m1 d1) ∧ V.cell? ⟨B8, 2, none⟩ = some (.slice a2 m1 d2)) ∧ ∀ i, V.frozen? ⟨B8, i, none⟩ = false) := hide (fun V h => ⟨⟨((HX8w.out.below h HX8w.out.lt).c 0).trans rfl, ((HX8w.out.below h HX8w.out.lt).c 1).trans rfl, ((HX8w.out.below h HX8w.out.lt).c 2).trans rfl⟩, (HX8w.out.below h HX8w.out.lt).f⟩)
              have HSc : Hid (∀ V, Below W1.heap.size W1 V → ScX V (.slice va np vc) np 1 (nC p)) := hide (fun V h => by
                obtain ⟨i1, i2⟩ := (HStp.out.later (Off.of_below (O := O1) (Hb1.out.trans (h.mono Hb1.out.size))) (fun i hi => .inl hi)).here
                exact iv_scx i1 i2)
              have HFin : Hid (∀ V pv', Below W1.heap.size W1 V → V.ownsRow W1.heap.size 3 1 pv' (np + 1) (nC p ++ [.int .i64 (na : Int)]) → Calls Try.prog 20 #[.agg #[.int .i64 rr, .slice a1 m1 d1, .slice a2 m1 d2], pv', .agg #[.int .i64 tx, .slice xa nx xc]] V fun e w' => ∃ v', e = .returned v' ∧ SqS O1 w' v' ⟨rr, R⟩ ∧ Below V.heap.size V w') := hide (fun V pv' h ho => HCall.out V pv' (Hb1.out.trans (h.mono Hb1.out.size)) (own_st (p := p ++ [(na : Int)]) (by rw [← nC_app]; exact ho) (fun g hg => Nat.lt_of_lt_of_le (HO1l.out g hg) (Nat.le_trans HO.out.size Hb1.out.size)) (by rw [List.length_append, ← Hnp.out]; rfl) (by omega)))
              have HNew : Hid (∀ V x2 x3, Below W1.heap.size W1 V → SqS O1 V (.agg #[.int .i64 rr, x2, x3]) ⟨rr, R⟩ → ∀ W', W' = ((V.setCell ⟨B8, 0, none⟩ (.int .i64 rr)).setCell ⟨B8, 1, none⟩ x2).setCell ⟨B8, 2, none⟩ x3 → Oth B8 V W' ∧ Bx W' B8 #[.int .i64 rr, x2, x3] 53 ∧ SqS O1 W' (.agg #[.int .i64 rr, x2, x3]) ⟨rr, o ++ kidA p 0 (a.app (.cons x kk .nil))⟩ ∧ Oth B8 W4 W') := hide (fun V x2 x3 h hv W' hW' => by
                have ho : Oth B8 V W' := by rw [hW']; exact (((Oth.refl B8 V).setCell 0 _).setCell 1 _).setCell 2 _
                refine ⟨ho, ?_, ?_, ((HO.out.trans (Oth.ofBelow Hb1.out)).trans (Oth.ofBelow h)).trans ho⟩
                · rw [hW']
                  have := (((HX8w.out.below h HX8w.out.lt).set 0 (.int .i64 rr)).set 1 x2).set 2 x3
                  simpa using this
                · rw [← HRe.out]
                  exact hv.later (off_oth ho HO8.out) (fun i hi => .inl hi))
              have hkS := HKs.out W1 (Below.refl _ _)
              clear n12 k0 k1 lk hal HX8 HX8v HS HCall HW1 HX12
              refine wp_region_noPanic ?_
              refine wp_region_held_drew (S := fun w' => w'.cell? ⟨B12, 0, none⟩ = some (.int .i64 tx) ∧ w'.cell? ⟨B12, 1, none⟩ = some (.slice xa nx xc)) (by kernel_rfl) hkS (fun hHeld => ?_)
              refine wpAnyH_take (i := 2) (oi := _) (v := ?_) rfl (by kernel_rfl) (by kernel_rfl) (by kernel_rfl) (fun _ _ _ h => h) (Or.inl ⟨by rfl, ?_⟩) (by assumption) ?_
              rotate_left 1
              · (intro w hSw; clear hSw; (first | (go_simp; done) | (go_simp; with_reducible rfl)))
              try simp only [Act.put, List.getElem_toArray, List.getElem_cons_zero, List.getElem_cons_succ, List.setIfInBounds_toArray, List.set_cons_zero, List.set_cons_succ]
              refine wpAnyH_take (i := 4) (oi := _) (v := ?_) rfl (by kernel_rfl) (by kernel_rfl) (by kernel_rfl) (fun _ _ _ h => h) (Or.inl ⟨by rfl, ?_⟩) (by assumption) ?_
              rotate_left 1
              · (intro w hSw; clear hSw; (first | (go_simp; done) | (go_simp; with_reducible rfl)))
              try simp only [Act.put, List.getElem_toArray, List.getElem_cons_zero, List.getElem_cons_succ, List.setIfInBounds_toArray, List.set_cons_zero, List.set_cons_succ]
              refine wpAnyH_take (i := 7) (oi := _) (v := ?_) rfl (by kernel_rfl) (by kernel_rfl) (by kernel_rfl) (fun _ _ _ h => h) (Or.inl ⟨by rfl, ?_⟩) (by assumption) ?_
              rotate_left 1
              · (intro w hSw; obtain ⟨hSw1, hSw2⟩ := hSw; (first | (go_simp; done) | (go_simp; with_reducible rfl)))
              try simp only [Act.put, List.getElem_toArray, List.getElem_cons_zero, List.getElem_cons_succ, List.setIfInBounds_toArray, List.set_cons_zero, List.set_cons_succ]
              clear hkS
              obtain ⟨V, hV⟩ : ∃ V, V = W1.drew := ⟨_, rfl⟩
              have HbV : Hid (Below W1.heap.size W1 V) := hide (by rw [hV]; exact belowDrew8' (Below.refl _ _))
              rw [← hV]
              clear hV
              refine wpAnyH_ready (rs := [0, 1, 5]) (by kernel_rfl) (by simp) ?_
              refine AllReadyH.cons (o := _) rfl (fun K hK => ?_) (AllReadyH.cons (o := _) rfl (fun K hK => ?_) (AllReadyH.cons (o := _) rfl (fun K hK => ?_) (AllReadyH.nil)))
              · obtain ⟨⟨e0, e1, e2⟩, -⟩ := HCell.out _ HbV.out
                go_simp
                refine hK.out _ _ (HKs.out _ HbV.out) (fun hHeld => ?_)
                clear hK K e0 e1 e2
                try simp only [Act.put, List.getElem_toArray, List.getElem_cons_zero, List.getElem_cons_succ, List.setIfInBounds_toArray, List.set_cons_zero, List.set_cons_succ]
                refine wpAnyH_ready (rs := [1, 5]) (by kernel_rfl) (by simp) ?_
                refine AllReadyH.cons (o := _) rfl (fun K hK => ?_) (AllReadyH.cons (o := _) rfl (fun K hK => ?_) (AllReadyH.nil))
                · refine wp_slice0I rfl (fun B0 V2 hB0 hX0 hb => ?_)
                  have hbV : Below W1.heap.size W1 V2 := HbV.out.trans (hb.mono HbV.out.size)
                  have hO0 : V2.ownsRow W1.heap.size 3 1 (.slice (some ⟨B0, 0, none⟩) 0 0) 0 [] := ⟨rfl, .inr ⟨B0, 0, #[], rfl, by have := HbV.out.size; omega, hX0, Nat.le_refl _, by omega, rfl, rfl⟩⟩
                  have HO0 := hide hO0
                  clear hO0 hX0 hb hB0
                  have HbV2 := hide hbV
                  refine hK.out _ _ (HKs.out _ hbV) (fun hHeld => ?_)
                  clear hK K hbV HbV
                  try simp only [Act.put, List.getElem_toArray, List.getElem_cons_zero, List.getElem_cons_succ, List.setIfInBounds_toArray, List.set_cons_zero, List.set_cons_succ]
                  have HbV := HbV2
                  clear HbV2
                  refine wpAnyH_ready (rs := [3, 5]) (by kernel_rfl) (by simp) ?_
                  refine AllReadyH.cons (o := _) rfl (fun K hK => ?_) (AllReadyH.cons (o := _) rfl (fun K hK => ?_) (AllReadyH.nil))
                  · refine wp_appI _ _ rfl W1.heap.size _ 0 [] rfl HO0.out (.slice va np vc) np (nC p) rfl (HSc.out _ HbV.out) (by omega) HbV.out.size (fun v3 V2 ho hg ha => ?_)
                    (try simp only [Nat.zero_add, List.nil_append] at ho)
                    have hbV : Below W1.heap.size W1 V2 := HbV.out.trans ((Below.refl _ _).grown hg HbV.out.size (fun k h => (HO0.out.lt k h).1))
                    obtain ⟨a3, d3, e3⟩ := own_form ho
                    subst e3
                    have HO3 := hide ho
                    clear ho hg ha HO0
                    have HbV2 := hide hbV
                    refine hK.out _ _ (HKs.out _ hbV) (fun hHeld => ?_)
                    clear hK K hbV HbV
                    try simp only [Act.put, List.getElem_toArray, List.getElem_cons_zero, List.getElem_cons_succ, List.setIfInBounds_toArray, List.set_cons_zero, List.set_cons_succ]
                    have HbV := HbV2
                    clear HbV2
                    refine wpAnyH_ready (rs := [5]) (by kernel_rfl) (by simp) ?_
                    refine AllReadyH.cons (o := _) rfl (fun K hK => ?_) (AllReadyH.nil)
                    refine wp_slice1I _ rfl (na : Int) rfl (fun B1 V2 hB1 hX1 hb => ?_)
                    have hbV : Below W1.heap.size W1 V2 := HbV.out.trans (hb.mono HbV.out.size)
                    have HXq := hide hX1
                    have hO3 := own_keep HO3.out (w' := V2) (fun k _ hk => hb.block k hk)
                    replace HO3 := hide hO3
                    clear hO3
                    clear hX1 hb hB1
                    have HbV2 := hide hbV
                    refine hK.out _ _ (HKs.out _ hbV) (fun hHeld => ?_)
                    clear hK K hbV HbV
                    try simp only [Act.put, List.getElem_toArray, List.getElem_cons_zero, List.getElem_cons_succ, List.setIfInBounds_toArray, List.set_cons_zero, List.set_cons_succ]
                    have HbV := HbV2
                    clear HbV2
                    refine wpAnyH_ready (rs := [6]) (by kernel_rfl) (by simp) ?_
                    refine AllReadyH.cons (o := _) rfl (fun K hK => ?_) (AllReadyH.nil)
                    refine wp_appI _ _ rfl W1.heap.size _ np (nC p) rfl HO3.out (.slice (some ⟨B1, 0, none⟩) 1 1) 1 [.int .i64 (na : Int)] rfl ⟨rfl, fun u hu => by simp only [List.mem_cons, List.not_mem_nil, or_false] at hu; rcases hu with rfl; rfl, .inr ⟨_, _, rfl, oneC_cells HXq.out⟩⟩ (by omega) HbV.out.size (fun v4 V2 ho hg ha => ?_)
                    have hbV : Below W1.heap.size W1 V2 := HbV.out.trans ((Below.refl _ _).grown hg HbV.out.size (fun k h => (HO3.out.lt k h).1))
                    obtain ⟨a4, d4, e4⟩ := own_form ho
                    subst e4
                    have HO4 := hide ho
                    clear ho hg ha HO3 HXq
                    have HbV2 := hide hbV
                    refine hK.out _ _ (HKs.out _ hbV) (fun hHeld => ?_)
                    clear hK K hbV HbV
                    try simp only [Act.put, List.getElem_toArray, List.getElem_cons_zero, List.getElem_cons_succ, List.setIfInBounds_toArray, List.set_cons_zero, List.set_cons_succ]
                    have HbV := HbV2
                    clear HbV2
                    refine wpAnyH_ready (rs := [8]) (by kernel_rfl) (by simp) ?_
                    refine AllReadyH.cons (o := _) rfl (fun K hK => ?_) AllReadyH.nil
                    go_simp
                    (with_reducible refine Calls.mono (HFin.out _ _ HbV.out HO4.out) ?_)
                    rintro r V7 ⟨v7, rfl, hv, hx⟩
                    replace HbV := hide (HbV.out.trans (hx.mono HbV.out.size))
                    obtain ⟨p1, g1, p2, g2, rfl⟩ := hv.form
                    obtain ⟨mR, hmR⟩ : ∃ mR, mR = R.length := ⟨_, rfl⟩
                    have hv2 : SqS O1 V7 (.agg #[.int .i64 rr, .slice p1 mR g1, .slice p2 mR g2]) ⟨rr, R⟩ := by rw [hmR]; exact hv
                    have HV7 := hide hv2
                    rw [← hmR]
                    clear hv hv2 hx hmR HO4
                    (try go_wp2_with fail)
                    refine hK.out _ _ (HKs.out _ HbV.out) (fun hHeld => ?_)
                    clear hK K
                    try simp only [Act.put, List.getElem_toArray, List.getElem_cons_zero, List.getElem_cons_succ, List.setIfInBounds_toArray, List.set_cons_zero, List.set_cons_succ]
                    obtain ⟨⟨e0, e1, e2⟩, ef⟩ := HCell.out _ HbV.out
                    refine wpAnyH_ready (rs := [9]) (by kernel_rfl) (by simp) ?_
                    refine AllReadyH.cons (o := _) rfl (fun K hK => ?_) AllReadyH.nil
                    go_simp
                    obtain ⟨W9, hW9⟩ : ∃ W9, W9 = ((V7.setCell ⟨B8, 0, none⟩ (.int .i64 rr)).setCell ⟨B8, 1, none⟩ (.slice p1 mR g1)).setCell ⟨B8, 2, none⟩ (.slice p2 mR g2) := ⟨_, rfl⟩
                    have hq9 := HNew.out _ _ _ HbV.out HV7.out W9 hW9
                    rw [← hW9]
                    refine hK.out _ _ (HKz.out _ _ HbV.out hq9.1) (fun hHeld => ?_)
                    clear hK K e0 e1 e2 ef hW9
                    try simp only [Act.put, List.getElem_toArray, List.getElem_cons_zero, List.getElem_cons_succ, List.setIfInBounds_toArray, List.set_cons_zero, List.set_cons_succ]
                    refine wpAnyH_done (by kernel_rfl) ?_ _
                    refine NoPanic.normal ?_
                    clear hHeld
                    have HQ9 := hide hq9
                    clear hq9 HNew HKs HKz HCell HFin HV7 HSc
                    go_wp2_with fail
                    exact ⟨⟨a.app (.cons x kk .nil), rs, _, Hfe2.out, by rw [Hln2.out]; go_num, HQ9.out.2.1, HQ9.out.2.2.1, HQ9.out.2.2.2⟩, by simp [intOf]; omega⟩
                  · refine wp_slice1I _ rfl (na : Int) rfl (fun B1 V2 hB1 hX1 hb => ?_)
                    have hbV : Below W1.heap.size W1 V2 := HbV.out.trans (hb.mono HbV.out.size)
                    have HXq := hide hX1
                    have hNe : B0 ≠ B1 := by have := (HO0.out.lt B0 rfl).2; omega
                    have HNe := hide hNe
                    have hO0 := own_keep HO0.out (w' := V2) (fun k _ hk => hb.block k hk)
                    replace HO0 := hide hO0
                    clear hO0 hNe
                    clear hX1 hb hB1
                    have HbV2 := hide hbV
                    refine hK.out _ _ (HKs.out _ hbV) (fun hHeld => ?_)
                    clear hK K hbV HbV
                    try simp only [Act.put, List.getElem_toArray, List.getElem_cons_zero, List.getElem_cons_succ, List.setIfInBounds_toArray, List.set_cons_zero, List.set_cons_succ]
                    have HbV := HbV2
                    clear HbV2
                    refine wpAnyH_ready (rs := [3]) (by kernel_rfl) (by simp) ?_
                    refine AllReadyH.cons (o := _) rfl (fun K hK => ?_) (AllReadyH.nil)
                    refine wp_appI _ _ rfl W1.heap.size _ 0 [] rfl HO0.out (.slice va np vc) np (nC p) rfl (HSc.out _ HbV.out) (by omega) HbV.out.size (fun v3 V2 ho hg ha => ?_)
                    (try simp only [Nat.zero_add, List.nil_append] at ho)
                    have hbV : Below W1.heap.size W1 V2 := HbV.out.trans ((Below.refl _ _).grown hg HbV.out.size (fun k h => (HO0.out.lt k h).1))
                    have hXq : Bx V2 B1 #[.int .i64 (na : Int)] 3 := (hg.block B1 HXq.out.lt (fun e => HNe.out (by have ee : some B0 = some B1 := e.symm; simpa using ee))).trans HXq.out
                    replace HXq := hide hXq
                    clear hXq
                    obtain ⟨a3, d3, e3⟩ := own_form ho
                    subst e3
                    have HO3 := hide ho
                    clear ho hg ha HO0
                    have HbV2 := hide hbV
                    refine hK.out _ _ (HKs.out _ hbV) (fun hHeld => ?_)
                    clear hK K hbV HbV
                    try simp only [Act.put, List.getElem_toArray, List.getElem_cons_zero, List.getElem_cons_succ, List.setIfInBounds_toArray, List.set_cons_zero, List.set_cons_succ]
                    have HbV := HbV2
                    clear HbV2
                    refine wpAnyH_ready (rs := [6]) (by kernel_rfl) (by simp) ?_
                    refine AllReadyH.cons (o := _) rfl (fun K hK => ?_) (AllReadyH.nil)
                    refine wp_appI _ _ rfl W1.heap.size _ np (nC p) rfl HO3.out (.slice (some ⟨B1, 0, none⟩) 1 1) 1 [.int .i64 (na : Int)] rfl ⟨rfl, fun u hu => by simp only [List.mem_cons, List.not_mem_nil, or_false] at hu; rcases hu with rfl; rfl, .inr ⟨_, _, rfl, oneC_cells HXq.out⟩⟩ (by omega) HbV.out.size (fun v4 V2 ho hg ha => ?_)
                    have hbV : Below W1.heap.size W1 V2 := HbV.out.trans ((Below.refl _ _).grown hg HbV.out.size (fun k h => (HO3.out.lt k h).1))
                    obtain ⟨a4, d4, e4⟩ := own_form ho
                    subst e4
                    have HO4 := hide ho
                    clear ho hg ha HO3 HXq
                    have HbV2 := hide hbV
                    refine hK.out _ _ (HKs.out _ hbV) (fun hHeld => ?_)
                    clear hK K hbV HbV
                    try simp only [Act.put, List.getElem_toArray, List.getElem_cons_zero, List.getElem_cons_succ, List.setIfInBounds_toArray, List.set_cons_zero, List.set_cons_succ]
                    have HbV := HbV2
                    clear HbV2
                    refine wpAnyH_ready (rs := [8]) (by kernel_rfl) (by simp) ?_
                    refine AllReadyH.cons (o := _) rfl (fun K hK => ?_) AllReadyH.nil
                    go_simp
                    (with_reducible refine Calls.mono (HFin.out _ _ HbV.out HO4.out) ?_)
                    rintro r V7 ⟨v7, rfl, hv, hx⟩
                    replace HbV := hide (HbV.out.trans (hx.mono HbV.out.size))
                    obtain ⟨p1, g1, p2, g2, rfl⟩ := hv.form
                    obtain ⟨mR, hmR⟩ : ∃ mR, mR = R.length := ⟨_, rfl⟩
                    have hv2 : SqS O1 V7 (.agg #[.int .i64 rr, .slice p1 mR g1, .slice p2 mR g2]) ⟨rr, R⟩ := by rw [hmR]; exact hv
                    have HV7 := hide hv2
                    rw [← hmR]
                    clear hv hv2 hx hmR HO4
                    (try go_wp2_with fail)
                    refine hK.out _ _ (HKs.out _ HbV.out) (fun hHeld => ?_)
                    clear hK K
                    try simp only [Act.put, List.getElem_toArray, List.getElem_cons_zero, List.getElem_cons_succ, List.setIfInBounds_toArray, List.set_cons_zero, List.set_cons_succ]
                    obtain ⟨⟨e0, e1, e2⟩, ef⟩ := HCell.out _ HbV.out
                    refine wpAnyH_ready (rs := [9]) (by kernel_rfl) (by simp) ?_
                    refine AllReadyH.cons (o := _) rfl (fun K hK => ?_) AllReadyH.nil
                    go_simp
                    obtain ⟨W9, hW9⟩ : ∃ W9, W9 = ((V7.setCell ⟨B8, 0, none⟩ (.int .i64 rr)).setCell ⟨B8, 1, none⟩ (.slice p1 mR g1)).setCell ⟨B8, 2, none⟩ (.slice p2 mR g2) := ⟨_, rfl⟩
                    have hq9 := HNew.out _ _ _ HbV.out HV7.out W9 hW9
                    rw [← hW9]
                    refine hK.out _ _ (HKz.out _ _ HbV.out hq9.1) (fun hHeld => ?_)
                    clear hK K e0 e1 e2 ef hW9
                    try simp only [Act.put, List.getElem_toArray, List.getElem_cons_zero, List.getElem_cons_succ, List.setIfInBounds_toArray, List.set_cons_zero, List.set_cons_succ]
                    refine wpAnyH_done (by kernel_rfl) ?_ _
                    refine NoPanic.normal ?_
                    clear hHeld
                    have HQ9 := hide hq9
                    clear hq9 HNew HKs HKz HCell HFin HV7 HSc
                    go_wp2_with fail
                    exact ⟨⟨a.app (.cons x kk .nil), rs, _, Hfe2.out, by rw [Hln2.out]; go_num, HQ9.out.2.1, HQ9.out.2.2.1, HQ9.out.2.2.2⟩, by simp [intOf]; omega⟩
                · refine wp_slice1I _ rfl (na : Int) rfl (fun B1 V2 hB1 hX1 hb => ?_)
                  have hbV : Below W1.heap.size W1 V2 := HbV.out.trans (hb.mono HbV.out.size)
                  have HXq := hide hX1
                  clear hX1 hb hB1
                  have HbV2 := hide hbV
                  refine hK.out _ _ (HKs.out _ hbV) (fun hHeld => ?_)
                  clear hK K hbV HbV
                  try simp only [Act.put, List.getElem_toArray, List.getElem_cons_zero, List.getElem_cons_succ, List.setIfInBounds_toArray, List.set_cons_zero, List.set_cons_succ]
                  have HbV := HbV2
                  clear HbV2
                  refine wpAnyH_ready (rs := [1]) (by kernel_rfl) (by simp) ?_
                  refine AllReadyH.cons (o := _) rfl (fun K hK => ?_) (AllReadyH.nil)
                  refine wp_slice0I rfl (fun B0 V2 hB0 hX0 hb => ?_)
                  have hbV : Below W1.heap.size W1 V2 := HbV.out.trans (hb.mono HbV.out.size)
                  have hO0 : V2.ownsRow W1.heap.size 3 1 (.slice (some ⟨B0, 0, none⟩) 0 0) 0 [] := ⟨rfl, .inr ⟨B0, 0, #[], rfl, by have := HbV.out.size; omega, hX0, Nat.le_refl _, by omega, rfl, rfl⟩⟩
                  have hXq := HXq.out.below hb HXq.out.lt
                  have hNe : B0 ≠ B1 := by have := HXq.out.lt; omega
                  replace HXq := hide hXq
                  have HNe := hide hNe
                  clear hXq hNe
                  have HO0 := hide hO0
                  clear hO0 hX0 hb hB0
                  have HbV2 := hide hbV
                  refine hK.out _ _ (HKs.out _ hbV) (fun hHeld => ?_)
                  clear hK K hbV HbV
                  try simp only [Act.put, List.getElem_toArray, List.getElem_cons_zero, List.getElem_cons_succ, List.setIfInBounds_toArray, List.set_cons_zero, List.set_cons_succ]
                  have HbV := HbV2
                  clear HbV2
                  refine wpAnyH_ready (rs := [3]) (by kernel_rfl) (by simp) ?_
                  refine AllReadyH.cons (o := _) rfl (fun K hK => ?_) (AllReadyH.nil)
                  refine wp_appI _ _ rfl W1.heap.size _ 0 [] rfl HO0.out (.slice va np vc) np (nC p) rfl (HSc.out _ HbV.out) (by omega) HbV.out.size (fun v3 V2 ho hg ha => ?_)
                  (try simp only [Nat.zero_add, List.nil_append] at ho)
                  have hbV : Below W1.heap.size W1 V2 := HbV.out.trans ((Below.refl _ _).grown hg HbV.out.size (fun k h => (HO0.out.lt k h).1))
                  have hXq : Bx V2 B1 #[.int .i64 (na : Int)] 3 := (hg.block B1 HXq.out.lt (fun e => HNe.out (by have ee : some B0 = some B1 := e.symm; simpa using ee))).trans HXq.out
                  replace HXq := hide hXq
                  clear hXq
                  obtain ⟨a3, d3, e3⟩ := own_form ho
                  subst e3
                  have HO3 := hide ho
                  clear ho hg ha HO0
                  have HbV2 := hide hbV
                  refine hK.out _ _ (HKs.out _ hbV) (fun hHeld => ?_)
                  clear hK K hbV HbV
                  try simp only [Act.put, List.getElem_toArray, List.getElem_cons_zero, List.getElem_cons_succ, List.setIfInBounds_toArray, List.set_cons_zero, List.set_cons_succ]
                  have HbV := HbV2
                  clear HbV2
                  refine wpAnyH_ready (rs := [6]) (by kernel_rfl) (by simp) ?_
                  refine AllReadyH.cons (o := _) rfl (fun K hK => ?_) (AllReadyH.nil)
                  refine wp_appI _ _ rfl W1.heap.size _ np (nC p) rfl HO3.out (.slice (some ⟨B1, 0, none⟩) 1 1) 1 [.int .i64 (na : Int)] rfl ⟨rfl, fun u hu => by simp only [List.mem_cons, List.not_mem_nil, or_false] at hu; rcases hu with rfl; rfl, .inr ⟨_, _, rfl, oneC_cells HXq.out⟩⟩ (by omega) HbV.out.size (fun v4 V2 ho hg ha => ?_)
                  have hbV : Below W1.heap.size W1 V2 := HbV.out.trans ((Below.refl _ _).grown hg HbV.out.size (fun k h => (HO3.out.lt k h).1))
                  obtain ⟨a4, d4, e4⟩ := own_form ho
                  subst e4
                  have HO4 := hide ho
                  clear ho hg ha HO3 HXq
                  have HbV2 := hide hbV
                  refine hK.out _ _ (HKs.out _ hbV) (fun hHeld => ?_)
                  clear hK K hbV HbV
                  try simp only [Act.put, List.getElem_toArray, List.getElem_cons_zero, List.getElem_cons_succ, List.setIfInBounds_toArray, List.set_cons_zero, List.set_cons_succ]
                  have HbV := HbV2
                  clear HbV2
                  refine wpAnyH_ready (rs := [8]) (by kernel_rfl) (by simp) ?_
                  refine AllReadyH.cons (o := _) rfl (fun K hK => ?_) AllReadyH.nil
                  go_simp
                  (with_reducible refine Calls.mono (HFin.out _ _ HbV.out HO4.out) ?_)
                  rintro r V7 ⟨v7, rfl, hv, hx⟩
                  replace HbV := hide (HbV.out.trans (hx.mono HbV.out.size))
                  obtain ⟨p1, g1, p2, g2, rfl⟩ := hv.form
                  obtain ⟨mR, hmR⟩ : ∃ mR, mR = R.length := ⟨_, rfl⟩
                  have hv2 : SqS O1 V7 (.agg #[.int .i64 rr, .slice p1 mR g1, .slice p2 mR g2]) ⟨rr, R⟩ := by rw [hmR]; exact hv
                  have HV7 := hide hv2
                  rw [← hmR]
                  clear hv hv2 hx hmR HO4
                  (try go_wp2_with fail)
                  refine hK.out _ _ (HKs.out _ HbV.out) (fun hHeld => ?_)
                  clear hK K
                  try simp only [Act.put, List.getElem_toArray, List.getElem_cons_zero, List.getElem_cons_succ, List.setIfInBounds_toArray, List.set_cons_zero, List.set_cons_succ]
                  obtain ⟨⟨e0, e1, e2⟩, ef⟩ := HCell.out _ HbV.out
                  refine wpAnyH_ready (rs := [9]) (by kernel_rfl) (by simp) ?_
                  refine AllReadyH.cons (o := _) rfl (fun K hK => ?_) AllReadyH.nil
                  go_simp
                  obtain ⟨W9, hW9⟩ : ∃ W9, W9 = ((V7.setCell ⟨B8, 0, none⟩ (.int .i64 rr)).setCell ⟨B8, 1, none⟩ (.slice p1 mR g1)).setCell ⟨B8, 2, none⟩ (.slice p2 mR g2) := ⟨_, rfl⟩
                  have hq9 := HNew.out _ _ _ HbV.out HV7.out W9 hW9
                  rw [← hW9]
                  refine hK.out _ _ (HKz.out _ _ HbV.out hq9.1) (fun hHeld => ?_)
                  clear hK K e0 e1 e2 ef hW9
                  try simp only [Act.put, List.getElem_toArray, List.getElem_cons_zero, List.getElem_cons_succ, List.setIfInBounds_toArray, List.set_cons_zero, List.set_cons_succ]
                  refine wpAnyH_done (by kernel_rfl) ?_ _
                  refine NoPanic.normal ?_
                  clear hHeld
                  have HQ9 := hide hq9
                  clear hq9 HNew HKs HKz HCell HFin HV7 HSc
                  go_wp2_with fail
                  exact ⟨⟨a.app (.cons x kk .nil), rs, _, Hfe2.out, by rw [Hln2.out]; go_num, HQ9.out.2.1, HQ9.out.2.2.1, HQ9.out.2.2.2⟩, by simp [intOf]; omega⟩
              · refine wp_slice0I rfl (fun B0 V2 hB0 hX0 hb => ?_)
                have hbV : Below W1.heap.size W1 V2 := HbV.out.trans (hb.mono HbV.out.size)
                have hO0 : V2.ownsRow W1.heap.size 3 1 (.slice (some ⟨B0, 0, none⟩) 0 0) 0 [] := ⟨rfl, .inr ⟨B0, 0, #[], rfl, by have := HbV.out.size; omega, hX0, Nat.le_refl _, by omega, rfl, rfl⟩⟩
                have HO0 := hide hO0
                clear hO0 hX0 hb hB0
                have HbV2 := hide hbV
                refine hK.out _ _ (HKs.out _ hbV) (fun hHeld => ?_)
                clear hK K hbV HbV
                try simp only [Act.put, List.getElem_toArray, List.getElem_cons_zero, List.getElem_cons_succ, List.setIfInBounds_toArray, List.set_cons_zero, List.set_cons_succ]
                have HbV := HbV2
                clear HbV2
                refine wpAnyH_ready (rs := [0, 3, 5]) (by kernel_rfl) (by simp) ?_
                refine AllReadyH.cons (o := _) rfl (fun K hK => ?_) (AllReadyH.cons (o := _) rfl (fun K hK => ?_) (AllReadyH.cons (o := _) rfl (fun K hK => ?_) (AllReadyH.nil)))
                · obtain ⟨⟨e0, e1, e2⟩, -⟩ := HCell.out _ HbV.out
                  go_simp
                  refine hK.out _ _ (HKs.out _ HbV.out) (fun hHeld => ?_)
                  clear hK K e0 e1 e2
                  try simp only [Act.put, List.getElem_toArray, List.getElem_cons_zero, List.getElem_cons_succ, List.setIfInBounds_toArray, List.set_cons_zero, List.set_cons_succ]
                  refine wpAnyH_ready (rs := [3, 5]) (by kernel_rfl) (by simp) ?_
                  refine AllReadyH.cons (o := _) rfl (fun K hK => ?_) (AllReadyH.cons (o := _) rfl (fun K hK => ?_) (AllReadyH.nil))
                  · refine wp_appI _ _ rfl W1.heap.size _ 0 [] rfl HO0.out (.slice va np vc) np (nC p) rfl (HSc.out _ HbV.out) (by omega) HbV.out.size (fun v3 V2 ho hg ha => ?_)
                    (try simp only [Nat.zero_add, List.nil_append] at ho)
                    have hbV : Below W1.heap.size W1 V2 := HbV.out.trans ((Below.refl _ _).grown hg HbV.out.size (fun k h => (HO0.out.lt k h).1))
                    obtain ⟨a3, d3, e3⟩ := own_form ho
                    subst e3
                    have HO3 := hide ho
                    clear ho hg ha HO0
                    have HbV2 := hide hbV
                    refine hK.out _ _ (HKs.out _ hbV) (fun hHeld => ?_)
                    clear hK K hbV HbV
                    try simp only [Act.put, List.getElem_toArray, List.getElem_cons_zero, List.getElem_cons_succ, List.setIfInBounds_toArray, List.set_cons_zero, List.set_cons_succ]
                    have HbV := HbV2
                    clear HbV2
                    refine wpAnyH_ready (rs := [5]) (by kernel_rfl) (by simp) ?_
                    refine AllReadyH.cons (o := _) rfl (fun K hK => ?_) (AllReadyH.nil)
                    refine wp_slice1I _ rfl (na : Int) rfl (fun B1 V2 hB1 hX1 hb => ?_)
                    have hbV : Below W1.heap.size W1 V2 := HbV.out.trans (hb.mono HbV.out.size)
                    have HXq := hide hX1
                    have hO3 := own_keep HO3.out (w' := V2) (fun k _ hk => hb.block k hk)
                    replace HO3 := hide hO3
                    clear hO3
                    clear hX1 hb hB1
                    have HbV2 := hide hbV
                    refine hK.out _ _ (HKs.out _ hbV) (fun hHeld => ?_)
                    clear hK K hbV HbV
                    try simp only [Act.put, List.getElem_toArray, List.getElem_cons_zero, List.getElem_cons_succ, List.setIfInBounds_toArray, List.set_cons_zero, List.set_cons_succ]
                    have HbV := HbV2
                    clear HbV2
                    refine wpAnyH_ready (rs := [6]) (by kernel_rfl) (by simp) ?_
                    refine AllReadyH.cons (o := _) rfl (fun K hK => ?_) (AllReadyH.nil)
                    refine wp_appI _ _ rfl W1.heap.size _ np (nC p) rfl HO3.out (.slice (some ⟨B1, 0, none⟩) 1 1) 1 [.int .i64 (na : Int)] rfl ⟨rfl, fun u hu => by simp only [List.mem_cons, List.not_mem_nil, or_false] at hu; rcases hu with rfl; rfl, .inr ⟨_, _, rfl, oneC_cells HXq.out⟩⟩ (by omega) HbV.out.size (fun v4 V2 ho hg ha => ?_)
                    have hbV : Below W1.heap.size W1 V2 := HbV.out.trans ((Below.refl _ _).grown hg HbV.out.size (fun k h => (HO3.out.lt k h).1))
                    obtain ⟨a4, d4, e4⟩ := own_form ho
                    subst e4
                    have HO4 := hide ho
                    clear ho hg ha HO3 HXq
                    have HbV2 := hide hbV
                    refine hK.out _ _ (HKs.out _ hbV) (fun hHeld => ?_)
                    clear hK K hbV HbV
                    try simp only [Act.put, List.getElem_toArray, List.getElem_cons_zero, List.getElem_cons_succ, List.setIfInBounds_toArray, List.set_cons_zero, List.set_cons_succ]
                    have HbV := HbV2
                    clear HbV2
                    refine wpAnyH_ready (rs := [8]) (by kernel_rfl) (by simp) ?_
                    refine AllReadyH.cons (o := _) rfl (fun K hK => ?_) AllReadyH.nil
                    go_simp
                    (with_reducible refine Calls.mono (HFin.out _ _ HbV.out HO4.out) ?_)
                    rintro r V7 ⟨v7, rfl, hv, hx⟩
                    replace HbV := hide (HbV.out.trans (hx.mono HbV.out.size))
                    obtain ⟨p1, g1, p2, g2, rfl⟩ := hv.form
                    obtain ⟨mR, hmR⟩ : ∃ mR, mR = R.length := ⟨_, rfl⟩
                    have hv2 : SqS O1 V7 (.agg #[.int .i64 rr, .slice p1 mR g1, .slice p2 mR g2]) ⟨rr, R⟩ := by rw [hmR]; exact hv
                    have HV7 := hide hv2
                    rw [← hmR]
                    clear hv hv2 hx hmR HO4
                    (try go_wp2_with fail)
                    refine hK.out _ _ (HKs.out _ HbV.out) (fun hHeld => ?_)
                    clear hK K
                    try simp only [Act.put, List.getElem_toArray, List.getElem_cons_zero, List.getElem_cons_succ, List.setIfInBounds_toArray, List.set_cons_zero, List.set_cons_succ]
                    obtain ⟨⟨e0, e1, e2⟩, ef⟩ := HCell.out _ HbV.out
                    refine wpAnyH_ready (rs := [9]) (by kernel_rfl) (by simp) ?_
                    refine AllReadyH.cons (o := _) rfl (fun K hK => ?_) AllReadyH.nil
                    go_simp
                    obtain ⟨W9, hW9⟩ : ∃ W9, W9 = ((V7.setCell ⟨B8, 0, none⟩ (.int .i64 rr)).setCell ⟨B8, 1, none⟩ (.slice p1 mR g1)).setCell ⟨B8, 2, none⟩ (.slice p2 mR g2) := ⟨_, rfl⟩
                    have hq9 := HNew.out _ _ _ HbV.out HV7.out W9 hW9
                    rw [← hW9]
                    refine hK.out _ _ (HKz.out _ _ HbV.out hq9.1) (fun hHeld => ?_)
                    clear hK K e0 e1 e2 ef hW9
                    try simp only [Act.put, List.getElem_toArray, List.getElem_cons_zero, List.getElem_cons_succ, List.setIfInBounds_toArray, List.set_cons_zero, List.set_cons_succ]
                    refine wpAnyH_done (by kernel_rfl) ?_ _
                    refine NoPanic.normal ?_
                    clear hHeld
                    have HQ9 := hide hq9
                    clear hq9 HNew HKs HKz HCell HFin HV7 HSc
                    go_wp2_with fail
                    exact ⟨⟨a.app (.cons x kk .nil), rs, _, Hfe2.out, by rw [Hln2.out]; go_num, HQ9.out.2.1, HQ9.out.2.2.1, HQ9.out.2.2.2⟩, by simp [intOf]; omega⟩
                  · refine wp_slice1I _ rfl (na : Int) rfl (fun B1 V2 hB1 hX1 hb => ?_)
                    have hbV : Below W1.heap.size W1 V2 := HbV.out.trans (hb.mono HbV.out.size)
                    have HXq := hide hX1
                    have hNe : B0 ≠ B1 := by have := (HO0.out.lt B0 rfl).2; omega
                    have HNe := hide hNe
                    have hO0 := own_keep HO0.out (w' := V2) (fun k _ hk => hb.block k hk)
                    replace HO0 := hide hO0
                    clear hO0 hNe
                    clear hX1 hb hB1
                    have HbV2 := hide hbV
                    refine hK.out _ _ (HKs.out _ hbV) (fun hHeld => ?_)
                    clear hK K hbV HbV
                    try simp only [Act.put, List.getElem_toArray, List.getElem_cons_zero, List.getElem_cons_succ, List.setIfInBounds_toArray, List.set_cons_zero, List.set_cons_succ]
                    have HbV := HbV2
                    clear HbV2
                    refine wpAnyH_ready (rs := [3]) (by kernel_rfl) (by simp) ?_
                    refine AllReadyH.cons (o := _) rfl (fun K hK => ?_) (AllReadyH.nil)
                    refine wp_appI _ _ rfl W1.heap.size _ 0 [] rfl HO0.out (.slice va np vc) np (nC p) rfl (HSc.out _ HbV.out) (by omega) HbV.out.size (fun v3 V2 ho hg ha => ?_)
                    (try simp only [Nat.zero_add, List.nil_append] at ho)
                    have hbV : Below W1.heap.size W1 V2 := HbV.out.trans ((Below.refl _ _).grown hg HbV.out.size (fun k h => (HO0.out.lt k h).1))
                    have hXq : Bx V2 B1 #[.int .i64 (na : Int)] 3 := (hg.block B1 HXq.out.lt (fun e => HNe.out (by have ee : some B0 = some B1 := e.symm; simpa using ee))).trans HXq.out
                    replace HXq := hide hXq
                    clear hXq
                    obtain ⟨a3, d3, e3⟩ := own_form ho
                    subst e3
                    have HO3 := hide ho
                    clear ho hg ha HO0
                    have HbV2 := hide hbV
                    refine hK.out _ _ (HKs.out _ hbV) (fun hHeld => ?_)
                    clear hK K hbV HbV
                    try simp only [Act.put, List.getElem_toArray, List.getElem_cons_zero, List.getElem_cons_succ, List.setIfInBounds_toArray, List.set_cons_zero, List.set_cons_succ]
                    have HbV := HbV2
                    clear HbV2
                    refine wpAnyH_ready (rs := [6]) (by kernel_rfl) (by simp) ?_
                    refine AllReadyH.cons (o := _) rfl (fun K hK => ?_) (AllReadyH.nil)
                    refine wp_appI _ _ rfl W1.heap.size _ np (nC p) rfl HO3.out (.slice (some ⟨B1, 0, none⟩) 1 1) 1 [.int .i64 (na : Int)] rfl ⟨rfl, fun u hu => by simp only [List.mem_cons, List.not_mem_nil, or_false] at hu; rcases hu with rfl; rfl, .inr ⟨_, _, rfl, oneC_cells HXq.out⟩⟩ (by omega) HbV.out.size (fun v4 V2 ho hg ha => ?_)
                    have hbV : Below W1.heap.size W1 V2 := HbV.out.trans ((Below.refl _ _).grown hg HbV.out.size (fun k h => (HO3.out.lt k h).1))
                    obtain ⟨a4, d4, e4⟩ := own_form ho
                    subst e4
                    have HO4 := hide ho
                    clear ho hg ha HO3 HXq
                    have HbV2 := hide hbV
                    refine hK.out _ _ (HKs.out _ hbV) (fun hHeld => ?_)
                    clear hK K hbV HbV
                    try simp only [Act.put, List.getElem_toArray, List.getElem_cons_zero, List.getElem_cons_succ, List.setIfInBounds_toArray, List.set_cons_zero, List.set_cons_succ]
                    have HbV := HbV2
                    clear HbV2
                    refine wpAnyH_ready (rs := [8]) (by kernel_rfl) (by simp) ?_
                    refine AllReadyH.cons (o := _) rfl (fun K hK => ?_) AllReadyH.nil
                    go_simp
                    (with_reducible refine Calls.mono (HFin.out _ _ HbV.out HO4.out) ?_)
                    rintro r V7 ⟨v7, rfl, hv, hx⟩
                    replace HbV := hide (HbV.out.trans (hx.mono HbV.out.size))
                    obtain ⟨p1, g1, p2, g2, rfl⟩ := hv.form
                    obtain ⟨mR, hmR⟩ : ∃ mR, mR = R.length := ⟨_, rfl⟩
                    have hv2 : SqS O1 V7 (.agg #[.int .i64 rr, .slice p1 mR g1, .slice p2 mR g2]) ⟨rr, R⟩ := by rw [hmR]; exact hv
                    have HV7 := hide hv2
                    rw [← hmR]
                    clear hv hv2 hx hmR HO4
                    (try go_wp2_with fail)
                    refine hK.out _ _ (HKs.out _ HbV.out) (fun hHeld => ?_)
                    clear hK K
                    try simp only [Act.put, List.getElem_toArray, List.getElem_cons_zero, List.getElem_cons_succ, List.setIfInBounds_toArray, List.set_cons_zero, List.set_cons_succ]
                    obtain ⟨⟨e0, e1, e2⟩, ef⟩ := HCell.out _ HbV.out
                    refine wpAnyH_ready (rs := [9]) (by kernel_rfl) (by simp) ?_
                    refine AllReadyH.cons (o := _) rfl (fun K hK => ?_) AllReadyH.nil
                    go_simp
                    obtain ⟨W9, hW9⟩ : ∃ W9, W9 = ((V7.setCell ⟨B8, 0, none⟩ (.int .i64 rr)).setCell ⟨B8, 1, none⟩ (.slice p1 mR g1)).setCell ⟨B8, 2, none⟩ (.slice p2 mR g2) := ⟨_, rfl⟩
                    have hq9 := HNew.out _ _ _ HbV.out HV7.out W9 hW9
                    rw [← hW9]
                    refine hK.out _ _ (HKz.out _ _ HbV.out hq9.1) (fun hHeld => ?_)
                    clear hK K e0 e1 e2 ef hW9
                    try simp only [Act.put, List.getElem_toArray, List.getElem_cons_zero, List.getElem_cons_succ, List.setIfInBounds_toArray, List.set_cons_zero, List.set_cons_succ]
                    refine wpAnyH_done (by kernel_rfl) ?_ _
                    refine NoPanic.normal ?_
                    clear hHeld
                    have HQ9 := hide hq9
                    clear hq9 HNew HKs HKz HCell HFin HV7 HSc
                    go_wp2_with fail
                    exact ⟨⟨a.app (.cons x kk .nil), rs, _, Hfe2.out, by rw [Hln2.out]; go_num, HQ9.out.2.1, HQ9.out.2.2.1, HQ9.out.2.2.2⟩, by simp [intOf]; omega⟩
                · refine wp_appI _ _ rfl W1.heap.size _ 0 [] rfl HO0.out (.slice va np vc) np (nC p) rfl (HSc.out _ HbV.out) (by omega) HbV.out.size (fun v3 V2 ho hg ha => ?_)
                  (try simp only [Nat.zero_add, List.nil_append] at ho)
                  have hbV : Below W1.heap.size W1 V2 := HbV.out.trans ((Below.refl _ _).grown hg HbV.out.size (fun k h => (HO0.out.lt k h).1))
                  obtain ⟨a3, d3, e3⟩ := own_form ho
                  subst e3
                  have HO3 := hide ho
                  clear ho hg ha HO0
                  have HbV2 := hide hbV
                  refine hK.out _ _ (HKs.out _ hbV) (fun hHeld => ?_)
                  clear hK K hbV HbV
                  try simp only [Act.put, List.getElem_toArray, List.getElem_cons_zero, List.getElem_cons_succ, List.setIfInBounds_toArray, List.set_cons_zero, List.set_cons_succ]
                  have HbV := HbV2
                  clear HbV2
                  refine wpAnyH_ready (rs := [0, 5]) (by kernel_rfl) (by simp) ?_
                  refine AllReadyH.cons (o := _) rfl (fun K hK => ?_) (AllReadyH.cons (o := _) rfl (fun K hK => ?_) (AllReadyH.nil))
                  · obtain ⟨⟨e0, e1, e2⟩, -⟩ := HCell.out _ HbV.out
                    go_simp
                    refine hK.out _ _ (HKs.out _ HbV.out) (fun hHeld => ?_)
                    clear hK K e0 e1 e2
                    try simp only [Act.put, List.getElem_toArray, List.getElem_cons_zero, List.getElem_cons_succ, List.setIfInBounds_toArray, List.set_cons_zero, List.set_cons_succ]
                    refine wpAnyH_ready (rs := [5]) (by kernel_rfl) (by simp) ?_
                    refine AllReadyH.cons (o := _) rfl (fun K hK => ?_) (AllReadyH.nil)
                    refine wp_slice1I _ rfl (na : Int) rfl (fun B1 V2 hB1 hX1 hb => ?_)
                    have hbV : Below W1.heap.size W1 V2 := HbV.out.trans (hb.mono HbV.out.size)
                    have HXq := hide hX1
                    have hO3 := own_keep HO3.out (w' := V2) (fun k _ hk => hb.block k hk)
                    replace HO3 := hide hO3
                    clear hO3
                    clear hX1 hb hB1
                    have HbV2 := hide hbV
                    refine hK.out _ _ (HKs.out _ hbV) (fun hHeld => ?_)
                    clear hK K hbV HbV
                    try simp only [Act.put, List.getElem_toArray, List.getElem_cons_zero, List.getElem_cons_succ, List.setIfInBounds_toArray, List.set_cons_zero, List.set_cons_succ]
                    have HbV := HbV2
                    clear HbV2
                    refine wpAnyH_ready (rs := [6]) (by kernel_rfl) (by simp) ?_
                    refine AllReadyH.cons (o := _) rfl (fun K hK => ?_) (AllReadyH.nil)
                    refine wp_appI _ _ rfl W1.heap.size _ np (nC p) rfl HO3.out (.slice (some ⟨B1, 0, none⟩) 1 1) 1 [.int .i64 (na : Int)] rfl ⟨rfl, fun u hu => by simp only [List.mem_cons, List.not_mem_nil, or_false] at hu; rcases hu with rfl; rfl, .inr ⟨_, _, rfl, oneC_cells HXq.out⟩⟩ (by omega) HbV.out.size (fun v4 V2 ho hg ha => ?_)
                    have hbV : Below W1.heap.size W1 V2 := HbV.out.trans ((Below.refl _ _).grown hg HbV.out.size (fun k h => (HO3.out.lt k h).1))
                    obtain ⟨a4, d4, e4⟩ := own_form ho
                    subst e4
                    have HO4 := hide ho
                    clear ho hg ha HO3 HXq
                    have HbV2 := hide hbV
                    refine hK.out _ _ (HKs.out _ hbV) (fun hHeld => ?_)
                    clear hK K hbV HbV
                    try simp only [Act.put, List.getElem_toArray, List.getElem_cons_zero, List.getElem_cons_succ, List.setIfInBounds_toArray, List.set_cons_zero, List.set_cons_succ]
                    have HbV := HbV2
                    clear HbV2
                    refine wpAnyH_ready (rs := [8]) (by kernel_rfl) (by simp) ?_
                    refine AllReadyH.cons (o := _) rfl (fun K hK => ?_) AllReadyH.nil
                    go_simp
                    (with_reducible refine Calls.mono (HFin.out _ _ HbV.out HO4.out) ?_)
                    rintro r V7 ⟨v7, rfl, hv, hx⟩
                    replace HbV := hide (HbV.out.trans (hx.mono HbV.out.size))
                    obtain ⟨p1, g1, p2, g2, rfl⟩ := hv.form
                    obtain ⟨mR, hmR⟩ : ∃ mR, mR = R.length := ⟨_, rfl⟩
                    have hv2 : SqS O1 V7 (.agg #[.int .i64 rr, .slice p1 mR g1, .slice p2 mR g2]) ⟨rr, R⟩ := by rw [hmR]; exact hv
                    have HV7 := hide hv2
                    rw [← hmR]
                    clear hv hv2 hx hmR HO4
                    (try go_wp2_with fail)
                    refine hK.out _ _ (HKs.out _ HbV.out) (fun hHeld => ?_)
                    clear hK K
                    try simp only [Act.put, List.getElem_toArray, List.getElem_cons_zero, List.getElem_cons_succ, List.setIfInBounds_toArray, List.set_cons_zero, List.set_cons_succ]
                    obtain ⟨⟨e0, e1, e2⟩, ef⟩ := HCell.out _ HbV.out
                    refine wpAnyH_ready (rs := [9]) (by kernel_rfl) (by simp) ?_
                    refine AllReadyH.cons (o := _) rfl (fun K hK => ?_) AllReadyH.nil
                    go_simp
                    obtain ⟨W9, hW9⟩ : ∃ W9, W9 = ((V7.setCell ⟨B8, 0, none⟩ (.int .i64 rr)).setCell ⟨B8, 1, none⟩ (.slice p1 mR g1)).setCell ⟨B8, 2, none⟩ (.slice p2 mR g2) := ⟨_, rfl⟩
                    have hq9 := HNew.out _ _ _ HbV.out HV7.out W9 hW9
                    rw [← hW9]
                    refine hK.out _ _ (HKz.out _ _ HbV.out hq9.1) (fun hHeld => ?_)
                    clear hK K e0 e1 e2 ef hW9
                    try simp only [Act.put, List.getElem_toArray, List.getElem_cons_zero, List.getElem_cons_succ, List.setIfInBounds_toArray, List.set_cons_zero, List.set_cons_succ]
                    refine wpAnyH_done (by kernel_rfl) ?_ _
                    refine NoPanic.normal ?_
                    clear hHeld
                    have HQ9 := hide hq9
                    clear hq9 HNew HKs HKz HCell HFin HV7 HSc
                    go_wp2_with fail
                    exact ⟨⟨a.app (.cons x kk .nil), rs, _, Hfe2.out, by rw [Hln2.out]; go_num, HQ9.out.2.1, HQ9.out.2.2.1, HQ9.out.2.2.2⟩, by simp [intOf]; omega⟩
                  · refine wp_slice1I _ rfl (na : Int) rfl (fun B1 V2 hB1 hX1 hb => ?_)
                    have hbV : Below W1.heap.size W1 V2 := HbV.out.trans (hb.mono HbV.out.size)
                    have HXq := hide hX1
                    have hO3 := own_keep HO3.out (w' := V2) (fun k _ hk => hb.block k hk)
                    replace HO3 := hide hO3
                    clear hO3
                    clear hX1 hb hB1
                    have HbV2 := hide hbV
                    refine hK.out _ _ (HKs.out _ hbV) (fun hHeld => ?_)
                    clear hK K hbV HbV
                    try simp only [Act.put, List.getElem_toArray, List.getElem_cons_zero, List.getElem_cons_succ, List.setIfInBounds_toArray, List.set_cons_zero, List.set_cons_succ]
                    have HbV := HbV2
                    clear HbV2
                    refine wpAnyH_ready (rs := [0, 6]) (by kernel_rfl) (by simp) ?_
                    refine AllReadyH.cons (o := _) rfl (fun K hK => ?_) (AllReadyH.cons (o := _) rfl (fun K hK => ?_) (AllReadyH.nil))
                    · obtain ⟨⟨e0, e1, e2⟩, -⟩ := HCell.out _ HbV.out
                      go_simp
                      refine hK.out _ _ (HKs.out _ HbV.out) (fun hHeld => ?_)
                      clear hK K e0 e1 e2
                      try simp only [Act.put, List.getElem_toArray, List.getElem_cons_zero, List.getElem_cons_succ, List.setIfInBounds_toArray, List.set_cons_zero, List.set_cons_succ]
                      refine wpAnyH_ready (rs := [6]) (by kernel_rfl) (by simp) ?_
                      refine AllReadyH.cons (o := _) rfl (fun K hK => ?_) (AllReadyH.nil)
                      refine wp_appI _ _ rfl W1.heap.size _ np (nC p) rfl HO3.out (.slice (some ⟨B1, 0, none⟩) 1 1) 1 [.int .i64 (na : Int)] rfl ⟨rfl, fun u hu => by simp only [List.mem_cons, List.not_mem_nil, or_false] at hu; rcases hu with rfl; rfl, .inr ⟨_, _, rfl, oneC_cells HXq.out⟩⟩ (by omega) HbV.out.size (fun v4 V2 ho hg ha => ?_)
                      have hbV : Below W1.heap.size W1 V2 := HbV.out.trans ((Below.refl _ _).grown hg HbV.out.size (fun k h => (HO3.out.lt k h).1))
                      obtain ⟨a4, d4, e4⟩ := own_form ho
                      subst e4
                      have HO4 := hide ho
                      clear ho hg ha HO3 HXq
                      have HbV2 := hide hbV
                      refine hK.out _ _ (HKs.out _ hbV) (fun hHeld => ?_)
                      clear hK K hbV HbV
                      try simp only [Act.put, List.getElem_toArray, List.getElem_cons_zero, List.getElem_cons_succ, List.setIfInBounds_toArray, List.set_cons_zero, List.set_cons_succ]
                      have HbV := HbV2
                      clear HbV2
                      refine wpAnyH_ready (rs := [8]) (by kernel_rfl) (by simp) ?_
                      refine AllReadyH.cons (o := _) rfl (fun K hK => ?_) AllReadyH.nil
                      go_simp
                      (with_reducible refine Calls.mono (HFin.out _ _ HbV.out HO4.out) ?_)
                      rintro r V7 ⟨v7, rfl, hv, hx⟩
                      replace HbV := hide (HbV.out.trans (hx.mono HbV.out.size))
                      obtain ⟨p1, g1, p2, g2, rfl⟩ := hv.form
                      obtain ⟨mR, hmR⟩ : ∃ mR, mR = R.length := ⟨_, rfl⟩
                      have hv2 : SqS O1 V7 (.agg #[.int .i64 rr, .slice p1 mR g1, .slice p2 mR g2]) ⟨rr, R⟩ := by rw [hmR]; exact hv
                      have HV7 := hide hv2
                      rw [← hmR]
                      clear hv hv2 hx hmR HO4
                      (try go_wp2_with fail)
                      refine hK.out _ _ (HKs.out _ HbV.out) (fun hHeld => ?_)
                      clear hK K
                      try simp only [Act.put, List.getElem_toArray, List.getElem_cons_zero, List.getElem_cons_succ, List.setIfInBounds_toArray, List.set_cons_zero, List.set_cons_succ]
                      obtain ⟨⟨e0, e1, e2⟩, ef⟩ := HCell.out _ HbV.out
                      refine wpAnyH_ready (rs := [9]) (by kernel_rfl) (by simp) ?_
                      refine AllReadyH.cons (o := _) rfl (fun K hK => ?_) AllReadyH.nil
                      go_simp
                      obtain ⟨W9, hW9⟩ : ∃ W9, W9 = ((V7.setCell ⟨B8, 0, none⟩ (.int .i64 rr)).setCell ⟨B8, 1, none⟩ (.slice p1 mR g1)).setCell ⟨B8, 2, none⟩ (.slice p2 mR g2) := ⟨_, rfl⟩
                      have hq9 := HNew.out _ _ _ HbV.out HV7.out W9 hW9
                      rw [← hW9]
                      refine hK.out _ _ (HKz.out _ _ HbV.out hq9.1) (fun hHeld => ?_)
                      clear hK K e0 e1 e2 ef hW9
                      try simp only [Act.put, List.getElem_toArray, List.getElem_cons_zero, List.getElem_cons_succ, List.setIfInBounds_toArray, List.set_cons_zero, List.set_cons_succ]
                      refine wpAnyH_done (by kernel_rfl) ?_ _
                      refine NoPanic.normal ?_
                      clear hHeld
                      have HQ9 := hide hq9
                      clear hq9 HNew HKs HKz HCell HFin HV7 HSc
                      go_wp2_with fail
                      exact ⟨⟨a.app (.cons x kk .nil), rs, _, Hfe2.out, by rw [Hln2.out]; go_num, HQ9.out.2.1, HQ9.out.2.2.1, HQ9.out.2.2.2⟩, by simp [intOf]; omega⟩
                    · refine wp_appI _ _ rfl W1.heap.size _ np (nC p) rfl HO3.out (.slice (some ⟨B1, 0, none⟩) 1 1) 1 [.int .i64 (na : Int)] rfl ⟨rfl, fun u hu => by simp only [List.mem_cons, List.not_mem_nil, or_false] at hu; rcases hu with rfl; rfl, .inr ⟨_, _, rfl, oneC_cells HXq.out⟩⟩ (by omega) HbV.out.size (fun v4 V2 ho hg ha => ?_)
                      have hbV : Below W1.heap.size W1 V2 := HbV.out.trans ((Below.refl _ _).grown hg HbV.out.size (fun k h => (HO3.out.lt k h).1))
                      obtain ⟨a4, d4, e4⟩ := own_form ho
                      subst e4
                      have HO4 := hide ho
                      clear ho hg ha HO3 HXq
                      have HbV2 := hide hbV
                      refine hK.out _ _ (HKs.out _ hbV) (fun hHeld => ?_)
                      clear hK K hbV HbV
                      try simp only [Act.put, List.getElem_toArray, List.getElem_cons_zero, List.getElem_cons_succ, List.setIfInBounds_toArray, List.set_cons_zero, List.set_cons_succ]
                      have HbV := HbV2
                      clear HbV2
                      refine wpAnyH_ready (rs := [0]) (by kernel_rfl) (by simp) ?_
                      refine AllReadyH.cons (o := _) rfl (fun K hK => ?_) (AllReadyH.nil)
                      obtain ⟨⟨e0, e1, e2⟩, -⟩ := HCell.out _ HbV.out
                      go_simp
                      refine hK.out _ _ (HKs.out _ HbV.out) (fun hHeld => ?_)
                      clear hK K e0 e1 e2
                      try simp only [Act.put, List.getElem_toArray, List.getElem_cons_zero, List.getElem_cons_succ, List.setIfInBounds_toArray, List.set_cons_zero, List.set_cons_succ]
                      refine wpAnyH_ready (rs := [8]) (by kernel_rfl) (by simp) ?_
                      refine AllReadyH.cons (o := _) rfl (fun K hK => ?_) AllReadyH.nil
                      go_simp
                      (with_reducible refine Calls.mono (HFin.out _ _ HbV.out HO4.out) ?_)
                      rintro r V7 ⟨v7, rfl, hv, hx⟩
                      replace HbV := hide (HbV.out.trans (hx.mono HbV.out.size))
                      obtain ⟨p1, g1, p2, g2, rfl⟩ := hv.form
                      obtain ⟨mR, hmR⟩ : ∃ mR, mR = R.length := ⟨_, rfl⟩
                      have hv2 : SqS O1 V7 (.agg #[.int .i64 rr, .slice p1 mR g1, .slice p2 mR g2]) ⟨rr, R⟩ := by rw [hmR]; exact hv
                      have HV7 := hide hv2
                      rw [← hmR]
                      clear hv hv2 hx hmR HO4
                      (try go_wp2_with fail)
                      refine hK.out _ _ (HKs.out _ HbV.out) (fun hHeld => ?_)
                      clear hK K
                      try simp only [Act.put, List.getElem_toArray, List.getElem_cons_zero, List.getElem_cons_succ, List.setIfInBounds_toArray, List.set_cons_zero, List.set_cons_succ]
                      obtain ⟨⟨e0, e1, e2⟩, ef⟩ := HCell.out _ HbV.out
                      refine wpAnyH_ready (rs := [9]) (by kernel_rfl) (by simp) ?_
                      refine AllReadyH.cons (o := _) rfl (fun K hK => ?_) AllReadyH.nil
                      go_simp
                      obtain ⟨W9, hW9⟩ : ∃ W9, W9 = ((V7.setCell ⟨B8, 0, none⟩ (.int .i64 rr)).setCell ⟨B8, 1, none⟩ (.slice p1 mR g1)).setCell ⟨B8, 2, none⟩ (.slice p2 mR g2) := ⟨_, rfl⟩
                      have hq9 := HNew.out _ _ _ HbV.out HV7.out W9 hW9
                      rw [← hW9]
                      refine hK.out _ _ (HKz.out _ _ HbV.out hq9.1) (fun hHeld => ?_)
                      clear hK K e0 e1 e2 ef hW9
                      try simp only [Act.put, List.getElem_toArray, List.getElem_cons_zero, List.getElem_cons_succ, List.setIfInBounds_toArray, List.set_cons_zero, List.set_cons_succ]
                      refine wpAnyH_done (by kernel_rfl) ?_ _
                      refine NoPanic.normal ?_
                      clear hHeld
                      have HQ9 := hide hq9
                      clear hq9 HNew HKs HKz HCell HFin HV7 HSc
                      go_wp2_with fail
                      exact ⟨⟨a.app (.cons x kk .nil), rs, _, Hfe2.out, by rw [Hln2.out]; go_num, HQ9.out.2.1, HQ9.out.2.2.1, HQ9.out.2.2.2⟩, by simp [intOf]; omega⟩
                · refine wp_slice1I _ rfl (na : Int) rfl (fun B1 V2 hB1 hX1 hb => ?_)
                  have hbV : Below W1.heap.size W1 V2 := HbV.out.trans (hb.mono HbV.out.size)
                  have HXq := hide hX1
                  have hNe : B0 ≠ B1 := by have := (HO0.out.lt B0 rfl).2; omega
                  have HNe := hide hNe
                  have hO0 := own_keep HO0.out (w' := V2) (fun k _ hk => hb.block k hk)
                  replace HO0 := hide hO0
                  clear hO0 hNe
                  clear hX1 hb hB1
                  have HbV2 := hide hbV
                  refine hK.out _ _ (HKs.out _ hbV) (fun hHeld => ?_)
                  clear hK K hbV HbV
                  try simp only [Act.put, List.getElem_toArray, List.getElem_cons_zero, List.getElem_cons_succ, List.setIfInBounds_toArray, List.set_cons_zero, List.set_cons_succ]
                  have HbV := HbV2
                  clear HbV2
                  refine wpAnyH_ready (rs := [0, 3]) (by kernel_rfl) (by simp) ?_
                  refine AllReadyH.cons (o := _) rfl (fun K hK => ?_) (AllReadyH.cons (o := _) rfl (fun K hK => ?_) (AllReadyH.nil))
                  · obtain ⟨⟨e0, e1, e2⟩, -⟩ := HCell.out _ HbV.out
                    go_simp
                    refine hK.out _ _ (HKs.out _ HbV.out) (fun hHeld => ?_)
                    clear hK K e0 e1 e2
                    try simp only [Act.put, List.getElem_toArray, List.getElem_cons_zero, List.getElem_cons_succ, List.setIfInBounds_toArray, List.set_cons_zero, List.set_cons_succ]
                    refine wpAnyH_ready (rs := [3]) (by kernel_rfl) (by simp) ?_
                    refine AllReadyH.cons (o := _) rfl (fun K hK => ?_) (AllReadyH.nil)
                    refine wp_appI _ _ rfl W1.heap.size _ 0 [] rfl HO0.out (.slice va np vc) np (nC p) rfl (HSc.out _ HbV.out) (by omega) HbV.out.size (fun v3 V2 ho hg ha => ?_)
                    (try simp only [Nat.zero_add, List.nil_append] at ho)
                    have hbV : Below W1.heap.size W1 V2 := HbV.out.trans ((Below.refl _ _).grown hg HbV.out.size (fun k h => (HO0.out.lt k h).1))
                    have hXq : Bx V2 B1 #[.int .i64 (na : Int)] 3 := (hg.block B1 HXq.out.lt (fun e => HNe.out (by have ee : some B0 = some B1 := e.symm; simpa using ee))).trans HXq.out
                    replace HXq := hide hXq
                    clear hXq
                    obtain ⟨a3, d3, e3⟩ := own_form ho
                    subst e3
                    have HO3 := hide ho
                    clear ho hg ha HO0
                    have HbV2 := hide hbV
                    refine hK.out _ _ (HKs.out _ hbV) (fun hHeld => ?_)
                    clear hK K hbV HbV
                    try simp only [Act.put, List.getElem_toArray, List.getElem_cons_zero, List.getElem_cons_succ, List.setIfInBounds_toArray, List.set_cons_zero, List.set_cons_succ]
                    have HbV := HbV2
                    clear HbV2
                    refine wpAnyH_ready (rs := [6]) (by kernel_rfl) (by simp) ?_
                    refine AllReadyH.cons (o := _) rfl (fun K hK => ?_) (AllReadyH.nil)
                    refine wp_appI _ _ rfl W1.heap.size _ np (nC p) rfl HO3.out (.slice (some ⟨B1, 0, none⟩) 1 1) 1 [.int .i64 (na : Int)] rfl ⟨rfl, fun u hu => by simp only [List.mem_cons, List.not_mem_nil, or_false] at hu; rcases hu with rfl; rfl, .inr ⟨_, _, rfl, oneC_cells HXq.out⟩⟩ (by omega) HbV.out.size (fun v4 V2 ho hg ha => ?_)
                    have hbV : Below W1.heap.size W1 V2 := HbV.out.trans ((Below.refl _ _).grown hg HbV.out.size (fun k h => (HO3.out.lt k h).1))
                    obtain ⟨a4, d4, e4⟩ := own_form ho
                    subst e4
                    have HO4 := hide ho
                    clear ho hg ha HO3 HXq
                    have HbV2 := hide hbV
                    refine hK.out _ _ (HKs.out _ hbV) (fun hHeld => ?_)
                    clear hK K hbV HbV
                    try simp only [Act.put, List.getElem_toArray, List.getElem_cons_zero, List.getElem_cons_succ, List.setIfInBounds_toArray, List.set_cons_zero, List.set_cons_succ]
                    have HbV := HbV2
                    clear HbV2
                    refine wpAnyH_ready (rs := [8]) (by kernel_rfl) (by simp) ?_
                    refine AllReadyH.cons (o := _) rfl (fun K hK => ?_) AllReadyH.nil
                    go_simp
                    (with_reducible refine Calls.mono (HFin.out _ _ HbV.out HO4.out) ?_)
                    rintro r V7 ⟨v7, rfl, hv, hx⟩
                    replace HbV := hide (HbV.out.trans (hx.mono HbV.out.size))
                    obtain ⟨p1, g1, p2, g2, rfl⟩ := hv.form
                    obtain ⟨mR, hmR⟩ : ∃ mR, mR = R.length := ⟨_, rfl⟩
                    have hv2 : SqS O1 V7 (.agg #[.int .i64 rr, .slice p1 mR g1, .slice p2 mR g2]) ⟨rr, R⟩ := by rw [hmR]; exact hv
                    have HV7 := hide hv2
                    rw [← hmR]
                    clear hv hv2 hx hmR HO4
                    (try go_wp2_with fail)
                    refine hK.out _ _ (HKs.out _ HbV.out) (fun hHeld => ?_)
                    clear hK K
                    try simp only [Act.put, List.getElem_toArray, List.getElem_cons_zero, List.getElem_cons_succ, List.setIfInBounds_toArray, List.set_cons_zero, List.set_cons_succ]
                    obtain ⟨⟨e0, e1, e2⟩, ef⟩ := HCell.out _ HbV.out
                    refine wpAnyH_ready (rs := [9]) (by kernel_rfl) (by simp) ?_
                    refine AllReadyH.cons (o := _) rfl (fun K hK => ?_) AllReadyH.nil
                    go_simp
                    obtain ⟨W9, hW9⟩ : ∃ W9, W9 = ((V7.setCell ⟨B8, 0, none⟩ (.int .i64 rr)).setCell ⟨B8, 1, none⟩ (.slice p1 mR g1)).setCell ⟨B8, 2, none⟩ (.slice p2 mR g2) := ⟨_, rfl⟩
                    have hq9 := HNew.out _ _ _ HbV.out HV7.out W9 hW9
                    rw [← hW9]
                    refine hK.out _ _ (HKz.out _ _ HbV.out hq9.1) (fun hHeld => ?_)
                    clear hK K e0 e1 e2 ef hW9
                    try simp only [Act.put, List.getElem_toArray, List.getElem_cons_zero, List.getElem_cons_succ, List.setIfInBounds_toArray, List.set_cons_zero, List.set_cons_succ]
                    refine wpAnyH_done (by kernel_rfl) ?_ _
                    refine NoPanic.normal ?_
                    clear hHeld
                    have HQ9 := hide hq9
                    clear hq9 HNew HKs HKz HCell HFin HV7 HSc
                    go_wp2_with fail
                    exact ⟨⟨a.app (.cons x kk .nil), rs, _, Hfe2.out, by rw [Hln2.out]; go_num, HQ9.out.2.1, HQ9.out.2.2.1, HQ9.out.2.2.2⟩, by simp [intOf]; omega⟩
                  · refine wp_appI _ _ rfl W1.heap.size _ 0 [] rfl HO0.out (.slice va np vc) np (nC p) rfl (HSc.out _ HbV.out) (by omega) HbV.out.size (fun v3 V2 ho hg ha => ?_)
                    (try simp only [Nat.zero_add, List.nil_append] at ho)
                    have hbV : Below W1.heap.size W1 V2 := HbV.out.trans ((Below.refl _ _).grown hg HbV.out.size (fun k h => (HO0.out.lt k h).1))
                    have hXq : Bx V2 B1 #[.int .i64 (na : Int)] 3 := (hg.block B1 HXq.out.lt (fun e => HNe.out (by have ee : some B0 = some B1 := e.symm; simpa using ee))).trans HXq.out
                    replace HXq := hide hXq
                    clear hXq
                    obtain ⟨a3, d3, e3⟩ := own_form ho
                    subst e3
                    have HO3 := hide ho
                    clear ho hg ha HO0
                    have HbV2 := hide hbV
                    refine hK.out _ _ (HKs.out _ hbV) (fun hHeld => ?_)
                    clear hK K hbV HbV
                    try simp only [Act.put, List.getElem_toArray, List.getElem_cons_zero, List.getElem_cons_succ, List.setIfInBounds_toArray, List.set_cons_zero, List.set_cons_succ]
                    have HbV := HbV2
                    clear HbV2
                    refine wpAnyH_ready (rs := [0, 6]) (by kernel_rfl) (by simp) ?_
                    refine AllReadyH.cons (o := _) rfl (fun K hK => ?_) (AllReadyH.cons (o := _) rfl (fun K hK => ?_) (AllReadyH.nil))
                    · obtain ⟨⟨e0, e1, e2⟩, -⟩ := HCell.out _ HbV.out
                      go_simp
                      refine hK.out _ _ (HKs.out _ HbV.out) (fun hHeld => ?_)
                      clear hK K e0 e1 e2
                      try simp only [Act.put, List.getElem_toArray, List.getElem_cons_zero, List.getElem_cons_succ, List.setIfInBounds_toArray, List.set_cons_zero, List.set_cons_succ]
                      refine wpAnyH_ready (rs := [6]) (by kernel_rfl) (by simp) ?_
                      refine AllReadyH.cons (o := _) rfl (fun K hK => ?_) (AllReadyH.nil)
                      refine wp_appI _ _ rfl W1.heap.size _ np (nC p) rfl HO3.out (.slice (some ⟨B1, 0, none⟩) 1 1) 1 [.int .i64 (na : Int)] rfl ⟨rfl, fun u hu => by simp only [List.mem_cons, List.not_mem_nil, or_false] at hu; rcases hu with rfl; rfl, .inr ⟨_, _, rfl, oneC_cells HXq.out⟩⟩ (by omega) HbV.out.size (fun v4 V2 ho hg ha => ?_)
                      have hbV : Below W1.heap.size W1 V2 := HbV.out.trans ((Below.refl _ _).grown hg HbV.out.size (fun k h => (HO3.out.lt k h).1))
                      obtain ⟨a4, d4, e4⟩ := own_form ho
                      subst e4
                      have HO4 := hide ho
                      clear ho hg ha HO3 HXq
                      have HbV2 := hide hbV
                      refine hK.out _ _ (HKs.out _ hbV) (fun hHeld => ?_)
                      clear hK K hbV HbV
                      try simp only [Act.put, List.getElem_toArray, List.getElem_cons_zero, List.getElem_cons_succ, List.setIfInBounds_toArray, List.set_cons_zero, List.set_cons_succ]
                      have HbV := HbV2
                      clear HbV2
                      refine wpAnyH_ready (rs := [8]) (by kernel_rfl) (by simp) ?_
                      refine AllReadyH.cons (o := _) rfl (fun K hK => ?_) AllReadyH.nil
                      go_simp
                      (with_reducible refine Calls.mono (HFin.out _ _ HbV.out HO4.out) ?_)
                      rintro r V7 ⟨v7, rfl, hv, hx⟩
                      replace HbV := hide (HbV.out.trans (hx.mono HbV.out.size))
                      obtain ⟨p1, g1, p2, g2, rfl⟩ := hv.form
                      obtain ⟨mR, hmR⟩ : ∃ mR, mR = R.length := ⟨_, rfl⟩
                      have hv2 : SqS O1 V7 (.agg #[.int .i64 rr, .slice p1 mR g1, .slice p2 mR g2]) ⟨rr, R⟩ := by rw [hmR]; exact hv
                      have HV7 := hide hv2
                      rw [← hmR]
                      clear hv hv2 hx hmR HO4
                      (try go_wp2_with fail)
                      refine hK.out _ _ (HKs.out _ HbV.out) (fun hHeld => ?_)
                      clear hK K
                      try simp only [Act.put, List.getElem_toArray, List.getElem_cons_zero, List.getElem_cons_succ, List.setIfInBounds_toArray, List.set_cons_zero, List.set_cons_succ]
                      obtain ⟨⟨e0, e1, e2⟩, ef⟩ := HCell.out _ HbV.out
                      refine wpAnyH_ready (rs := [9]) (by kernel_rfl) (by simp) ?_
                      refine AllReadyH.cons (o := _) rfl (fun K hK => ?_) AllReadyH.nil
                      go_simp
                      obtain ⟨W9, hW9⟩ : ∃ W9, W9 = ((V7.setCell ⟨B8, 0, none⟩ (.int .i64 rr)).setCell ⟨B8, 1, none⟩ (.slice p1 mR g1)).setCell ⟨B8, 2, none⟩ (.slice p2 mR g2) := ⟨_, rfl⟩
                      have hq9 := HNew.out _ _ _ HbV.out HV7.out W9 hW9
                      rw [← hW9]
                      refine hK.out _ _ (HKz.out _ _ HbV.out hq9.1) (fun hHeld => ?_)
                      clear hK K e0 e1 e2 ef hW9
                      try simp only [Act.put, List.getElem_toArray, List.getElem_cons_zero, List.getElem_cons_succ, List.setIfInBounds_toArray, List.set_cons_zero, List.set_cons_succ]
                      refine wpAnyH_done (by kernel_rfl) ?_ _
                      refine NoPanic.normal ?_
                      clear hHeld
                      have HQ9 := hide hq9
                      clear hq9 HNew HKs HKz HCell HFin HV7 HSc
                      go_wp2_with fail
                      exact ⟨⟨a.app (.cons x kk .nil), rs, _, Hfe2.out, by rw [Hln2.out]; go_num, HQ9.out.2.1, HQ9.out.2.2.1, HQ9.out.2.2.2⟩, by simp [intOf]; omega⟩
                    · refine wp_appI _ _ rfl W1.heap.size _ np (nC p) rfl HO3.out (.slice (some ⟨B1, 0, none⟩) 1 1) 1 [.int .i64 (na : Int)] rfl ⟨rfl, fun u hu => by simp only [List.mem_cons, List.not_mem_nil, or_false] at hu; rcases hu with rfl; rfl, .inr ⟨_, _, rfl, oneC_cells HXq.out⟩⟩ (by omega) HbV.out.size (fun v4 V2 ho hg ha => ?_)
                      have hbV : Below W1.heap.size W1 V2 := HbV.out.trans ((Below.refl _ _).grown hg HbV.out.size (fun k h => (HO3.out.lt k h).1))
                      obtain ⟨a4, d4, e4⟩ := own_form ho
                      subst e4
                      have HO4 := hide ho
                      clear ho hg ha HO3 HXq
                      have HbV2 := hide hbV
                      refine hK.out _ _ (HKs.out _ hbV) (fun hHeld => ?_)
                      clear hK K hbV HbV
                      try simp only [Act.put, List.getElem_toArray, List.getElem_cons_zero, List.getElem_cons_succ, List.setIfInBounds_toArray, List.set_cons_zero, List.set_cons_succ]
                      have HbV := HbV2
                      clear HbV2
                      refine wpAnyH_ready (rs := [0]) (by kernel_rfl) (by simp) ?_
                      refine AllReadyH.cons (o := _) rfl (fun K hK => ?_) (AllReadyH.nil)
                      obtain ⟨⟨e0, e1, e2⟩, -⟩ := HCell.out _ HbV.out
                      go_simp
                      refine hK.out _ _ (HKs.out _ HbV.out) (fun hHeld => ?_)
                      clear hK K e0 e1 e2
                      try simp only [Act.put, List.getElem_toArray, List.getElem_cons_zero, List.getElem_cons_succ, List.setIfInBounds_toArray, List.set_cons_zero, List.set_cons_succ]
                      refine wpAnyH_ready (rs := [8]) (by kernel_rfl) (by simp) ?_
                      refine AllReadyH.cons (o := _) rfl (fun K hK => ?_) AllReadyH.nil
                      go_simp
                      (with_reducible refine Calls.mono (HFin.out _ _ HbV.out HO4.out) ?_)
                      rintro r V7 ⟨v7, rfl, hv, hx⟩
                      replace HbV := hide (HbV.out.trans (hx.mono HbV.out.size))
                      obtain ⟨p1, g1, p2, g2, rfl⟩ := hv.form
                      obtain ⟨mR, hmR⟩ : ∃ mR, mR = R.length := ⟨_, rfl⟩
                      have hv2 : SqS O1 V7 (.agg #[.int .i64 rr, .slice p1 mR g1, .slice p2 mR g2]) ⟨rr, R⟩ := by rw [hmR]; exact hv
                      have HV7 := hide hv2
                      rw [← hmR]
                      clear hv hv2 hx hmR HO4
                      (try go_wp2_with fail)
                      refine hK.out _ _ (HKs.out _ HbV.out) (fun hHeld => ?_)
                      clear hK K
                      try simp only [Act.put, List.getElem_toArray, List.getElem_cons_zero, List.getElem_cons_succ, List.setIfInBounds_toArray, List.set_cons_zero, List.set_cons_succ]
                      obtain ⟨⟨e0, e1, e2⟩, ef⟩ := HCell.out _ HbV.out
                      refine wpAnyH_ready (rs := [9]) (by kernel_rfl) (by simp) ?_
                      refine AllReadyH.cons (o := _) rfl (fun K hK => ?_) AllReadyH.nil
                      go_simp
                      obtain ⟨W9, hW9⟩ : ∃ W9, W9 = ((V7.setCell ⟨B8, 0, none⟩ (.int .i64 rr)).setCell ⟨B8, 1, none⟩ (.slice p1 mR g1)).setCell ⟨B8, 2, none⟩ (.slice p2 mR g2) := ⟨_, rfl⟩
                      have hq9 := HNew.out _ _ _ HbV.out HV7.out W9 hW9
                      rw [← hW9]
                      refine hK.out _ _ (HKz.out _ _ HbV.out hq9.1) (fun hHeld => ?_)
                      clear hK K e0 e1 e2 ef hW9
                      try simp only [Act.put, List.getElem_toArray, List.getElem_cons_zero, List.getElem_cons_succ, List.setIfInBounds_toArray, List.set_cons_zero, List.set_cons_succ]
                      refine wpAnyH_done (by kernel_rfl) ?_ _
                      refine NoPanic.normal ?_
                      clear hHeld
                      have HQ9 := hide hq9
                      clear hq9 HNew HKs HKz HCell HFin HV7 HSc
                      go_wp2_with fail
                      exact ⟨⟨a.app (.cons x kk .nil), rs, _, Hfe2.out, by rw [Hln2.out]; go_num, HQ9.out.2.1, HQ9.out.2.2.1, HQ9.out.2.2.2⟩, by simp [intOf]; omega⟩
              · refine wp_slice1I _ rfl (na : Int) rfl (fun B1 V2 hB1 hX1 hb => ?_)
                have hbV : Below W1.heap.size W1 V2 := HbV.out.trans (hb.mono HbV.out.size)
                have HXq := hide hX1
                clear hX1 hb hB1
                have HbV2 := hide hbV
                refine hK.out _ _ (HKs.out _ hbV) (fun hHeld => ?_)
                clear hK K hbV HbV
                try simp only [Act.put, List.getElem_toArray, List.getElem_cons_zero, List.getElem_cons_succ, List.setIfInBounds_toArray, List.set_cons_zero, List.set_cons_succ]
                have HbV := HbV2
                clear HbV2
                refine wpAnyH_ready (rs := [0, 1]) (by kernel_rfl) (by simp) ?_
                refine AllReadyH.cons (o := _) rfl (fun K hK => ?_) (AllReadyH.cons (o := _) rfl (fun K hK => ?_) (AllReadyH.nil))
                · obtain ⟨⟨e0, e1, e2⟩, -⟩ := HCell.out _ HbV.out
                  go_simp
                  refine hK.out _ _ (HKs.out _ HbV.out) (fun hHeld => ?_)
                  clear hK K e0 e1 e2
                  try simp only [Act.put, List.getElem_toArray, List.getElem_cons_zero, List.getElem_cons_succ, List.setIfInBounds_toArray, List.set_cons_zero, List.set_cons_succ]
                  refine wpAnyH_ready (rs := [1]) (by kernel_rfl) (by simp) ?_
                  refine AllReadyH.cons (o := _) rfl (fun K hK => ?_) (AllReadyH.nil)
                  refine wp_slice0I rfl (fun B0 V2 hB0 hX0 hb => ?_)
                  have hbV : Below W1.heap.size W1 V2 := HbV.out.trans (hb.mono HbV.out.size)
                  have hO0 : V2.ownsRow W1.heap.size 3 1 (.slice (some ⟨B0, 0, none⟩) 0 0) 0 [] := ⟨rfl, .inr ⟨B0, 0, #[], rfl, by have := HbV.out.size; omega, hX0, Nat.le_refl _, by omega, rfl, rfl⟩⟩
                  have hXq := HXq.out.below hb HXq.out.lt
                  have hNe : B0 ≠ B1 := by have := HXq.out.lt; omega
                  replace HXq := hide hXq
                  have HNe := hide hNe
                  clear hXq hNe
                  have HO0 := hide hO0
                  clear hO0 hX0 hb hB0
                  have HbV2 := hide hbV
                  refine hK.out _ _ (HKs.out _ hbV) (fun hHeld => ?_)
                  clear hK K hbV HbV
                  try simp only [Act.put, List.getElem_toArray, List.getElem_cons_zero, List.getElem_cons_succ, List.setIfInBounds_toArray, List.set_cons_zero, List.set_cons_succ]
                  have HbV := HbV2
                  clear HbV2
                  refine wpAnyH_ready (rs := [3]) (by kernel_rfl) (by simp) ?_
                  refine AllReadyH.cons (o := _) rfl (fun K hK => ?_) (AllReadyH.nil)
                  refine wp_appI _ _ rfl W1.heap.size _ 0 [] rfl HO0.out (.slice va np vc) np (nC p) rfl (HSc.out _ HbV.out) (by omega) HbV.out.size (fun v3 V2 ho hg ha => ?_)
                  (try simp only [Nat.zero_add, List.nil_append] at ho)
                  have hbV : Below W1.heap.size W1 V2 := HbV.out.trans ((Below.refl _ _).grown hg HbV.out.size (fun k h => (HO0.out.lt k h).1))
                  have hXq : Bx V2 B1 #[.int .i64 (na : Int)] 3 := (hg.block B1 HXq.out.lt (fun e => HNe.out (by have ee : some B0 = some B1 := e.symm; simpa using ee))).trans HXq.out
                  replace HXq := hide hXq
                  clear hXq
                  obtain ⟨a3, d3, e3⟩ := own_form ho
                  subst e3
                  have HO3 := hide ho
                  clear ho hg ha HO0
                  have HbV2 := hide hbV
                  refine hK.out _ _ (HKs.out _ hbV) (fun hHeld => ?_)
                  clear hK K hbV HbV
                  try simp only [Act.put, List.getElem_toArray, List.getElem_cons_zero, List.getElem_cons_succ, List.setIfInBounds_toArray, List.set_cons_zero, List.set_cons_succ]
                  have HbV := HbV2
                  clear HbV2
                  refine wpAnyH_ready (rs := [6]) (by kernel_rfl) (by simp) ?_
                  refine AllReadyH.cons (o := _) rfl (fun K hK => ?_) (AllReadyH.nil)
                  refine wp_appI _ _ rfl W1.heap.size _ np (nC p) rfl HO3.out (.slice (some ⟨B1, 0, none⟩) 1 1) 1 [.int .i64 (na : Int)] rfl ⟨rfl, fun u hu => by simp only [List.mem_cons, List.not_mem_nil, or_false] at hu; rcases hu with rfl; rfl, .inr ⟨_, _, rfl, oneC_cells HXq.out⟩⟩ (by omega) HbV.out.size (fun v4 V2 ho hg ha => ?_)
                  have hbV : Below W1.heap.size W1 V2 := HbV.out.trans ((Below.refl _ _).grown hg HbV.out.size (fun k h => (HO3.out.lt k h).1))
                  obtain ⟨a4, d4, e4⟩ := own_form ho
                  subst e4
                  have HO4 := hide ho
                  clear ho hg ha HO3 HXq
                  have HbV2 := hide hbV
                  refine hK.out _ _ (HKs.out _ hbV) (fun hHeld => ?_)
                  clear hK K hbV HbV
                  try simp only [Act.put, List.getElem_toArray, List.getElem_cons_zero, List.getElem_cons_succ, List.setIfInBounds_toArray, List.set_cons_zero, List.set_cons_succ]
                  have HbV := HbV2
                  clear HbV2
                  refine wpAnyH_ready (rs := [8]) (by kernel_rfl) (by simp) ?_
                  refine AllReadyH.cons (o := _) rfl (fun K hK => ?_) AllReadyH.nil
                  go_simp
                  (with_reducible refine Calls.mono (HFin.out _ _ HbV.out HO4.out) ?_)
                  rintro r V7 ⟨v7, rfl, hv, hx⟩
                  replace HbV := hide (HbV.out.trans (hx.mono HbV.out.size))
                  obtain ⟨p1, g1, p2, g2, rfl⟩ := hv.form
                  obtain ⟨mR, hmR⟩ : ∃ mR, mR = R.length := ⟨_, rfl⟩
                  have hv2 : SqS O1 V7 (.agg #[.int .i64 rr, .slice p1 mR g1, .slice p2 mR g2]) ⟨rr, R⟩ := by rw [hmR]; exact hv
                  have HV7 := hide hv2
                  rw [← hmR]
                  clear hv hv2 hx hmR HO4
                  (try go_wp2_with fail)
                  refine hK.out _ _ (HKs.out _ HbV.out) (fun hHeld => ?_)
                  clear hK K
                  try simp only [Act.put, List.getElem_toArray, List.getElem_cons_zero, List.getElem_cons_succ, List.setIfInBounds_toArray, List.set_cons_zero, List.set_cons_succ]
                  obtain ⟨⟨e0, e1, e2⟩, ef⟩ := HCell.out _ HbV.out
                  refine wpAnyH_ready (rs := [9]) (by kernel_rfl) (by simp) ?_
                  refine AllReadyH.cons (o := _) rfl (fun K hK => ?_) AllReadyH.nil
                  go_simp
                  obtain ⟨W9, hW9⟩ : ∃ W9, W9 = ((V7.setCell ⟨B8, 0, none⟩ (.int .i64 rr)).setCell ⟨B8, 1, none⟩ (.slice p1 mR g1)).setCell ⟨B8, 2, none⟩ (.slice p2 mR g2) := ⟨_, rfl⟩
                  have hq9 := HNew.out _ _ _ HbV.out HV7.out W9 hW9
                  rw [← hW9]
                  refine hK.out _ _ (HKz.out _ _ HbV.out hq9.1) (fun hHeld => ?_)
                  clear hK K e0 e1 e2 ef hW9
                  try simp only [Act.put, List.getElem_toArray, List.getElem_cons_zero, List.getElem_cons_succ, List.setIfInBounds_toArray, List.set_cons_zero, List.set_cons_succ]
                  refine wpAnyH_done (by kernel_rfl) ?_ _
                  refine NoPanic.normal ?_
                  clear hHeld
                  have HQ9 := hide hq9
                  clear hq9 HNew HKs HKz HCell HFin HV7 HSc
                  go_wp2_with fail
                  exact ⟨⟨a.app (.cons x kk .nil), rs, _, Hfe2.out, by rw [Hln2.out]; go_num, HQ9.out.2.1, HQ9.out.2.2.1, HQ9.out.2.2.2⟩, by simp [intOf]; omega⟩
                · refine wp_slice0I rfl (fun B0 V2 hB0 hX0 hb => ?_)
                  have hbV : Below W1.heap.size W1 V2 := HbV.out.trans (hb.mono HbV.out.size)
                  have hO0 : V2.ownsRow W1.heap.size 3 1 (.slice (some ⟨B0, 0, none⟩) 0 0) 0 [] := ⟨rfl, .inr ⟨B0, 0, #[], rfl, by have := HbV.out.size; omega, hX0, Nat.le_refl _, by omega, rfl, rfl⟩⟩
                  have hXq := HXq.out.below hb HXq.out.lt
                  have hNe : B0 ≠ B1 := by have := HXq.out.lt; omega
                  replace HXq := hide hXq
                  have HNe := hide hNe
                  clear hXq hNe
                  have HO0 := hide hO0
                  clear hO0 hX0 hb hB0
                  have HbV2 := hide hbV
                  refine hK.out _ _ (HKs.out _ hbV) (fun hHeld => ?_)
                  clear hK K hbV HbV
                  try simp only [Act.put, List.getElem_toArray, List.getElem_cons_zero, List.getElem_cons_succ, List.setIfInBounds_toArray, List.set_cons_zero, List.set_cons_succ]
                  have HbV := HbV2
                  clear HbV2
                  refine wpAnyH_ready (rs := [0, 3]) (by kernel_rfl) (by simp) ?_
                  refine AllReadyH.cons (o := _) rfl (fun K hK => ?_) (AllReadyH.cons (o := _) rfl (fun K hK => ?_) (AllReadyH.nil))
                  · obtain ⟨⟨e0, e1, e2⟩, -⟩ := HCell.out _ HbV.out
                    go_simp
                    refine hK.out _ _ (HKs.out _ HbV.out) (fun hHeld => ?_)
                    clear hK K e0 e1 e2
                    try simp only [Act.put, List.getElem_toArray, List.getElem_cons_zero, List.getElem_cons_succ, List.setIfInBounds_toArray, List.set_cons_zero, List.set_cons_succ]
                    refine wpAnyH_ready (rs := [3]) (by kernel_rfl) (by simp) ?_
                    refine AllReadyH.cons (o := _) rfl (fun K hK => ?_) (AllReadyH.nil)
                    refine wp_appI _ _ rfl W1.heap.size _ 0 [] rfl HO0.out (.slice va np vc) np (nC p) rfl (HSc.out _ HbV.out) (by omega) HbV.out.size (fun v3 V2 ho hg ha => ?_)
                    (try simp only [Nat.zero_add, List.nil_append] at ho)
                    have hbV : Below W1.heap.size W1 V2 := HbV.out.trans ((Below.refl _ _).grown hg HbV.out.size (fun k h => (HO0.out.lt k h).1))
                    have hXq : Bx V2 B1 #[.int .i64 (na : Int)] 3 := (hg.block B1 HXq.out.lt (fun e => HNe.out (by have ee : some B0 = some B1 := e.symm; simpa using ee))).trans HXq.out
                    replace HXq := hide hXq
                    clear hXq
                    obtain ⟨a3, d3, e3⟩ := own_form ho
                    subst e3
                    have HO3 := hide ho
                    clear ho hg ha HO0
                    have HbV2 := hide hbV
                    refine hK.out _ _ (HKs.out _ hbV) (fun hHeld => ?_)
                    clear hK K hbV HbV
                    try simp only [Act.put, List.getElem_toArray, List.getElem_cons_zero, List.getElem_cons_succ, List.setIfInBounds_toArray, List.set_cons_zero, List.set_cons_succ]
                    have HbV := HbV2
                    clear HbV2
                    refine wpAnyH_ready (rs := [6]) (by kernel_rfl) (by simp) ?_
                    refine AllReadyH.cons (o := _) rfl (fun K hK => ?_) (AllReadyH.nil)
                    refine wp_appI _ _ rfl W1.heap.size _ np (nC p) rfl HO3.out (.slice (some ⟨B1, 0, none⟩) 1 1) 1 [.int .i64 (na : Int)] rfl ⟨rfl, fun u hu => by simp only [List.mem_cons, List.not_mem_nil, or_false] at hu; rcases hu with rfl; rfl, .inr ⟨_, _, rfl, oneC_cells HXq.out⟩⟩ (by omega) HbV.out.size (fun v4 V2 ho hg ha => ?_)
                    have hbV : Below W1.heap.size W1 V2 := HbV.out.trans ((Below.refl _ _).grown hg HbV.out.size (fun k h => (HO3.out.lt k h).1))
                    obtain ⟨a4, d4, e4⟩ := own_form ho
                    subst e4
                    have HO4 := hide ho
                    clear ho hg ha HO3 HXq
                    have HbV2 := hide hbV
                    refine hK.out _ _ (HKs.out _ hbV) (fun hHeld => ?_)
                    clear hK K hbV HbV
                    try simp only [Act.put, List.getElem_toArray, List.getElem_cons_zero, List.getElem_cons_succ, List.setIfInBounds_toArray, List.set_cons_zero, List.set_cons_succ]
                    have HbV := HbV2
                    clear HbV2
                    refine wpAnyH_ready (rs := [8]) (by kernel_rfl) (by simp) ?_
                    refine AllReadyH.cons (o := _) rfl (fun K hK => ?_) AllReadyH.nil
                    go_simp
                    (with_reducible refine Calls.mono (HFin.out _ _ HbV.out HO4.out) ?_)
                    rintro r V7 ⟨v7, rfl, hv, hx⟩
                    replace HbV := hide (HbV.out.trans (hx.mono HbV.out.size))
                    obtain ⟨p1, g1, p2, g2, rfl⟩ := hv.form
                    obtain ⟨mR, hmR⟩ : ∃ mR, mR = R.length := ⟨_, rfl⟩
                    have hv2 : SqS O1 V7 (.agg #[.int .i64 rr, .slice p1 mR g1, .slice p2 mR g2]) ⟨rr, R⟩ := by rw [hmR]; exact hv
                    have HV7 := hide hv2
                    rw [← hmR]
                    clear hv hv2 hx hmR HO4
                    (try go_wp2_with fail)
                    refine hK.out _ _ (HKs.out _ HbV.out) (fun hHeld => ?_)
                    clear hK K
                    try simp only [Act.put, List.getElem_toArray, List.getElem_cons_zero, List.getElem_cons_succ, List.setIfInBounds_toArray, List.set_cons_zero, List.set_cons_succ]
                    obtain ⟨⟨e0, e1, e2⟩, ef⟩ := HCell.out _ HbV.out
                    refine wpAnyH_ready (rs := [9]) (by kernel_rfl) (by simp) ?_
                    refine AllReadyH.cons (o := _) rfl (fun K hK => ?_) AllReadyH.nil
                    go_simp
                    obtain ⟨W9, hW9⟩ : ∃ W9, W9 = ((V7.setCell ⟨B8, 0, none⟩ (.int .i64 rr)).setCell ⟨B8, 1, none⟩ (.slice p1 mR g1)).setCell ⟨B8, 2, none⟩ (.slice p2 mR g2) := ⟨_, rfl⟩
                    have hq9 := HNew.out _ _ _ HbV.out HV7.out W9 hW9
                    rw [← hW9]
                    refine hK.out _ _ (HKz.out _ _ HbV.out hq9.1) (fun hHeld => ?_)
                    clear hK K e0 e1 e2 ef hW9
                    try simp only [Act.put, List.getElem_toArray, List.getElem_cons_zero, List.getElem_cons_succ, List.setIfInBounds_toArray, List.set_cons_zero, List.set_cons_succ]
                    refine wpAnyH_done (by kernel_rfl) ?_ _
                    refine NoPanic.normal ?_
                    clear hHeld
                    have HQ9 := hide hq9
                    clear hq9 HNew HKs HKz HCell HFin HV7 HSc
                    go_wp2_with fail
                    exact ⟨⟨a.app (.cons x kk .nil), rs, _, Hfe2.out, by rw [Hln2.out]; go_num, HQ9.out.2.1, HQ9.out.2.2.1, HQ9.out.2.2.2⟩, by simp [intOf]; omega⟩
                  · refine wp_appI _ _ rfl W1.heap.size _ 0 [] rfl HO0.out (.slice va np vc) np (nC p) rfl (HSc.out _ HbV.out) (by omega) HbV.out.size (fun v3 V2 ho hg ha => ?_)
                    (try simp only [Nat.zero_add, List.nil_append] at ho)
                    have hbV : Below W1.heap.size W1 V2 := HbV.out.trans ((Below.refl _ _).grown hg HbV.out.size (fun k h => (HO0.out.lt k h).1))
                    have hXq : Bx V2 B1 #[.int .i64 (na : Int)] 3 := (hg.block B1 HXq.out.lt (fun e => HNe.out (by have ee : some B0 = some B1 := e.symm; simpa using ee))).trans HXq.out
                    replace HXq := hide hXq
                    clear hXq
                    obtain ⟨a3, d3, e3⟩ := own_form ho
                    subst e3
                    have HO3 := hide ho
                    clear ho hg ha HO0
                    have HbV2 := hide hbV
                    refine hK.out _ _ (HKs.out _ hbV) (fun hHeld => ?_)
                    clear hK K hbV HbV
                    try simp only [Act.put, List.getElem_toArray, List.getElem_cons_zero, List.getElem_cons_succ, List.setIfInBounds_toArray, List.set_cons_zero, List.set_cons_succ]
                    have HbV := HbV2
                    clear HbV2
                    refine wpAnyH_ready (rs := [0, 6]) (by kernel_rfl) (by simp) ?_
                    refine AllReadyH.cons (o := _) rfl (fun K hK => ?_) (AllReadyH.cons (o := _) rfl (fun K hK => ?_) (AllReadyH.nil))
                    · obtain ⟨⟨e0, e1, e2⟩, -⟩ := HCell.out _ HbV.out
                      go_simp
                      refine hK.out _ _ (HKs.out _ HbV.out) (fun hHeld => ?_)
                      clear hK K e0 e1 e2
                      try simp only [Act.put, List.getElem_toArray, List.getElem_cons_zero, List.getElem_cons_succ, List.setIfInBounds_toArray, List.set_cons_zero, List.set_cons_succ]
                      refine wpAnyH_ready (rs := [6]) (by kernel_rfl) (by simp) ?_
                      refine AllReadyH.cons (o := _) rfl (fun K hK => ?_) (AllReadyH.nil)
                      refine wp_appI _ _ rfl W1.heap.size _ np (nC p) rfl HO3.out (.slice (some ⟨B1, 0, none⟩) 1 1) 1 [.int .i64 (na : Int)] rfl ⟨rfl, fun u hu => by simp only [List.mem_cons, List.not_mem_nil, or_false] at hu; rcases hu with rfl; rfl, .inr ⟨_, _, rfl, oneC_cells HXq.out⟩⟩ (by omega) HbV.out.size (fun v4 V2 ho hg ha => ?_)
                      have hbV : Below W1.heap.size W1 V2 := HbV.out.trans ((Below.refl _ _).grown hg HbV.out.size (fun k h => (HO3.out.lt k h).1))
                      obtain ⟨a4, d4, e4⟩ := own_form ho
                      subst e4
                      have HO4 := hide ho
                      clear ho hg ha HO3 HXq
                      have HbV2 := hide hbV
                      refine hK.out _ _ (HKs.out _ hbV) (fun hHeld => ?_)
                      clear hK K hbV HbV
                      try simp only [Act.put, List.getElem_toArray, List.getElem_cons_zero, List.getElem_cons_succ, List.setIfInBounds_toArray, List.set_cons_zero, List.set_cons_succ]
                      have HbV := HbV2
                      clear HbV2
                      refine wpAnyH_ready (rs := [8]) (by kernel_rfl) (by simp) ?_
                      refine AllReadyH.cons (o := _) rfl (fun K hK => ?_) AllReadyH.nil
                      go_simp
                      (with_reducible refine Calls.mono (HFin.out _ _ HbV.out HO4.out) ?_)
                      rintro r V7 ⟨v7, rfl, hv, hx⟩
                      replace HbV := hide (HbV.out.trans (hx.mono HbV.out.size))
                      obtain ⟨p1, g1, p2, g2, rfl⟩ := hv.form
                      obtain ⟨mR, hmR⟩ : ∃ mR, mR = R.length := ⟨_, rfl⟩
                      have hv2 : SqS O1 V7 (.agg #[.int .i64 rr, .slice p1 mR g1, .slice p2 mR g2]) ⟨rr, R⟩ := by rw [hmR]; exact hv
                      have HV7 := hide hv2
                      rw [← hmR]
                      clear hv hv2 hx hmR HO4
                      (try go_wp2_with fail)
                      refine hK.out _ _ (HKs.out _ HbV.out) (fun hHeld => ?_)
                      clear hK K
                      try simp only [Act.put, List.getElem_toArray, List.getElem_cons_zero, List.getElem_cons_succ, List.setIfInBounds_toArray, List.set_cons_zero, List.set_cons_succ]
                      obtain ⟨⟨e0, e1, e2⟩, ef⟩ := HCell.out _ HbV.out
                      refine wpAnyH_ready (rs := [9]) (by kernel_rfl) (by simp) ?_
                      refine AllReadyH.cons (o := _) rfl (fun K hK => ?_) AllReadyH.nil
                      go_simp
                      obtain ⟨W9, hW9⟩ : ∃ W9, W9 = ((V7.setCell ⟨B8, 0, none⟩ (.int .i64 rr)).setCell ⟨B8, 1, none⟩ (.slice p1 mR g1)).setCell ⟨B8, 2, none⟩ (.slice p2 mR g2) := ⟨_, rfl⟩
                      have hq9 := HNew.out _ _ _ HbV.out HV7.out W9 hW9
                      rw [← hW9]
                      refine hK.out _ _ (HKz.out _ _ HbV.out hq9.1) (fun hHeld => ?_)
                      clear hK K e0 e1 e2 ef hW9
                      try simp only [Act.put, List.getElem_toArray, List.getElem_cons_zero, List.getElem_cons_succ, List.setIfInBounds_toArray, List.set_cons_zero, List.set_cons_succ]
                      refine wpAnyH_done (by kernel_rfl) ?_ _
                      refine NoPanic.normal ?_
                      clear hHeld
                      have HQ9 := hide hq9
                      clear hq9 HNew HKs HKz HCell HFin HV7 HSc
                      go_wp2_with fail
                      exact ⟨⟨a.app (.cons x kk .nil), rs, _, Hfe2.out, by rw [Hln2.out]; go_num, HQ9.out.2.1, HQ9.out.2.2.1, HQ9.out.2.2.2⟩, by simp [intOf]; omega⟩
                    · refine wp_appI _ _ rfl W1.heap.size _ np (nC p) rfl HO3.out (.slice (some ⟨B1, 0, none⟩) 1 1) 1 [.int .i64 (na : Int)] rfl ⟨rfl, fun u hu => by simp only [List.mem_cons, List.not_mem_nil, or_false] at hu; rcases hu with rfl; rfl, .inr ⟨_, _, rfl, oneC_cells HXq.out⟩⟩ (by omega) HbV.out.size (fun v4 V2 ho hg ha => ?_)
                      have hbV : Below W1.heap.size W1 V2 := HbV.out.trans ((Below.refl _ _).grown hg HbV.out.size (fun k h => (HO3.out.lt k h).1))
                      obtain ⟨a4, d4, e4⟩ := own_form ho
                      subst e4
                      have HO4 := hide ho
                      clear ho hg ha HO3 HXq
                      have HbV2 := hide hbV
                      refine hK.out _ _ (HKs.out _ hbV) (fun hHeld => ?_)
                      clear hK K hbV HbV
                      try simp only [Act.put, List.getElem_toArray, List.getElem_cons_zero, List.getElem_cons_succ, List.setIfInBounds_toArray, List.set_cons_zero, List.set_cons_succ]
                      have HbV := HbV2
                      clear HbV2
                      refine wpAnyH_ready (rs := [0]) (by kernel_rfl) (by simp) ?_
                      refine AllReadyH.cons (o := _) rfl (fun K hK => ?_) (AllReadyH.nil)
                      obtain ⟨⟨e0, e1, e2⟩, -⟩ := HCell.out _ HbV.out
                      go_simp
                      refine hK.out _ _ (HKs.out _ HbV.out) (fun hHeld => ?_)
                      clear hK K e0 e1 e2
                      try simp only [Act.put, List.getElem_toArray, List.getElem_cons_zero, List.getElem_cons_succ, List.setIfInBounds_toArray, List.set_cons_zero, List.set_cons_succ]
                      refine wpAnyH_ready (rs := [8]) (by kernel_rfl) (by simp) ?_
                      refine AllReadyH.cons (o := _) rfl (fun K hK => ?_) AllReadyH.nil
                      go_simp
                      (with_reducible refine Calls.mono (HFin.out _ _ HbV.out HO4.out) ?_)
                      rintro r V7 ⟨v7, rfl, hv, hx⟩
                      replace HbV := hide (HbV.out.trans (hx.mono HbV.out.size))
                      obtain ⟨p1, g1, p2, g2, rfl⟩ := hv.form
                      obtain ⟨mR, hmR⟩ : ∃ mR, mR = R.length := ⟨_, rfl⟩
                      have hv2 : SqS O1 V7 (.agg #[.int .i64 rr, .slice p1 mR g1, .slice p2 mR g2]) ⟨rr, R⟩ := by rw [hmR]; exact hv
                      have HV7 := hide hv2
                      rw [← hmR]
                      clear hv hv2 hx hmR HO4
                      (try go_wp2_with fail)
                      refine hK.out _ _ (HKs.out _ HbV.out) (fun hHeld => ?_)
                      clear hK K
                      try simp only [Act.put, List.getElem_toArray, List.getElem_cons_zero, List.getElem_cons_succ, List.setIfInBounds_toArray, List.set_cons_zero, List.set_cons_succ]
                      obtain ⟨⟨e0, e1, e2⟩, ef⟩ := HCell.out _ HbV.out
                      refine wpAnyH_ready (rs := [9]) (by kernel_rfl) (by simp) ?_
                      refine AllReadyH.cons (o := _) rfl (fun K hK => ?_) AllReadyH.nil
                      go_simp
                      obtain ⟨W9, hW9⟩ : ∃ W9, W9 = ((V7.setCell ⟨B8, 0, none⟩ (.int .i64 rr)).setCell ⟨B8, 1, none⟩ (.slice p1 mR g1)).setCell ⟨B8, 2, none⟩ (.slice p2 mR g2) := ⟨_, rfl⟩
                      have hq9 := HNew.out _ _ _ HbV.out HV7.out W9 hW9
                      rw [← hW9]
                      refine hK.out _ _ (HKz.out _ _ HbV.out hq9.1) (fun hHeld => ?_)
                      clear hK K e0 e1 e2 ef hW9
                      try simp only [Act.put, List.getElem_toArray, List.getElem_cons_zero, List.getElem_cons_succ, List.setIfInBounds_toArray, List.set_cons_zero, List.set_cons_succ]
                      refine wpAnyH_done (by kernel_rfl) ?_ _
                      refine NoPanic.normal ?_
                      clear hHeld
                      have HQ9 := hide hq9
                      clear hq9 HNew HKs HKz HCell HFin HV7 HSc
                      go_wp2_with fail
                      exact ⟨⟨a.app (.cons x kk .nil), rs, _, Hfe2.out, by rw [Hln2.out]; go_num, HQ9.out.2.1, HQ9.out.2.2.1, HQ9.out.2.2.2⟩, by simp [intOf]; omega⟩
        · have HEn := hide (ansS_none (HE.out hcc))
          have hcc' : ¬ (y = c) := hcc
          have HX6v : Hid (Bx w5 B6 #[.int .i64 0, .slice none 0 0, .slice none 0 0] 53) := hide ((HO5.out.block B6 HX6.out.lt n68).trans HX6.out)
          have HBw := hide (HB4.out.trans (HO5.out.below HB4.out.size hzB8.out))
          have u0 := HX6v.out.c 0
          have u1 := HX6v.out.c 1
          have u2 := HX6v.out.c 2
          have uf := HX6v.out.f
          clear hcc HE HYe
          go_wp2_with fail
          have hX : Bx (((w5.setCell ⟨B6, 0, none⟩ (.int .i64 0)).setCell ⟨B6, 1, none⟩ (.slice none 0 0)).setCell ⟨B6, 2, none⟩ (.slice none 0 0)) B6 #[.int .i64 0, .slice none 0 0, .slice none 0 0] 53 := by have := ((HX6v.out.set 0 (.int .i64 0)).set 1 (.slice none 0 0)).set 2 (.slice none 0 0); simpa using this
          refine bodyPost_ret (v := .tuple #[.agg #[.int .i64 0, .slice none 0 0, .slice none 0 0], .bool false]) (results_cell_two (p := 6) (u := 7) rfl _ _ B6 53 _ (0, 0) _ _ rfl rfl hX Try.underlying53 rfl sqSize) rfl ⟨_, _, rfl, ?_, ?_⟩
          · rw [HEn.out]; exact ⟨rfl, rfl⟩
          · exact ((HBw.out.setCell (p := ⟨B6, 0, none⟩) hzB6.out _).setCell (p := ⟨B6, 1, none⟩) hzB6.out _).setCell (p := ⟨B6, 2, none⟩) hzB6.out _
      · have hd : decide (q[k].p = p) = false := decide_eq_false hpp
        have HE := hide (HNo.out hpp)
        rw [hd]
        clear hd hpp HNo HYes HBad
        go_wp2_with fail
        exact ⟨⟨k + 1, o, v8, by omega, by go_num, HE.out, HX8.out.below Hb5.out HX8.out.lt, HS.out.below Hb5.out, HO.out.trans (Oth.ofBelow Hb5.out)⟩, by simp [intOf]; omega⟩
    · obtain rfl : k = nq := by omega
      have hall : q.take k = q := List.take_of_length_le (by rw [← Hnq.out]; exact Nat.le_refl _)
      have HA2 : Hid (ansK p c q = some o) := hide (by have := HA.out; rw [hall] at this; exact this)
      have c31 := hx3.c 1
      clear hall HA hlt hx3 hk
      go_wp2_with fail
      clear c31
      obtain ⟨nq, hnq⟩ : ∃ nq, nq = k := ⟨_, rfl⟩
      rw [← hnq] at Hnq H1 H3 HX3 HX3w hnq1 ⊢
      clear hnq htc hpc
      have HS0 : Hid (SqS O1 wr (.agg v8) ⟨rr, o ++ ansR p (q.take 0)⟩) := hide (by simpa [ansR] using HS.out)
      go_loopw [65] (fun i w' => ∃ (j : Nat) (v8 : Array Value), j ≤ nq ∧ i = .int .i64 j ∧ Bx w' B8 v8 53 ∧ SqS O1 w' (.agg v8) ⟨rr, o ++ ansR p (q.take j)⟩ ∧ Oth B8 W4 w') (fun i _ => nq - (intOf i).toNat)
      case atStart => exact ⟨0, _, by omega, rfl, HX8.out, HS0.out, HO.out⟩
      case round =>
        clear HS0 HX8 HS HO HX3w Hoff hoff v8
        obtain ⟨k, v8, hk, rfl, hx8, hS, hO⟩ := hrel
        have HX8 := hide hx8
        have HS := hide hS
        have HO := hide hO
        have hoff := off_oth hO HO8.out
        have Hoff := hide hoff
        have hx3 : Bx wr B3 #[.int .i64 rr, .slice pa nq pc, .slice ta nq tc] 53 := (hO.block B3 HX3.out.lt n38).trans HX3.out
        have HX3w := hide hx3
        clear hx8 hS hO
        by_cases hlt : k < nq
        · have hlt' : (k : Int) < (nq : Int) := by omega
          have hk0 : (0 : Int) ≤ (k : Int) := by omega
          have hkq : k < q.length := by rw [← Hnq.out]; exact hlt
          obtain ⟨pk, ek, stk⟩ := H2.out.2 k hkq
          obtain ⟨b, ob, rfl, -, ck⟩ := (H1.out.later hoff (fun i hi => .inl hi)).at ek
          have stw := stk.later hoff (fun i hi => .inl hi)
          obtain ⟨⟨ak, dk, rfl, rk, lk⟩, -⟩ := stw.here
          obtain ⟨⟨va', vc', ev, rv, lv⟩, -⟩ := (HP.out.later hoff (fun i hi => .inl hi)).here
          obtain ⟨rfl, -, rfl⟩ : va = va' ∧ np = p.length ∧ vc = vc' := by simpa using ev
          have HSa := hide (l8SamePath_any ak dk q[k].p va vc p wr rk rv lk lv)
          rw [← Hnp.out] at HSa
          have HNo := hide (fun (hpp : q[k].p ≠ p) => ansR_other (p := p) hkq hpp)
          have HYes := hide (fun (hpp : q[k].p = p) => ansR_same (p := p) hkq hpp)
          have hkd := HKd.out _ (List.getElem_mem hkq)
          obtain ⟨s, y0, y1, hT⟩ := H4.out.2 k hkq
          have hTw := hT.later hoff (fun i hi => .inl hi)
          have hgc := goodC_con (HQk.out _ (List.getElem_mem hkq)).1.1
          have hlen := ans_len3 HA2.out k
          have hlen2 : (o ++ ansR p (q.take k)).length ≤ 1000 := Nat.le_trans hlen HSz.out
          obtain ⟨sa, sc, rfl⟩ := hTw.form
          have R3 := H3.out.later hoff (fun i hi => .inl hi)
          obtain ⟨bt, ot, rfl, lt, hno, t0⟩ := R3.at2 y0
          obtain ⟨bt', ot', e', -, t1⟩ := R3.at y1
          simp only [Option.some.injEq, Addr.mk.injEq, and_true] at e'
          obtain ⟨rfl, rfl⟩ := e'
          rw [← Nat.add_assoc] at t1
          have HCall := hide (fun (v8 : Value) (V : World) (hbw : Below wr.heap.size wr V) (hv : SqS O1 V v8 ⟨rr, o ++ ansR p (q.take k)⟩) => l8Asks_any O1 v8 ⟨rr, o ++ ansR p (q.take k)⟩ (.slice ak (q[k].p).length dk) q[k].p (.slice sa (q[k].k).len sc) q[k].x q[k].k V (fun g hg => Nat.lt_of_lt_of_le (HO1l.out g hg) (Nat.le_trans HO.out.size hbw.size)) hv (stw.later (Off.of_below (O := O1) hbw) (fun i hi => .inl hi)) (hTw.below hbw) hgc hlen2)
          rw [if_neg hkd] at HCall
          obtain ⟨tx, htx⟩ : ∃ tx, tx = tcon q[k].x := ⟨_, rfl⟩
          rw [← htx] at HCall t0
          obtain ⟨R, hR⟩ : ∃ R, R = o ++ ansR p (q.take k) ++ [(⟨q[k].p, q[k].x, q[k].k⟩ : Ak)] := ⟨_, rfl⟩
          rw [← hR] at HCall
          have HRe := hide hR
          obtain ⟨mk, hmk⟩ : ∃ mk, mk = q[k].p.length := ⟨_, rfl⟩
          obtain ⟨nk, hnk⟩ : ∃ nk, nk = q[k].k.len := ⟨_, rfl⟩
          rw [← hmk] at HSa HCall ck
          rw [← hnk] at HCall t1
          clear ev hT stk stw rk rv lk lv hmk hnk hR htx R3 hoff hTw hgc hlen hlen2 hkd y0 y1
          go_wp2_with fail
          refine Calls.mono HSa.out ?_
          rintro e w5 ⟨rfl, hb5⟩
          have Hb5 := hide hb5
          clear ck hb5 HSa
          by_cases hpp : q[k].p = p
          · have hd : decide (q[k].p = p) = true := decide_eq_true hpp
            have hS2 := HS.out.below Hb5.out
            rw [← HYes.out hpp] at hS2
            have HS2 := hide hS2
            rw [hd]
            clear hd hpp HNo HYes HCall t0 t1 lt hx3 hS2
            go_wp2_with fail
            exact ⟨⟨k + 1, v8, by omega, by go_num, HX8.out.below Hb5.out HX8.out.lt, HS2.out, HO.out.trans (Oth.ofBelow Hb5.out)⟩, by simp [intOf]; omega⟩
          · have hd : decide (q[k].p = p) = false := decide_eq_false hpp
            have hRR : R = o ++ ansR p (q.take (k + 1)) := by rw [HNo.out hpp, HRe.out, List.append_assoc]
            rw [hd]
            have hS5 := HS.out
            obtain ⟨a1, d1, a2, d2, e⟩ := hS5.form
            simp only [Value.agg.injEq] at e
            subst e
            obtain ⟨m1, hm1⟩ : ∃ m1, m1 = (o ++ ansR p (q.take k)).length := ⟨_, rfl⟩
            have hx8 := HX8.out
            rw [← hm1] at hx8 hS5
            have HX8v := hide hx8
            have HS5 := hide hS5
            have hbt : bt ≠ B8 := fun e => hno (e ▸ HO8.out)
            have HKs : Hid (∀ V, Below wr.heap.size wr V → V.cell? ⟨B3, 2, none⟩ = some (.slice (some ⟨bt, ot, none⟩) nq tc) ∧ V.cell? ⟨bt, ot + k * 2, none⟩ = some (.int .i64 tx) ∧ V.cell? ⟨bt, ot + k * 2 + 1, none⟩ = some (.slice sa nk sc)) := hide (fun V h => ⟨((HX3w.out.below h HX3w.out.lt).c 2).trans rfl, (h.cell (p := ⟨bt, ot + k * 2, none⟩) lt).trans t0, (h.cell (p := ⟨bt, ot + k * 2 + 1, none⟩) lt).trans t1⟩)
            have HKz : Hid (∀ V W', Below wr.heap.size wr V → Oth B8 V W' → W'.cell? ⟨B3, 2, none⟩ = some (.slice (some ⟨bt, ot, none⟩) nq tc) ∧ W'.cell? ⟨bt, ot + k * 2, none⟩ = some (.int .i64 tx) ∧ W'.cell? ⟨bt, ot + k * 2 + 1, none⟩ = some (.slice sa nk sc)) := hide (fun V W' h ho => by
              obtain ⟨e1, e2, e3⟩ := HKs.out V h
              have l3 := Nat.lt_of_lt_of_le HX3w.out.lt h.size
              have l4 := Nat.lt_of_lt_of_le lt h.size
              exact ⟨(World.cell?_of_block (a := ⟨B3, 2, none⟩) (ho.block B3 l3 n38)).trans e1, (World.cell?_of_block (a := ⟨bt, ot + k * 2, none⟩) (ho.block bt l4 hbt)).trans e2, (World.cell?_of_block (a := ⟨bt, ot + k * 2 + 1, none⟩) (ho.block bt l4 hbt)).trans e3⟩)
            have HCell : Hid (∀ V, Below wr.heap.size wr V → (V.cell? ⟨B8, 0, none⟩ = some (.int .i64 rr) ∧ V.cell? ⟨B8, 1, none⟩ = some (.slice a1 m1 d1) ∧ V.cell? ⟨B8, 2, none⟩ = some (.slice a2 m1 d2)) ∧ ∀ i, V.frozen? ⟨B8, i, none⟩ = false) := hide (fun V h => ⟨⟨((HX8v.out.below h HX8v.out.lt).c 0).trans rfl, ((HX8v.out.below h HX8v.out.lt).c 1).trans rfl, ((HX8v.out.below h HX8v.out.lt).c 2).trans rfl⟩, (HX8v.out.below h HX8v.out.lt).f⟩)
            have HNew : Hid (∀ V x2 x3, Below wr.heap.size wr V → SqS O1 V (.agg #[.int .i64 rr, x2, x3]) ⟨rr, R⟩ → ∀ W', W' = ((V.setCell ⟨B8, 0, none⟩ (.int .i64 rr)).setCell ⟨B8, 1, none⟩ x2).setCell ⟨B8, 2, none⟩ x3 → Oth B8 V W' ∧ Bx W' B8 #[.int .i64 rr, x2, x3] 53 ∧ SqS O1 W' (.agg #[.int .i64 rr, x2, x3]) ⟨rr, o ++ ansR p (q.take (k + 1))⟩ ∧ Oth B8 W4 W') := hide (fun V x2 x3 h hv W' hW' => by
              have ho : Oth B8 V W' := by rw [hW']; exact (((Oth.refl B8 V).setCell 0 _).setCell 1 _).setCell 2 _
              refine ⟨ho, ?_, ?_, (HO.out.trans (Oth.ofBelow h)).trans ho⟩
              · rw [hW']
                have := (((HX8v.out.below h HX8v.out.lt).set 0 (.int .i64 rr)).set 1 x2).set 2 x3
                simpa using this
              · rw [← hRR]
                exact hv.later (off_oth ho HO8.out) (fun i hi => .inl hi))
            have HCl := hide (fun (V : World) (h : Below wr.heap.size wr V) => HCall.out (.agg #[.int .i64 rr, .slice a1 m1 d1, .slice a2 m1 d2]) V h (hS5.below h))
            have hkS := HKs.out _ Hb5.out
            have hkS0 := hkS
            clear hd hpp HNo HYes HCall t0 t1 lt hx3 hx8 hS5 HS hRR hno hbt hm1 hkS0
            go_upto_region 18 with fail
            refine wp_region_noPanic ?_
            refine wp_region_held_drew (S := fun w' => w'.cell? ⟨B3, 2, none⟩ = some (.slice (some ⟨bt, ot, none⟩) nq tc) ∧ w'.cell? ⟨bt, ot + k * 2, none⟩ = some (.int .i64 tx) ∧ w'.cell? ⟨bt, ot + k * 2 + 1, none⟩ = some (.slice sa nk sc)) (by kernel_rfl) hkS (fun hHeld => ?_)
            refine wpAnyH_take (i := 1) (oi := _) (v := ?_) rfl (by kernel_rfl) (by kernel_rfl) (by kernel_rfl) (fun _ _ _ h => h) (Or.inl ⟨by rfl, ?_⟩) (by assumption) ?_
            rotate_left 1
            · (intro w hSw; clear hSw; (first | (go_simp; done) | (go_simp; with_reducible rfl)))
            try simp only [Act.put, List.getElem_toArray, List.getElem_cons_zero, List.getElem_cons_succ, List.setIfInBounds_toArray, List.set_cons_zero, List.set_cons_succ]
            refine wpAnyH_take (i := 2) (oi := _) (v := ?_) rfl (by kernel_rfl) (by kernel_rfl) (by kernel_rfl) (fun _ _ _ h => h) (Or.inl ⟨by rfl, ?_⟩) (by assumption) ?_
            rotate_left 1
            · (intro w hSw; clear hSw; (first | (go_simp; done) | (go_simp; with_reducible rfl)))
            try simp only [Act.put, List.getElem_toArray, List.getElem_cons_zero, List.getElem_cons_succ, List.setIfInBounds_toArray, List.set_cons_zero, List.set_cons_succ]
            refine wpAnyH_take (i := 3) (oi := _) (v := ?_) rfl (by kernel_rfl) (by kernel_rfl) (by kernel_rfl) (fun _ _ _ h => h) (Or.inl ⟨by rfl, ?_⟩) (by assumption) ?_
            rotate_left 1
            · (intro w hSw; obtain ⟨hSw1, hSw2, hSw3⟩ := hSw; (first | (go_simp; done) | (go_simp; with_reducible rfl)))
            try simp only [Act.put, List.getElem_toArray, List.getElem_cons_zero, List.getElem_cons_succ, List.setIfInBounds_toArray, List.set_cons_zero, List.set_cons_succ]
            refine wpAnyH_take (i := 4) (oi := _) (v := ?_) rfl (by kernel_rfl) (by kernel_rfl) (by kernel_rfl) (fun _ _ _ h => h) (Or.inl ⟨by rfl, ?_⟩) (by assumption) ?_
            rotate_left 1
            · (intro w hSw; clear hSw; (first | (go_simp; done) | (go_simp; with_reducible rfl)))
            try simp only [Act.put, List.getElem_toArray, List.getElem_cons_zero, List.getElem_cons_succ, List.setIfInBounds_toArray, List.set_cons_zero, List.set_cons_succ]
            refine wpAnyH_take (i := 5) (oi := _) (v := ?_) rfl (by kernel_rfl) (by kernel_rfl) (by kernel_rfl) (fun _ _ _ h => h) (Or.inl ⟨by rfl, ?_⟩) (by assumption) ?_
            rotate_left 1
            · (intro w hSw; clear hSw; (first | (go_simp; done) | (go_simp; with_reducible rfl)))
            try simp only [Act.put, List.getElem_toArray, List.getElem_cons_zero, List.getElem_cons_succ, List.setIfInBounds_toArray, List.set_cons_zero, List.set_cons_succ]
            refine wpAnyH_take (i := 6) (oi := _) (v := ?_) rfl (by kernel_rfl) (by kernel_rfl) (by kernel_rfl) (fun _ _ _ h => h) (Or.inl ⟨by rfl, ?_⟩) (by assumption) ?_
            rotate_left 1
            · (intro w hSw; obtain ⟨hSw1, hSw2, hSw3⟩ := hSw; (first | (go_simp; done) | (go_simp; with_reducible rfl)))
            try simp only [Act.put, List.getElem_toArray, List.getElem_cons_zero, List.getElem_cons_succ, List.setIfInBounds_toArray, List.set_cons_zero, List.set_cons_succ]
            clear hkS
            obtain ⟨V, hV⟩ : ∃ V, V = w5.drew := ⟨_, rfl⟩
            have HbV : Hid (Below wr.heap.size wr V) := hide (by rw [hV]; exact belowDrew8' Hb5.out)
            rw [← hV]
            clear hV
            refine wpAnyH_ready (rs := [0]) (by kernel_rfl) (by simp) ?_
            refine AllReadyH.cons (o := _) rfl (fun K hK => ?_) AllReadyH.nil
            obtain ⟨⟨e0, e1, e2⟩, -⟩ := HCell.out _ HbV.out
            go_simp
            refine hK.out _ _ (HKs.out _ HbV.out) (fun hHeld => ?_)
            clear hK K e0 e1 e2
            try simp only [Act.put, List.getElem_toArray, List.getElem_cons_zero, List.getElem_cons_succ, List.setIfInBounds_toArray, List.set_cons_zero, List.set_cons_succ]
            refine wpAnyH_ready (rs := [7]) (by kernel_rfl) (by simp) ?_
            refine AllReadyH.cons (o := _) rfl (fun K hK => ?_) AllReadyH.nil
            go_simp
            (with_reducible refine Calls.mono (HCl.out _ HbV.out) ?_)
            rintro r V7 ⟨v7, rfl, hv, hx⟩
            replace HbV := hide (HbV.out.trans (hx.mono HbV.out.size))
            obtain ⟨p1, g1, p2, g2, rfl⟩ := hv.form
            obtain ⟨mR, hmR⟩ : ∃ mR, mR = R.length := ⟨_, rfl⟩
            have hv2 : SqS O1 V7 (.agg #[.int .i64 rr, .slice p1 mR g1, .slice p2 mR g2]) ⟨rr, R⟩ := by rw [hmR]; exact hv
            have HV7 := hide hv2
            rw [← hmR]
            clear hv hv2 hx hmR
            (try go_wp2_with fail)
            refine hK.out _ _ (HKs.out _ HbV.out) (fun hHeld => ?_)
            clear hK K
            try simp only [Act.put, List.getElem_toArray, List.getElem_cons_zero, List.getElem_cons_succ, List.setIfInBounds_toArray, List.set_cons_zero, List.set_cons_succ]
            obtain ⟨⟨e0, e1, e2⟩, ef⟩ := HCell.out _ HbV.out
            refine wpAnyH_ready (rs := [8]) (by kernel_rfl) (by simp) ?_
            refine AllReadyH.cons (o := _) rfl (fun K hK => ?_) AllReadyH.nil
            go_simp
            obtain ⟨W9, hW9⟩ : ∃ W9, W9 = ((V7.setCell ⟨B8, 0, none⟩ (.int .i64 rr)).setCell ⟨B8, 1, none⟩ (.slice p1 mR g1)).setCell ⟨B8, 2, none⟩ (.slice p2 mR g2) := ⟨_, rfl⟩
            have hq9 := HNew.out _ _ _ HbV.out HV7.out W9 hW9
            rw [← hW9]
            refine hK.out _ _ (HKz.out _ _ HbV.out hq9.1) (fun hHeld => ?_)
            clear hK K e0 e1 e2 ef hW9
            try simp only [Act.put, List.getElem_toArray, List.getElem_cons_zero, List.getElem_cons_succ, List.setIfInBounds_toArray, List.set_cons_zero, List.set_cons_succ]
            refine wpAnyH_done (by kernel_rfl) ?_ _
            refine NoPanic.normal ?_
            clear hHeld
            have HQ9 := hide hq9
            clear hq9 HNew HKs HKz HCell HCl HV7
            go_wp2_with fail
            exact ⟨⟨k + 1, _, by omega, by go_num, HQ9.out.2.1, HQ9.out.2.2.1, HQ9.out.2.2.2⟩, by simp [intOf]; omega⟩
        · obtain rfl : k = nq := by omega
          have hall : q.take k = q := List.take_of_length_le (by rw [← Hnq.out]; exact Nat.le_refl _)
          have hS := HS.out
          rw [hall] at hS
          have HSe := hide hS
          have HEy := hide (ansS_of HA2.out)
          have HX6v : Hid (Bx wr B6 #[.int .i64 0, .slice none 0 0, .slice none 0 0] 53) := hide ((HO.out.block B6 HX6.out.lt n68).trans HX6.out)
          have HBw := hide (HB4.out.trans (HO.out.below HB4.out.size hzB8.out))
          obtain ⟨a1, d1, a2, d2, e⟩ := hS.form
          simp only [Value.agg.injEq] at e
          subst e
          obtain ⟨m1, hm1⟩ : ∃ m1, m1 = (o ++ ansR p q).length := ⟨_, rfl⟩
          rw [← hm1] at HX8 HSe
          have u0 := HX6v.out.c 0
          have u1 := HX6v.out.c 1
          have u2 := HX6v.out.c 2
          have uf := HX6v.out.f
          have x0 := HX8.out.c 0
          have x1 := HX8.out.c 1
          have x2 := HX8.out.c 2
          clear hall hS HS hoff hx3 hm1
          go_wp2_with fail
          have hX : Bx (((wr.setCell ⟨B6, 0, none⟩ (.int .i64 rr)).setCell ⟨B6, 1, none⟩ (.slice a1 m1 d1)).setCell ⟨B6, 2, none⟩ (.slice a2 m1 d2)) B6 #[.int .i64 rr, .slice a1 m1 d1, .slice a2 m1 d2] 53 := by have := ((HX6v.out.set 0 (.int .i64 rr)).set 1 (.slice a1 m1 d1)).set 2 (.slice a2 m1 d2); simpa using this
          refine bodyPost_ret (v := .tuple #[.agg #[.int .i64 rr, .slice a1 m1 d1, .slice a2 m1 d2], .bool true]) (results_cell_two (p := 6) (u := 7) rfl _ _ B6 53 _ (0, 0) _ _ rfl rfl hX Try.underlying53 rfl sqSize) rfl ⟨_, _, rfl, ?_, ?_⟩
          · rw [HEy.out]
            exact ⟨rfl, HSe.out.later (O' := O) (off_oth (((Oth.refl B6 wr).setCell 0 _).setCell 1 _ |>.setCell 2 _) HO6.out) (fun i hi => .inl (HOO.out i hi))⟩
          · exact ((HBw.out.setCell (p := ⟨B6, 0, none⟩) hzB6.out _).setCell (p := ⟨B6, 1, none⟩) hzB6.out _).setCell (p := ⟨B6, 2, none⟩) hzB6.out _
end Go.Proofs.Ytmlpnmdckgppnaa.W

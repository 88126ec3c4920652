/-
  What a pattern asks, put behind others: spec.l8Asks. Conditions: at most 1000 asks.
-/
import Derived.Test.YtmlpnmdckgppnaaCsC
namespace Go.Proofs.Ytmlpnmdckgppnaa.W
open Go.ChangeShapes Go.WideShapes Go.ChangeAt Go.RowKit
set_option linter.unusedVariables false
set_option linter.unusedSimpArgs false

theorem infoIvS : (Try.prog.info? 22).map (fun i => (i.zero, i.size, i.bytes)) = some (some (.slice none 0 0), 1, 24) := by kernel_rfl
theorem infoPS : (Try.prog.info? 50).map (fun i => (i.zero, i.size, i.bytes)) = some (some (.agg #[.int .i64 0, .slice none 0 0]), 2, 32) := by kernel_rfl
theorem sqSize : (Try.prog.info? 53).map (·.size) = some 3 := by kernel_rfl

theorem wp_slice0P {w : World} {o : Oper} {a : Act} {K : Act → World → Prop} {Q : Exit → Act → World → Prop} (ho : o.op = .buildSlice 45 0 #[])
    (h : ∀ B w', w.heap.size ≤ B → Bx w' B #[] 50 → Below w.heap.size w w' → K (a.put o.dst (.slice (some ⟨B, 0, none⟩) 0 0)) w') : o.wp Try.prog a w K Q := by
  unfold Oper.wp execOp
  simp only [ho]
  go_simp
  exact h _ _ (Nat.le_refl _) (Bx.new _ _ _) ((Below.refl _ _).alloc (Nat.le_refl _) _)
theorem wp_slice1P {w : World} {o : Oper} {a : Act} {K : Act → World → Prop} {Q : Exit → Act → World → Prop} (x : Operand) (ho : o.op = .buildSlice 45 1 #[(0, x)]) (n : Int) (ka : Option Addr) (kn kc : Nat) (hx : a.eval x = .agg #[.int .i64 n, .slice ka kn kc])
    (h : ∀ B w', w.heap.size ≤ B → Bx w' B #[.int .i64 n, .slice ka kn kc] 50 → Below w.heap.size w w' → K (a.put o.dst (.slice (some ⟨B, 0, none⟩) 1 1)) w') : o.wp Try.prog a w K Q := by
  unfold Oper.wp execOp
  simp only [ho, List.map_toArray, List.map_cons, List.map_nil, hx]
  go_simp
  exact h _ _ (Nat.le_refl _) (Bx.new _ _ _) ((Below.refl _ _).alloc (Nat.le_refl _) _)
/-- An append to a row of patterns of one's own. -/
theorem wp_appP {w : World} {o : Oper} {a : Act} {K : Act → World → Prop} {Q : Exit → Act → World → Prop} (s x : Operand) (ho : o.op = .call { callee := .builtin .append, args := #[s, x], argTypes := #[45, 45] })
    (base : Nat) (v : Value) (n : Nat) (xs : List Value) (hs : a.eval s = v) (hown : w.ownsRow base 50 2 v n xs) (u : Value) (m : Nat) (vs : List Value) (hx : a.eval x = u) (hu : ScX w u m 2 vs) (hnm : n + m ≤ 100000) (hbase : base ≤ w.heap.size)
    (h : ∀ v' w', w'.ownsRow base 50 2 v' (n + m) (xs ++ vs) → w.grownBy w' v.ownBlock → Apart w v v' → K (a.put o.dst v') w') : o.wp Try.prog a w K Q := by
  obtain ⟨i, hi, hz, hs1, hs2⟩ := infoPartsT infoPS
  obtain ⟨hl, h1, ⟨rfl, rfl⟩ | ⟨ad, c, rfl, hnews⟩⟩ := hu
  · have h0 : vs = [] := List.length_eq_zero_iff.1 (by rw [hl])
    subst h0
    have hr := run_append_owned_none (P := Try.prog) (w := w) base 45 o.type 50 i 2 Try.underlying45 hi v n xs hown
    unfold Oper.wp execOp
    simp only [ho, resolve, invoke, builtin, Sem.run_bind, Sem.run_pure, Result.andThen_ok, List.map_toArray, List.map_cons, List.map_nil, hs, hx, hr]
    exact h v w (by simpa using hown) (World.grownBy.refl _ _) (fun g hg => .inl hg)
  · obtain ⟨v', w', hr, g2, g3, g4⟩ := run_append_sep (P := Try.prog) w base 45 o.type 50 i (.agg #[.int .i64 0, .slice none 0 0]) 2 32 Try.underlying45 hi hz hs1 hs2 rfl (by decide) v n xs hown ad m c vs hl hnews h1 (by unfold maxLen; omega) (by omega) hbase
    unfold Oper.wp execOp
    simp only [ho, resolve, invoke, builtin, Sem.run_bind, Sem.run_pure, Result.andThen_ok, List.map_toArray, List.map_cons, List.map_nil, hs, hx, hr]
    exact h v' w' g2 g3 g4

set_option maxRecDepth 20000 in
set_option maxHeartbeats 8000000 in
theorem l8Asks_any (O : Nat → Prop) (rv : Value) (r : Aq) (pv : Value) (p : List Int) (s : Value) (x : Pt) (k : F) (w : World) (hO : ∀ g, O g → g < w.heap.size) (hr : SqS O w rv r) (hp : St O w (fun w' => IV w' pv p ∧ CapOk pv)) (ht : KidT w (fun g => ¬ O g) k s) (hx : x.kd ≠ 1 → 0 ≤ x.con) (hn : r.q.length ≤ 1000) :
    Calls Try.prog 20 #[rv, pv, .agg #[.int .i64 (tcon x), s]] w fun e w' => ∃ v', e = .returned v' ∧ SqS O w' v' ⟨r.rule, if x.kd = 1 then r.q else r.q ++ [⟨p, x, k⟩]⟩ ∧ Below w.heap.size w w' := by
  obtain ⟨i0, hi0, hz0, hz1, hz2⟩ := infoPartsT infoIvS
  obtain ⟨i1, hi1, hy0, hy1, hy2⟩ := infoPartsT infoPS
  have Hi := hide hi0
  have Hj := hide hi1
  obtain ⟨pp, tt, xs, ys, rfl, h1, h2, h3, h4, h5, h6⟩ := id hr
  obtain ⟨pa, pc, rfl, hpc⟩ := h1.form
  obtain ⟨ta, tc, rfl, htc⟩ := h3.form
  obtain ⟨⟨va, vc, rfl, -, hvl⟩, -⟩ := hp.here
  obtain ⟨ka, kn, kc, rfl⟩ := ht.slice
  have HS := hide hr
  have HP := hide hp
  have HT := hide ht
  have H1 := hide h1
  have H2 := hide h2
  have H3 := hide h3
  have H4 := hide h4
  have H5 := hide h5
  have H6 := hide h6
  have HOl := hide hO
  obtain ⟨nq, hnq⟩ : ∃ nq, nq = r.q.length := ⟨_, rfl⟩
  have Hnq := hide hnq
  obtain ⟨np, hnp⟩ : ∃ np, np = p.length := ⟨_, rfl⟩
  rw [← hnq] at H1 H3 HS hn hpc htc H5 H6 ⊢
  rw [← hnp] at HP ⊢
  obtain ⟨rr, hrr⟩ : ∃ rr, rr = r.rule := ⟨_, rfl⟩
  have Hrr := hide hrr
  rw [← hrr] at HS ⊢
  obtain ⟨R, hR⟩ : ∃ R, R = if x.kd = 1 then r.q else r.q ++ [(⟨p, x, k⟩ : Ak)] := ⟨_, rfl⟩
  have HR := hide hR
  rw [← hR]
  obtain ⟨tx, htx⟩ : ∃ tx, tx = tcon x := ⟨_, rfl⟩
  have Htx := hide htx
  rw [← htx]
  clear hi0 hi1 hr hp ht h1 h2 h3 h4 h5 h6 hO hnq hnp hrr hR htx
  by_cases hk : x.kd = 1
  · have hc : ¬ (0 : Int) ≤ tx := by rw [Htx.out]; unfold tcon; rw [if_pos hk]; omega
    have HRe : Hid (R = r.q) := hide (by rw [HR.out, if_pos hk])
    clear hk hx
    go_enter Try.func20, Try.ntmps20
    go_wp2_with fail
    refine bodyPost_ret (v := .agg #[.int .i64 rr, .slice pa nq pc, .slice ta nq tc]) (results_cell_row (p := 6) rfl _ _ (w.heap.size + 1 + 1) 53 _ (0, 0) _ rfl (by simpa using heap_alloc_new ((w.alloc (.cells #[.int .i64 rr, .slice pa nq pc, .slice ta nq tc] 53)).alloc (.cells #[.int .i64 tx, .slice ka kn kc] 50)) (.cells #[.int .i64 rr, .slice pa nq pc, .slice ta nq tc] 53)) Try.underlying53 rfl sqSize) rfl ?_
    have hb : Below w.heap.size w (((w.alloc (.cells #[.int .i64 rr, .slice pa nq pc, .slice ta nq tc] 53)).alloc (.cells #[.int .i64 tx, .slice ka kn kc] 50)).alloc (.cells #[.int .i64 rr, .slice pa nq pc, .slice ta nq tc] 53)) := (((Below.refl _ _).alloc (Nat.le_refl _) _).alloc (by simp) _).alloc (by simp; omega) _
    refine ⟨_, rfl, ?_, hb⟩
    rw [HRe.out]
    have := HS.out.below hb
    rw [Hrr.out] at this ⊢
    exact this
  · have hc : (0 : Int) ≤ tx := by rw [Htx.out]; unfold tcon; rw [if_neg hk]; exact hx hk
    have HRe : Hid (R = r.q ++ [(⟨p, x, k⟩ : Ak)]) := hide (by rw [HR.out, if_neg hk])
    clear hk hx HR
    obtain ⟨W3, hW3⟩ : ∃ W3, W3 = ((w.alloc (.cells #[.int .i64 rr, .slice pa nq pc, .slice ta nq tc] 53)).alloc (.cells #[.int .i64 tx, .slice ka kn kc] 50)).alloc (.cells #[.int .i64 0, .slice none 0 0, .slice none 0 0] 53) := ⟨_, rfl⟩
    have HX3 : Hid (Bx W3 w.heap.size #[.int .i64 rr, .slice pa nq pc, .slice ta nq tc] 53) := hide (by rw [hW3]; exact ((Bx.new _ _ _).alloc _).alloc _)
    have HX5 : Hid (Bx W3 (w.heap.size + 1) #[.int .i64 tx, .slice ka kn kc] 50) := hide (by rw [hW3]; have := (Bx.new (w.alloc (.cells #[.int .i64 rr, .slice pa nq pc, .slice ta nq tc] 53)) #[.int .i64 tx, .slice ka kn kc] 50).alloc (.cells #[.int .i64 0, .slice none 0 0, .slice none 0 0] 53); simpa using this)
    have HX6 : Hid (Bx W3 (w.heap.size + 1 + 1) #[.int .i64 0, .slice none 0 0, .slice none 0 0] 53) := hide (by rw [hW3]; have := Bx.new ((w.alloc (.cells #[.int .i64 rr, .slice pa nq pc, .slice ta nq tc] 53)).alloc (.cells #[.int .i64 tx, .slice ka kn kc] 50)) #[.int .i64 0, .slice none 0 0, .slice none 0 0] 53; simpa using this)
    have hB3 : Below w.heap.size w W3 := by rw [hW3]; exact (((Below.refl _ _).alloc (Nat.le_refl _) _).alloc (by simp) _).alloc (by simp; omega) _
    have hs3 : W3.heap.size = w.heap.size + 3 := by rw [hW3]; simp
    have HW3 := hide hW3
    clear hW3
    go_enter Try.func20, Try.ntmps20
    go_upto_region 1 with fail
    rw [← HW3.out]
    obtain ⟨B3, hb3⟩ : ∃ B3, B3 = w.heap.size := ⟨_, rfl⟩
    obtain ⟨B5, hb5⟩ : ∃ B5, B5 = w.heap.size + 1 := ⟨_, rfl⟩
    obtain ⟨B6, hb6⟩ : ∃ B6, B6 = w.heap.size + 1 + 1 := ⟨_, rfl⟩
    rw [← hb6] at HX6 ⊢
    rw [← hb5] at HX5 ⊢
    rw [← hb3] at HX3 ⊢
    have Hb3 := hide hb3
    have Hb5 := hide hb5
    have Hb6 := hide hb6
    clear hb3 hb5 hb6 HW3
    have l3 := HX3.out.lt
    have l5 := HX5.out.lt
    have Hs3 := hide hs3
    clear hs3
    have c3 := HX3.out.c 0
    have c31 := HX3.out.c 1
    have c5 := HX5.out.c 0
    go_upto_region 2 with fail
    have hb4 : Below W3.heap.size W3 (W3.alloc (.cells #[] 22)) := (Below.refl _ _).alloc (Nat.le_refl _) _
    have HO4 : Hid ((W3.alloc (.cells #[] 22)).ownsRow W3.heap.size 22 1 (.slice (some ⟨W3.heap.size, 0, none⟩) 0 0) 0 []) := hide ⟨rfl, .inr ⟨W3.heap.size, 0, #[], rfl, Nat.le_refl _, heap_alloc_new W3 _, Nat.le_refl _, by omega, rfl, rfl⟩⟩
    have HSc := hide ((H1.out.below (hB3.trans (hb4.mono hB3.size))).scx H5.out H2.out.one)
    go_wp2_with (at_builtin; refine wpList_append_scx rfl _ _ 51 rfl W3.heap.size 22 i0 (.slice none 0 0) 1 24 Try.underlying51 Hi.out hz0 hz1 hz2 rfl (by decide) _ _ _ rfl HO4.out _ nq xs rfl HSc.out ?e1 ?e2 ?e3 ?_)
    case e1 => unfold maxLen; omega
    case e2 => omega
    case e3 => simp
    intro v1 w1 ho1 hg1 ha1
    try simp only [Nat.zero_add, List.nil_append] at ho1
    have hb31 : Below W3.heap.size W3 w1 := Below.grown hb4 hg1 (by simp) (fun k hk => by simp [Value.ownBlock] at hk; omega)
    have Hb31 := hide hb31
    have hs31 := hb31.size
    obtain ⟨a1, d1, e1⟩ := own_form ho1
    subst e1
    have HO1 := hide ho1
    have Hv1 := hide ho1.lt
    clear ho1 hg1 ha1 hb31 hb4 HO4 HSc c3 c31 c5
    go_wp2_with (at_builtin; refine wpList_append_sep rfl _ _ 51 rfl W3.heap.size 22 i0 (.slice none 0 0) 1 24 Try.underlying51 Hi.out hz0 hz1 hz2 rfl (by decide) _ _ _ rfl (HO1.out.alloc _) ⟨w1.heap.size, 0, none⟩ 1 1 [.slice va np vc] rfl rfl ?g1 ?g2 ?g3 ?g4 ?g5 ?_)
    case g1 => exact oneC_cells (heap_alloc_new w1 _)
    case g2 => intro u hu; simp only [List.mem_cons, List.not_mem_nil, or_false] at hu; rcases hu with rfl; rfl
    case g3 => unfold maxLen; omega
    case g4 => omega
    case g5 => simp; omega
    intro v2 w2 ho2 hg2 ha2
    have hb17 : Below w1.heap.size w1 (w1.alloc (.cells #[.slice va np vc] 22)) := (Below.refl _ _).alloc (Nat.le_refl _) _
    obtain ⟨W7, hW7⟩ : ∃ W7, W7 = w1.alloc (.cells #[.slice va np vc] 22) := ⟨_, rfl⟩
    rw [← hW7] at hg2 ha2 hb17
    clear hW7
    have hs17 := hb17.size
    have hb32 : Below W3.heap.size W3 w2 := (Hb31.out.trans (hb17.mono hs31)).trans ((Below.refl _ _).grown hg2 (by omega) (fun k h => (Hv1.out k h).1))
    have Hb32 := hide hb32
    have hs32 := hb32.size
    obtain ⟨a2, d2, e2⟩ := own_form ho2
    subst e2
    have HO2 := hide ho2
    have Hv2 := hide ho2.lt
    have hx3 := HX3.out.below hb32 l3
    have HX3b := hide hx3
    have HX5b := hide (HX5.out.below hb32 l5)
    have HX6b := hide (HX6.out.below hb32 HX6.out.lt)
    have c31 := hx3.c 1
    have cf := hx3.f
    clear ho2 hg2 ha2 hb17 hb32 hx3 HO1 Hv1 Hb31 HX3 HX5
    go_upto_region 3 with fail
    obtain ⟨W8, hW8⟩ : ∃ W8, W8 = w2.setCell ⟨B3, 1, none⟩ (.slice a2 (nq + 1) d2) := ⟨_, rfl⟩
    have hx3 : Bx W8 B3 #[.int .i64 rr, .slice a2 (nq + 1) d2, .slice ta nq tc] 53 := by rw [hW8]; have := HX3b.out.set 1 (.slice a2 (nq + 1) d2); simpa using this
    have hx5 : Bx W8 B5 #[.int .i64 tx, .slice ka kn kc] 50 := by rw [hW8]; exact HX5b.out.setne _ _ _ (by have := Hb3.out; have := Hb5.out; omega)
    have hx6 : Bx W8 B6 #[.int .i64 0, .slice none 0 0, .slice none 0 0] 53 := by rw [hW8]; exact HX6b.out.setne _ _ _ (by have := Hb3.out; have := Hb6.out; omega)
    have hO8 : W8.ownsRow W3.heap.size 22 1 (.slice a2 (nq + 1) d2) (nq + 1) (xs ++ [.slice va np vc]) := by rw [hW8]; exact ownsRow_setCell_below HO2.out (a := ⟨B3, 1, none⟩) l3 _
    have hb38 : Below w.heap.size w W8 := by rw [hW8]; exact (hB3.trans (Hb32.out.mono hB3.size)).setCell (p := ⟨B3, 1, none⟩) (by have := Hb3.out; show w.heap.size ≤ B3; omega) _
    have hs8 : W3.heap.size ≤ W8.heap.size := by rw [hW8]; simpa [World.setCell] using hs32
    rw [← hW8]
    clear hW8 c31 cf HX3b HX5b HX6b HO2 Hv2
    have k0 := hx3.c 2
    have k1 := hx5.c 0
    have k2 := hx5.c 1
    have HX3 := hide hx3
    have HX5 := hide hx5
    have HX6 := hide hx6
    have HO8 := hide hO8
    have Hb38 := hide hb38
    clear hx3 hx5 hx6 hO8 hb38
    refine wp_region_noPanic ?_
    refine wp_region_held_drew (S := fun w' => w'.cell? ⟨B5, 0, none⟩ = some (.int .i64 tx) ∧ w'.cell? ⟨B5, 1, none⟩ = some (.slice ka kn kc)) (by kernel_rfl) ⟨k1, k2⟩ (fun hHeld => ?_)
    refine wpAnyH_take (i := 1) (oi := _) (v := ?_) rfl (by kernel_rfl) (by kernel_rfl) (by kernel_rfl) (fun _ _ _ h => h) (Or.inl ⟨by rfl, ?_⟩) (by assumption) ?_
    rotate_left 1
    · (intro w hSw; obtain ⟨hSw1, hSw2⟩ := hSw; (first | (go_simp; done) | (go_simp; with_reducible rfl)))
    try simp only [Act.put, List.getElem_toArray, List.getElem_cons_zero, List.getElem_cons_succ, List.setIfInBounds_toArray, List.set_cons_zero, List.set_cons_succ]
    refine wpAnyH_take (i := 4) (oi := _) (v := ?_) rfl (by kernel_rfl) (by kernel_rfl) (by kernel_rfl) (fun _ _ _ h => h) (Or.inl ⟨by rfl, ?_⟩) (by assumption) ?_
    rotate_left 1
    · (intro w hSw; obtain ⟨hSw1, hSw2⟩ := hSw; (first | (go_simp; done) | (go_simp; with_reducible rfl)))
    try simp only [Act.put, List.getElem_toArray, List.getElem_cons_zero, List.getElem_cons_succ, List.setIfInBounds_toArray, List.set_cons_zero, List.set_cons_succ]
    have HKs : Hid (∀ V, Below W8.heap.size W8 V → V.cell? ⟨B5, 0, none⟩ = some (.int .i64 tx) ∧ V.cell? ⟨B5, 1, none⟩ = some (.slice ka kn kc)) := hide (fun V h => by
      have e5 := (HX5.out.below h HX5.out.lt).c 0
      have e6 := (HX5.out.below h HX5.out.lt).c 1
      exact ⟨by simpa using e5, by simpa using e6⟩)
    have HSc : Hid (∀ V, Below W8.heap.size W8 V → ScX V (.slice ta nq tc) nq 2 ys) := hide (fun V h => (H3.out.below (Hb38.out.trans (h.mono Hb38.out.size))).scx H6.out H4.out.one)
    obtain ⟨V, hV⟩ : ∃ V, V = W8.drew := ⟨_, rfl⟩
    have HbV : Hid (Below W8.heap.size W8 V) := hide (by rw [hV]; exact belowDrew8' (Below.refl _ _))
    rw [← hV]
    clear hV k0 k1 k2
    have HFin : Hid (∀ (V : World) (a4 : Option Addr) (d4 : Nat), Bx V B3 #[.int .i64 rr, .slice a2 (nq + 1) d2, .slice ta nq tc] 53 → Below W8.heap.size W8 V → V.ownsRow W8.heap.size 50 2 (.slice a4 (nq + 1) d4) (nq + 1) (ys ++ [.int .i64 tx, .slice ka kn kc]) → ∃ V9, V9 = V.setCell ⟨B3, 2, none⟩ (.slice a4 (nq + 1) d4) ∧ (V9.cell? ⟨B5, 0, none⟩ = some (.int .i64 tx) ∧ V9.cell? ⟨B5, 1, none⟩ = some (.slice ka kn kc)) ∧ Bx V9 B3 #[.int .i64 rr, .slice a2 (nq + 1) d2, .slice a4 (nq + 1) d4] 53 ∧ Bx V9 B6 #[.int .i64 0, .slice none 0 0, .slice none 0 0] 53 ∧
        ∀ V', V' = ((V9.setCell ⟨B6, 0, none⟩ (.int .i64 rr)).setCell ⟨B6, 1, none⟩ (.slice a2 (nq + 1) d2)).setCell ⟨B6, 2, none⟩ (.slice a4 (nq + 1) d4) → Bx V' B6 #[.int .i64 rr, .slice a2 (nq + 1) d2, .slice a4 (nq + 1) d4] 53 ∧ SqS O V' (.agg #[.int .i64 rr, .slice a2 (nq + 1) d2, .slice a4 (nq + 1) d4]) ⟨rr, R⟩ ∧ Below w.heap.size w V') := hide (fun V a4 d4 hx3 hb hO => by
      have g3 := Hb3.out
      have g5 := Hb5.out
      have g6 := Hb6.out
      have q3 := HX3.out.lt
      have q6 := HX6.out.lt
      have q0 := Hs3.out
      have n5 : B5 ≠ B3 := by omega
      have n6 : B6 ≠ B3 := by omega
      have hx5 := (HX5.out.below hb HX5.out.lt).setne B3 2 (.slice a4 (nq + 1) d4) n5
      have hx6 := (HX6.out.below hb HX6.out.lt).setne B3 2 (.slice a4 (nq + 1) d4) n6
      have hx9 : Bx (V.setCell ⟨B3, 2, none⟩ (.slice a4 (nq + 1) d4)) B3 #[.int .i64 rr, .slice a2 (nq + 1) d2, .slice a4 (nq + 1) d4] 53 := by have := hx3.set 2 (.slice a4 (nq + 1) d4); simpa using this
      refine ⟨_, rfl, ⟨by simpa using hx5.c 0, by simpa using hx5.c 1⟩, hx9, hx6, fun V' hV' => ?_⟩
      have hbV' : Below w.heap.size w V' := by
        rw [hV']
        exact ((((Hb38.out.trans (hb.mono Hb38.out.size)).setCell (p := ⟨B3, 2, none⟩) (by show w.heap.size ≤ B3; omega) _).setCell (p := ⟨B6, 0, none⟩) (by show w.heap.size ≤ B6; omega) _).setCell (p := ⟨B6, 1, none⟩) (by show w.heap.size ≤ B6; omega) _).setCell (p := ⟨B6, 2, none⟩) (by show w.heap.size ≤ B6; omega) _
      have hB6 : Bx V' B6 #[.int .i64 rr, .slice a2 (nq + 1) d2, .slice a4 (nq + 1) d4] 53 := by
        rw [hV']
        have := ((hx6.set 0 (.int .i64 rr)).set 1 (.slice a2 (nq + 1) d2)).set 2 (.slice a4 (nq + 1) d4)
        simpa using this
      have hP : V'.ownsRow W3.heap.size 22 1 (.slice a2 (nq + 1) d2) (nq + 1) (xs ++ [.slice va np vc]) := by
        rw [hV']
        refine ownsRow_setCell_below (ownsRow_setCell_below (ownsRow_setCell_below (ownsRow_setCell_below (own_keep HO8.out (w' := V) (fun k _ hk => hb.block k hk)) (a := ⟨B3, 2, none⟩) ?_ _) (a := ⟨B6, 0, none⟩) ?_ _) (a := ⟨B6, 1, none⟩) ?_ _) (a := ⟨B6, 2, none⟩) ?_ _
        · show B3 < W3.heap.size; omega
        · show B6 < W3.heap.size; omega
        · show B6 < W3.heap.size; omega
        · show B6 < W3.heap.size; omega
      have hT : V'.ownsRow W8.heap.size 50 2 (.slice a4 (nq + 1) d4) (nq + 1) (ys ++ [.int .i64 tx, .slice ka kn kc]) := by
        rw [hV']
        refine ownsRow_setCell_below (ownsRow_setCell_below (ownsRow_setCell_below (ownsRow_setCell_below hO (a := ⟨B3, 2, none⟩) ?_ _) (a := ⟨B6, 0, none⟩) ?_ _) (a := ⟨B6, 1, none⟩) ?_ _) (a := ⟨B6, 2, none⟩) ?_ _
        · exact q3
        · exact q6
        · exact q6
        · exact q6
      have hof : Off O w V' := Off.of_below hbV'
      have hRl : R.length = nq + 1 := by rw [HRe.out, Hnq.out]; simp
      have rP : RowX O V' (.slice a2 (nq + 1) d2) (nq + 1) 1 (xs ++ [.slice va np vc]) := RowX.ofOwn hP (fun g hg ho => by
        have h1 := own_ge hP g hg
        have h2 := HOl.out g ho
        omega)
      have rT : RowX O V' (.slice a4 (nq + 1) d4) (nq + 1) 2 (ys ++ [.int .i64 tx, .slice ka kn kc]) := RowX.ofOwn hT (fun g hg ho => by
        have h1 := own_ge hT g hg
        have h2 := HOl.out g ho
        have h3 := Hb38.out.size
        omega)
      have pC : PaC O V' (xs ++ [.slice va np vc]) R := by
        rw [HRe.out]
        exact (H2.out.later hof (fun i h => .inl h)).snoc (HP.out.later hof (fun i h => .inl h))
      have tC : TrC O V' (ys ++ [.int .i64 tx, .slice ka kn kc]) R := by
        rw [HRe.out, Htx.out]
        exact (H4.out.later hof (fun i h => .inl h)).snoc (a := ⟨p, x, k⟩) (HT.out.later hof (fun i h => .inl h))
      exact ⟨hB6, ⟨.slice a2 (nq + 1) d2, .slice a4 (nq + 1) d4, xs ++ [.slice va np vc], ys ++ [.int .i64 tx, .slice ka kn kc], rfl, (by show RowX O V' (.slice a2 (nq + 1) d2) R.length 1 (xs ++ [.slice va np vc]); rw [hRl]; exact rP), pC, (by show RowX O V' (.slice a4 (nq + 1) d4) R.length 2 (ys ++ [.int .i64 tx, .slice ka kn kc]); rw [hRl]; exact rT), tC, own_cap hP, own_cap hT⟩, hbV'⟩)
    refine wpAnyH_ready (rs := [0, 2, 5]) (by kernel_rfl) (by simp) ?_
    refine AllReadyH.cons (o := _) rfl (fun K hK => ?_) (AllReadyH.cons (o := _) rfl (fun K hK => ?_) (AllReadyH.cons (o := _) rfl (fun K hK => ?_) (AllReadyH.nil)))
    · refine wp_slice0P rfl (fun B0 V2 hB0 hX0 hb => ?_)
      have hbV : Below W8.heap.size W8 V2 := HbV.out.trans (hb.mono HbV.out.size)
      have hO0 : V2.ownsRow W8.heap.size 50 2 (.slice (some ⟨B0, 0, none⟩) 0 0) 0 [] := ⟨rfl, .inr ⟨B0, 0, #[], rfl, by have := HbV.out.size; omega, hX0, Nat.le_refl _, by omega, rfl, rfl⟩⟩
      have HO0 := hide hO0
      clear hO0 hX0 hb
      have HbV2 := hide hbV
      refine hK.out _ _ (HKs.out _ hbV) (fun hHeld => ?_)
      clear hK K hbV HbV
      try simp only [Act.put, List.getElem_toArray, List.getElem_cons_zero, List.getElem_cons_succ, List.setIfInBounds_toArray, List.set_cons_zero, List.set_cons_succ]
      have HbV := HbV2
      clear HbV2
      refine wpAnyH_ready (rs := [2, 5]) (by kernel_rfl) (by simp) ?_
      refine AllReadyH.cons (o := _) rfl (fun K hK => ?_) (AllReadyH.cons (o := _) rfl (fun K hK => ?_) (AllReadyH.nil))
      · have cl := (HX3.out.below HbV.out HX3.out.lt).c 2
        go_simp
        refine hK.out _ _ (HKs.out _ HbV.out) (fun hHeld => ?_)
        clear hK K cl
        try simp only [Act.put, List.getElem_toArray, List.getElem_cons_zero, List.getElem_cons_succ, List.setIfInBounds_toArray, List.set_cons_zero, List.set_cons_succ]
        refine wpAnyH_ready (rs := [3, 5]) (by kernel_rfl) (by simp) ?_
        refine AllReadyH.cons (o := _) rfl (fun K hK => ?_) (AllReadyH.cons (o := _) rfl (fun K hK => ?_) (AllReadyH.nil))
        · refine wp_appP _ _ rfl W8.heap.size _ 0 [] rfl HO0.out (.slice ta nq tc) nq ys rfl (HSc.out _ HbV.out) (by omega) HbV.out.size (fun v3 V2 ho hg ha => ?_)
          (try simp only [Nat.zero_add, List.nil_append] at ho)
          have hbV : Below W8.heap.size W8 V2 := HbV.out.trans ((Below.refl _ _).grown hg HbV.out.size (fun k h => (HO0.out.lt k h).1))
          obtain ⟨a3, d3, e3⟩ := own_form ho
          subst e3
          have HO3 := hide ho
          clear ho hg ha
          have HbV2 := hide hbV
          refine hK.out _ _ (HKs.out _ hbV) (fun hHeld => ?_)
          clear hK K hbV HbV
          try simp only [Act.put, List.getElem_toArray, List.getElem_cons_zero, List.getElem_cons_succ, List.setIfInBounds_toArray, List.set_cons_zero, List.set_cons_succ]
          have HbV := HbV2
          clear HbV2
          refine wpAnyH_ready (rs := [5]) (by kernel_rfl) (by simp) ?_
          refine AllReadyH.cons (o := _) rfl (fun K hK => ?_) (AllReadyH.nil)
          refine wp_slice1P _ rfl tx ka kn kc rfl (fun B1 V2 hB1 hX1 hb => ?_)
          have hbV : Below W8.heap.size W8 V2 := HbV.out.trans (hb.mono HbV.out.size)
          have HXq := hide hX1
          have hO3 := own_keep HO3.out (w' := V2) (fun k _ hk => hb.block k hk)
          replace HO3 := hide hO3
          clear hO3
          clear hX1 hb
          have HbV2 := hide hbV
          refine hK.out _ _ (HKs.out _ hbV) (fun hHeld => ?_)
          clear hK K hbV HbV
          try simp only [Act.put, List.getElem_toArray, List.getElem_cons_zero, List.getElem_cons_succ, List.setIfInBounds_toArray, List.set_cons_zero, List.set_cons_succ]
          have HbV := HbV2
          clear HbV2
          refine wpAnyH_ready (rs := [6]) (by kernel_rfl) (by simp) ?_
          refine AllReadyH.cons (o := _) rfl (fun K hK => ?_) (AllReadyH.nil)
          refine wp_appP _ _ rfl W8.heap.size _ nq ys rfl HO3.out (.slice (some ⟨B1, 0, none⟩) 1 1) 1 [.int .i64 tx, .slice ka kn kc] rfl ⟨rfl, fun u hu => by simp only [List.mem_cons, List.not_mem_nil, or_false] at hu; rcases hu with rfl | rfl <;> rfl, .inr ⟨_, _, rfl, twoC_cells HXq.out⟩⟩ (by omega) HbV.out.size (fun v4 V2 ho hg ha => ?_)
          have hbV : Below W8.heap.size W8 V2 := HbV.out.trans ((Below.refl _ _).grown hg HbV.out.size (fun k h => (HO3.out.lt k h).1))
          obtain ⟨a4, d4, e4⟩ := own_form ho
          subst e4
          have HO4 := hide ho
          clear ho hg ha
          have HbV2 := hide hbV
          refine hK.out _ _ (HKs.out _ hbV) (fun hHeld => ?_)
          clear hK K hbV HbV
          try simp only [Act.put, List.getElem_toArray, List.getElem_cons_zero, List.getElem_cons_succ, List.setIfInBounds_toArray, List.set_cons_zero, List.set_cons_succ]
          have HbV := HbV2
          clear HbV2
          refine wpAnyH_take (i := 7) (oi := _) (v := ?_) rfl (by kernel_rfl) (by kernel_rfl) (by kernel_rfl) (fun _ _ _ h => h) (Or.inl ⟨by rfl, ?_⟩) (by assumption) ?_
          rotate_left 1
          · (intro w hSw; clear hSw; (first | (go_simp; done) | (go_simp; with_reducible rfl)))
          try simp only [Act.put, List.getElem_toArray, List.getElem_cons_zero, List.getElem_cons_succ, List.setIfInBounds_toArray, List.set_cons_zero, List.set_cons_succ]
          have hx3 := HX3.out.below HbV.out HX3.out.lt
          have c2 := hx3.c 2
          have cf := hx3.f
          refine wpAnyH_ready (rs := [8]) (by kernel_rfl) (by simp) ?_
          refine AllReadyH.cons (o := _) rfl (fun K hK => ?_) AllReadyH.nil
          go_simp
          obtain ⟨V9, hV9, hS9, hx39, hx69, hfin⟩ := HFin.out _ a4 d4 hx3 HbV.out HO4.out
          rw [← hV9]
          refine hK.out _ _ hS9 (fun hHeld => ?_)
          clear hK K hV9 hx3 c2 cf
          try simp only [Act.put, List.getElem_toArray, List.getElem_cons_zero, List.getElem_cons_succ, List.setIfInBounds_toArray, List.set_cons_zero, List.set_cons_succ]
          refine wpAnyH_done (by kernel_rfl) ?_ _
          refine NoPanic.normal ?_
          clear hHeld
          have Hfin := hide hfin
          have HX39 := hide hx39
          have HX69 := hide hx69
          have m0 := hx39.c 0
          have m1 := hx39.c 1
          have m2 := hx39.c 2
          have u0 := hx69.c 0
          have u1 := hx69.c 1
          have u2 := hx69.c 2
          have uf := hx69.f
          clear hfin hx39 hx69 hS9
          go_wp2_with fail
          obtain ⟨y1, y2, y3⟩ := Hfin.out _ rfl
          exact bodyPost_ret (v := .agg #[.int .i64 rr, .slice a2 (nq + 1) d2, .slice a4 (nq + 1) d4]) (results_cell_row (p := 6) rfl _ _ B6 53 _ (0, 0) _ rfl y1 Try.underlying53 rfl sqSize) rfl ⟨_, rfl, y2, y3⟩
        · refine wp_slice1P _ rfl tx ka kn kc rfl (fun B1 V2 hB1 hX1 hb => ?_)
          have hbV : Below W8.heap.size W8 V2 := HbV.out.trans (hb.mono HbV.out.size)
          have HXq := hide hX1
          have hNe : B0 ≠ B1 := by have := (HO0.out.lt B0 rfl).2; omega
          have HNe := hide hNe
          have hO0 := own_keep HO0.out (w' := V2) (fun k _ hk => hb.block k hk)
          replace HO0 := hide hO0
          clear hO0 hNe
          clear hX1 hb
          have HbV2 := hide hbV
          refine hK.out _ _ (HKs.out _ hbV) (fun hHeld => ?_)
          clear hK K hbV HbV
          try simp only [Act.put, List.getElem_toArray, List.getElem_cons_zero, List.getElem_cons_succ, List.setIfInBounds_toArray, List.set_cons_zero, List.set_cons_succ]
          have HbV := HbV2
          clear HbV2
          refine wpAnyH_ready (rs := [3]) (by kernel_rfl) (by simp) ?_
          refine AllReadyH.cons (o := _) rfl (fun K hK => ?_) (AllReadyH.nil)
          refine wp_appP _ _ rfl W8.heap.size _ 0 [] rfl HO0.out (.slice ta nq tc) nq ys rfl (HSc.out _ HbV.out) (by omega) HbV.out.size (fun v3 V2 ho hg ha => ?_)
          (try simp only [Nat.zero_add, List.nil_append] at ho)
          have hbV : Below W8.heap.size W8 V2 := HbV.out.trans ((Below.refl _ _).grown hg HbV.out.size (fun k h => (HO0.out.lt k h).1))
          have hXq : Bx V2 B1 #[.int .i64 tx, .slice ka kn kc] 50 := (hg.block B1 HXq.out.lt (fun e => HNe.out (by have ee : some B0 = some B1 := e.symm; simpa using ee))).trans HXq.out
          replace HXq := hide hXq
          clear hXq
          obtain ⟨a3, d3, e3⟩ := own_form ho
          subst e3
          have HO3 := hide ho
          clear ho hg ha
          have HbV2 := hide hbV
          refine hK.out _ _ (HKs.out _ hbV) (fun hHeld => ?_)
          clear hK K hbV HbV
          try simp only [Act.put, List.getElem_toArray, List.getElem_cons_zero, List.getElem_cons_succ, List.setIfInBounds_toArray, List.set_cons_zero, List.set_cons_succ]
          have HbV := HbV2
          clear HbV2
          refine wpAnyH_ready (rs := [6]) (by kernel_rfl) (by simp) ?_
          refine AllReadyH.cons (o := _) rfl (fun K hK => ?_) (AllReadyH.nil)
          refine wp_appP _ _ rfl W8.heap.size _ nq ys rfl HO3.out (.slice (some ⟨B1, 0, none⟩) 1 1) 1 [.int .i64 tx, .slice ka kn kc] rfl ⟨rfl, fun u hu => by simp only [List.mem_cons, List.not_mem_nil, or_false] at hu; rcases hu with rfl | rfl <;> rfl, .inr ⟨_, _, rfl, twoC_cells HXq.out⟩⟩ (by omega) HbV.out.size (fun v4 V2 ho hg ha => ?_)
          have hbV : Below W8.heap.size W8 V2 := HbV.out.trans ((Below.refl _ _).grown hg HbV.out.size (fun k h => (HO3.out.lt k h).1))
          obtain ⟨a4, d4, e4⟩ := own_form ho
          subst e4
          have HO4 := hide ho
          clear ho hg ha
          have HbV2 := hide hbV
          refine hK.out _ _ (HKs.out _ hbV) (fun hHeld => ?_)
          clear hK K hbV HbV
          try simp only [Act.put, List.getElem_toArray, List.getElem_cons_zero, List.getElem_cons_succ, List.setIfInBounds_toArray, List.set_cons_zero, List.set_cons_succ]
          have HbV := HbV2
          clear HbV2
          refine wpAnyH_take (i := 7) (oi := _) (v := ?_) rfl (by kernel_rfl) (by kernel_rfl) (by kernel_rfl) (fun _ _ _ h => h) (Or.inl ⟨by rfl, ?_⟩) (by assumption) ?_
          rotate_left 1
          · (intro w hSw; clear hSw; (first | (go_simp; done) | (go_simp; with_reducible rfl)))
          try simp only [Act.put, List.getElem_toArray, List.getElem_cons_zero, List.getElem_cons_succ, List.setIfInBounds_toArray, List.set_cons_zero, List.set_cons_succ]
          have hx3 := HX3.out.below HbV.out HX3.out.lt
          have c2 := hx3.c 2
          have cf := hx3.f
          refine wpAnyH_ready (rs := [8]) (by kernel_rfl) (by simp) ?_
          refine AllReadyH.cons (o := _) rfl (fun K hK => ?_) AllReadyH.nil
          go_simp
          obtain ⟨V9, hV9, hS9, hx39, hx69, hfin⟩ := HFin.out _ a4 d4 hx3 HbV.out HO4.out
          rw [← hV9]
          refine hK.out _ _ hS9 (fun hHeld => ?_)
          clear hK K hV9 hx3 c2 cf
          try simp only [Act.put, List.getElem_toArray, List.getElem_cons_zero, List.getElem_cons_succ, List.setIfInBounds_toArray, List.set_cons_zero, List.set_cons_succ]
          refine wpAnyH_done (by kernel_rfl) ?_ _
          refine NoPanic.normal ?_
          clear hHeld
          have Hfin := hide hfin
          have HX39 := hide hx39
          have HX69 := hide hx69
          have m0 := hx39.c 0
          have m1 := hx39.c 1
          have m2 := hx39.c 2
          have u0 := hx69.c 0
          have u1 := hx69.c 1
          have u2 := hx69.c 2
          have uf := hx69.f
          clear hfin hx39 hx69 hS9
          go_wp2_with fail
          obtain ⟨y1, y2, y3⟩ := Hfin.out _ rfl
          exact bodyPost_ret (v := .agg #[.int .i64 rr, .slice a2 (nq + 1) d2, .slice a4 (nq + 1) d4]) (results_cell_row (p := 6) rfl _ _ B6 53 _ (0, 0) _ rfl y1 Try.underlying53 rfl sqSize) rfl ⟨_, rfl, y2, y3⟩
      · refine wp_slice1P _ rfl tx ka kn kc rfl (fun B1 V2 hB1 hX1 hb => ?_)
        have hbV : Below W8.heap.size W8 V2 := HbV.out.trans (hb.mono HbV.out.size)
        have HXq := hide hX1
        have hNe : B0 ≠ B1 := by have := (HO0.out.lt B0 rfl).2; omega
        have HNe := hide hNe
        have hO0 := own_keep HO0.out (w' := V2) (fun k _ hk => hb.block k hk)
        replace HO0 := hide hO0
        clear hO0 hNe
        clear hX1 hb
        have HbV2 := hide hbV
        refine hK.out _ _ (HKs.out _ hbV) (fun hHeld => ?_)
        clear hK K hbV HbV
        try simp only [Act.put, List.getElem_toArray, List.getElem_cons_zero, List.getElem_cons_succ, List.setIfInBounds_toArray, List.set_cons_zero, List.set_cons_succ]
        have HbV := HbV2
        clear HbV2
        refine wpAnyH_ready (rs := [2]) (by kernel_rfl) (by simp) ?_
        refine AllReadyH.cons (o := _) rfl (fun K hK => ?_) (AllReadyH.nil)
        have cl := (HX3.out.below HbV.out HX3.out.lt).c 2
        go_simp
        refine hK.out _ _ (HKs.out _ HbV.out) (fun hHeld => ?_)
        clear hK K cl
        try simp only [Act.put, List.getElem_toArray, List.getElem_cons_zero, List.getElem_cons_succ, List.setIfInBounds_toArray, List.set_cons_zero, List.set_cons_succ]
        refine wpAnyH_ready (rs := [3]) (by kernel_rfl) (by simp) ?_
        refine AllReadyH.cons (o := _) rfl (fun K hK => ?_) (AllReadyH.nil)
        refine wp_appP _ _ rfl W8.heap.size _ 0 [] rfl HO0.out (.slice ta nq tc) nq ys rfl (HSc.out _ HbV.out) (by omega) HbV.out.size (fun v3 V2 ho hg ha => ?_)
        (try simp only [Nat.zero_add, List.nil_append] at ho)
        have hbV : Below W8.heap.size W8 V2 := HbV.out.trans ((Below.refl _ _).grown hg HbV.out.size (fun k h => (HO0.out.lt k h).1))
        have hXq : Bx V2 B1 #[.int .i64 tx, .slice ka kn kc] 50 := (hg.block B1 HXq.out.lt (fun e => HNe.out (by have ee : some B0 = some B1 := e.symm; simpa using ee))).trans HXq.out
        replace HXq := hide hXq
        clear hXq
        obtain ⟨a3, d3, e3⟩ := own_form ho
        subst e3
        have HO3 := hide ho
        clear ho hg ha
        have HbV2 := hide hbV
        refine hK.out _ _ (HKs.out _ hbV) (fun hHeld => ?_)
        clear hK K hbV HbV
        try simp only [Act.put, List.getElem_toArray, List.getElem_cons_zero, List.getElem_cons_succ, List.setIfInBounds_toArray, List.set_cons_zero, List.set_cons_succ]
        have HbV := HbV2
        clear HbV2
        refine wpAnyH_ready (rs := [6]) (by kernel_rfl) (by simp) ?_
        refine AllReadyH.cons (o := _) rfl (fun K hK => ?_) (AllReadyH.nil)
        refine wp_appP _ _ rfl W8.heap.size _ nq ys rfl HO3.out (.slice (some ⟨B1, 0, none⟩) 1 1) 1 [.int .i64 tx, .slice ka kn kc] rfl ⟨rfl, fun u hu => by simp only [List.mem_cons, List.not_mem_nil, or_false] at hu; rcases hu with rfl | rfl <;> rfl, .inr ⟨_, _, rfl, twoC_cells HXq.out⟩⟩ (by omega) HbV.out.size (fun v4 V2 ho hg ha => ?_)
        have hbV : Below W8.heap.size W8 V2 := HbV.out.trans ((Below.refl _ _).grown hg HbV.out.size (fun k h => (HO3.out.lt k h).1))
        obtain ⟨a4, d4, e4⟩ := own_form ho
        subst e4
        have HO4 := hide ho
        clear ho hg ha
        have HbV2 := hide hbV
        refine hK.out _ _ (HKs.out _ hbV) (fun hHeld => ?_)
        clear hK K hbV HbV
        try simp only [Act.put, List.getElem_toArray, List.getElem_cons_zero, List.getElem_cons_succ, List.setIfInBounds_toArray, List.set_cons_zero, List.set_cons_succ]
        have HbV := HbV2
        clear HbV2
        refine wpAnyH_take (i := 7) (oi := _) (v := ?_) rfl (by kernel_rfl) (by kernel_rfl) (by kernel_rfl) (fun _ _ _ h => h) (Or.inl ⟨by rfl, ?_⟩) (by assumption) ?_
        rotate_left 1
        · (intro w hSw; clear hSw; (first | (go_simp; done) | (go_simp; with_reducible rfl)))
        try simp only [Act.put, List.getElem_toArray, List.getElem_cons_zero, List.getElem_cons_succ, List.setIfInBounds_toArray, List.set_cons_zero, List.set_cons_succ]
        have hx3 := HX3.out.below HbV.out HX3.out.lt
        have c2 := hx3.c 2
        have cf := hx3.f
        refine wpAnyH_ready (rs := [8]) (by kernel_rfl) (by simp) ?_
        refine AllReadyH.cons (o := _) rfl (fun K hK => ?_) AllReadyH.nil
        go_simp
        obtain ⟨V9, hV9, hS9, hx39, hx69, hfin⟩ := HFin.out _ a4 d4 hx3 HbV.out HO4.out
        rw [← hV9]
        refine hK.out _ _ hS9 (fun hHeld => ?_)
        clear hK K hV9 hx3 c2 cf
        try simp only [Act.put, List.getElem_toArray, List.getElem_cons_zero, List.getElem_cons_succ, List.setIfInBounds_toArray, List.set_cons_zero, List.set_cons_succ]
        refine wpAnyH_done (by kernel_rfl) ?_ _
        refine NoPanic.normal ?_
        clear hHeld
        have Hfin := hide hfin
        have HX39 := hide hx39
        have HX69 := hide hx69
        have m0 := hx39.c 0
        have m1 := hx39.c 1
        have m2 := hx39.c 2
        have u0 := hx69.c 0
        have u1 := hx69.c 1
        have u2 := hx69.c 2
        have uf := hx69.f
        clear hfin hx39 hx69 hS9
        go_wp2_with fail
        obtain ⟨y1, y2, y3⟩ := Hfin.out _ rfl
        exact bodyPost_ret (v := .agg #[.int .i64 rr, .slice a2 (nq + 1) d2, .slice a4 (nq + 1) d4]) (results_cell_row (p := 6) rfl _ _ B6 53 _ (0, 0) _ rfl y1 Try.underlying53 rfl sqSize) rfl ⟨_, rfl, y2, y3⟩
    · have cl := (HX3.out.below HbV.out HX3.out.lt).c 2
      go_simp
      refine hK.out _ _ (HKs.out _ HbV.out) (fun hHeld => ?_)
      clear hK K cl
      try simp only [Act.put, List.getElem_toArray, List.getElem_cons_zero, List.getElem_cons_succ, List.setIfInBounds_toArray, List.set_cons_zero, List.set_cons_succ]
      refine wpAnyH_ready (rs := [0, 5]) (by kernel_rfl) (by simp) ?_
      refine AllReadyH.cons (o := _) rfl (fun K hK => ?_) (AllReadyH.cons (o := _) rfl (fun K hK => ?_) (AllReadyH.nil))
      · refine wp_slice0P rfl (fun B0 V2 hB0 hX0 hb => ?_)
        have hbV : Below W8.heap.size W8 V2 := HbV.out.trans (hb.mono HbV.out.size)
        have hO0 : V2.ownsRow W8.heap.size 50 2 (.slice (some ⟨B0, 0, none⟩) 0 0) 0 [] := ⟨rfl, .inr ⟨B0, 0, #[], rfl, by have := HbV.out.size; omega, hX0, Nat.le_refl _, by omega, rfl, rfl⟩⟩
        have HO0 := hide hO0
        clear hO0 hX0 hb
        have HbV2 := hide hbV
        refine hK.out _ _ (HKs.out _ hbV) (fun hHeld => ?_)
        clear hK K hbV HbV
        try simp only [Act.put, List.getElem_toArray, List.getElem_cons_zero, List.getElem_cons_succ, List.setIfInBounds_toArray, List.set_cons_zero, List.set_cons_succ]
        have HbV := HbV2
        clear HbV2
        refine wpAnyH_ready (rs := [3, 5]) (by kernel_rfl) (by simp) ?_
        refine AllReadyH.cons (o := _) rfl (fun K hK => ?_) (AllReadyH.cons (o := _) rfl (fun K hK => ?_) (AllReadyH.nil))
        · refine wp_appP _ _ rfl W8.heap.size _ 0 [] rfl HO0.out (.slice ta nq tc) nq ys rfl (HSc.out _ HbV.out) (by omega) HbV.out.size (fun v3 V2 ho hg ha => ?_)
          (try simp only [Nat.zero_add, List.nil_append] at ho)
          have hbV : Below W8.heap.size W8 V2 := HbV.out.trans ((Below.refl _ _).grown hg HbV.out.size (fun k h => (HO0.out.lt k h).1))
          obtain ⟨a3, d3, e3⟩ := own_form ho
          subst e3
          have HO3 := hide ho
          clear ho hg ha
          have HbV2 := hide hbV
          refine hK.out _ _ (HKs.out _ hbV) (fun hHeld => ?_)
          clear hK K hbV HbV
          try simp only [Act.put, List.getElem_toArray, List.getElem_cons_zero, List.getElem_cons_succ, List.setIfInBounds_toArray, List.set_cons_zero, List.set_cons_succ]
          have HbV := HbV2
          clear HbV2
          refine wpAnyH_ready (rs := [5]) (by kernel_rfl) (by simp) ?_
          refine AllReadyH.cons (o := _) rfl (fun K hK => ?_) (AllReadyH.nil)
          refine wp_slice1P _ rfl tx ka kn kc rfl (fun B1 V2 hB1 hX1 hb => ?_)
          have hbV : Below W8.heap.size W8 V2 := HbV.out.trans (hb.mono HbV.out.size)
          have HXq := hide hX1
          have hO3 := own_keep HO3.out (w' := V2) (fun k _ hk => hb.block k hk)
          replace HO3 := hide hO3
          clear hO3
          clear hX1 hb
          have HbV2 := hide hbV
          refine hK.out _ _ (HKs.out _ hbV) (fun hHeld => ?_)
          clear hK K hbV HbV
          try simp only [Act.put, List.getElem_toArray, List.getElem_cons_zero, List.getElem_cons_succ, List.setIfInBounds_toArray, List.set_cons_zero, List.set_cons_succ]
          have HbV := HbV2
          clear HbV2
          refine wpAnyH_ready (rs := [6]) (by kernel_rfl) (by simp) ?_
          refine AllReadyH.cons (o := _) rfl (fun K hK => ?_) (AllReadyH.nil)
          refine wp_appP _ _ rfl W8.heap.size _ nq ys rfl HO3.out (.slice (some ⟨B1, 0, none⟩) 1 1) 1 [.int .i64 tx, .slice ka kn kc] rfl ⟨rfl, fun u hu => by simp only [List.mem_cons, List.not_mem_nil, or_false] at hu; rcases hu with rfl | rfl <;> rfl, .inr ⟨_, _, rfl, twoC_cells HXq.out⟩⟩ (by omega) HbV.out.size (fun v4 V2 ho hg ha => ?_)
          have hbV : Below W8.heap.size W8 V2 := HbV.out.trans ((Below.refl _ _).grown hg HbV.out.size (fun k h => (HO3.out.lt k h).1))
          obtain ⟨a4, d4, e4⟩ := own_form ho
          subst e4
          have HO4 := hide ho
          clear ho hg ha
          have HbV2 := hide hbV
          refine hK.out _ _ (HKs.out _ hbV) (fun hHeld => ?_)
          clear hK K hbV HbV
          try simp only [Act.put, List.getElem_toArray, List.getElem_cons_zero, List.getElem_cons_succ, List.setIfInBounds_toArray, List.set_cons_zero, List.set_cons_succ]
          have HbV := HbV2
          clear HbV2
          refine wpAnyH_take (i := 7) (oi := _) (v := ?_) rfl (by kernel_rfl) (by kernel_rfl) (by kernel_rfl) (fun _ _ _ h => h) (Or.inl ⟨by rfl, ?_⟩) (by assumption) ?_
          rotate_left 1
          · (intro w hSw; clear hSw; (first | (go_simp; done) | (go_simp; with_reducible rfl)))
          try simp only [Act.put, List.getElem_toArray, List.getElem_cons_zero, List.getElem_cons_succ, List.setIfInBounds_toArray, List.set_cons_zero, List.set_cons_succ]
          have hx3 := HX3.out.below HbV.out HX3.out.lt
          have c2 := hx3.c 2
          have cf := hx3.f
          refine wpAnyH_ready (rs := [8]) (by kernel_rfl) (by simp) ?_
          refine AllReadyH.cons (o := _) rfl (fun K hK => ?_) AllReadyH.nil
          go_simp
          obtain ⟨V9, hV9, hS9, hx39, hx69, hfin⟩ := HFin.out _ a4 d4 hx3 HbV.out HO4.out
          rw [← hV9]
          refine hK.out _ _ hS9 (fun hHeld => ?_)
          clear hK K hV9 hx3 c2 cf
          try simp only [Act.put, List.getElem_toArray, List.getElem_cons_zero, List.getElem_cons_succ, List.setIfInBounds_toArray, List.set_cons_zero, List.set_cons_succ]
          refine wpAnyH_done (by kernel_rfl) ?_ _
          refine NoPanic.normal ?_
          clear hHeld
          have Hfin := hide hfin
          have HX39 := hide hx39
          have HX69 := hide hx69
          have m0 := hx39.c 0
          have m1 := hx39.c 1
          have m2 := hx39.c 2
          have u0 := hx69.c 0
          have u1 := hx69.c 1
          have u2 := hx69.c 2
          have uf := hx69.f
          clear hfin hx39 hx69 hS9
          go_wp2_with fail
          obtain ⟨y1, y2, y3⟩ := Hfin.out _ rfl
          exact bodyPost_ret (v := .agg #[.int .i64 rr, .slice a2 (nq + 1) d2, .slice a4 (nq + 1) d4]) (results_cell_row (p := 6) rfl _ _ B6 53 _ (0, 0) _ rfl y1 Try.underlying53 rfl sqSize) rfl ⟨_, rfl, y2, y3⟩
        · refine wp_slice1P _ rfl tx ka kn kc rfl (fun B1 V2 hB1 hX1 hb => ?_)
          have hbV : Below W8.heap.size W8 V2 := HbV.out.trans (hb.mono HbV.out.size)
          have HXq := hide hX1
          have hNe : B0 ≠ B1 := by have := (HO0.out.lt B0 rfl).2; omega
          have HNe := hide hNe
          have hO0 := own_keep HO0.out (w' := V2) (fun k _ hk => hb.block k hk)
          replace HO0 := hide hO0
          clear hO0 hNe
          clear hX1 hb
          have HbV2 := hide hbV
          refine hK.out _ _ (HKs.out _ hbV) (fun hHeld => ?_)
          clear hK K hbV HbV
          try simp only [Act.put, List.getElem_toArray, List.getElem_cons_zero, List.getElem_cons_succ, List.setIfInBounds_toArray, List.set_cons_zero, List.set_cons_succ]
          have HbV := HbV2
          clear HbV2
          refine wpAnyH_ready (rs := [3]) (by kernel_rfl) (by simp) ?_
          refine AllReadyH.cons (o := _) rfl (fun K hK => ?_) (AllReadyH.nil)
          refine wp_appP _ _ rfl W8.heap.size _ 0 [] rfl HO0.out (.slice ta nq tc) nq ys rfl (HSc.out _ HbV.out) (by omega) HbV.out.size (fun v3 V2 ho hg ha => ?_)
          (try simp only [Nat.zero_add, List.nil_append] at ho)
          have hbV : Below W8.heap.size W8 V2 := HbV.out.trans ((Below.refl _ _).grown hg HbV.out.size (fun k h => (HO0.out.lt k h).1))
          have hXq : Bx V2 B1 #[.int .i64 tx, .slice ka kn kc] 50 := (hg.block B1 HXq.out.lt (fun e => HNe.out (by have ee : some B0 = some B1 := e.symm; simpa using ee))).trans HXq.out
          replace HXq := hide hXq
          clear hXq
          obtain ⟨a3, d3, e3⟩ := own_form ho
          subst e3
          have HO3 := hide ho
          clear ho hg ha
          have HbV2 := hide hbV
          refine hK.out _ _ (HKs.out _ hbV) (fun hHeld => ?_)
          clear hK K hbV HbV
          try simp only [Act.put, List.getElem_toArray, List.getElem_cons_zero, List.getElem_cons_succ, List.setIfInBounds_toArray, List.set_cons_zero, List.set_cons_succ]
          have HbV := HbV2
          clear HbV2
          refine wpAnyH_ready (rs := [6]) (by kernel_rfl) (by simp) ?_
          refine AllReadyH.cons (o := _) rfl (fun K hK => ?_) (AllReadyH.nil)
          refine wp_appP _ _ rfl W8.heap.size _ nq ys rfl HO3.out (.slice (some ⟨B1, 0, none⟩) 1 1) 1 [.int .i64 tx, .slice ka kn kc] rfl ⟨rfl, fun u hu => by simp only [List.mem_cons, List.not_mem_nil, or_false] at hu; rcases hu with rfl | rfl <;> rfl, .inr ⟨_, _, rfl, twoC_cells HXq.out⟩⟩ (by omega) HbV.out.size (fun v4 V2 ho hg ha => ?_)
          have hbV : Below W8.heap.size W8 V2 := HbV.out.trans ((Below.refl _ _).grown hg HbV.out.size (fun k h => (HO3.out.lt k h).1))
          obtain ⟨a4, d4, e4⟩ := own_form ho
          subst e4
          have HO4 := hide ho
          clear ho hg ha
          have HbV2 := hide hbV
          refine hK.out _ _ (HKs.out _ hbV) (fun hHeld => ?_)
          clear hK K hbV HbV
          try simp only [Act.put, List.getElem_toArray, List.getElem_cons_zero, List.getElem_cons_succ, List.setIfInBounds_toArray, List.set_cons_zero, List.set_cons_succ]
          have HbV := HbV2
          clear HbV2
          refine wpAnyH_take (i := 7) (oi := _) (v := ?_) rfl (by kernel_rfl) (by kernel_rfl) (by kernel_rfl) (fun _ _ _ h => h) (Or.inl ⟨by rfl, ?_⟩) (by assumption) ?_
          rotate_left 1
          · (intro w hSw; clear hSw; (first | (go_simp; done) | (go_simp; with_reducible rfl)))
          try simp only [Act.put, List.getElem_toArray, List.getElem_cons_zero, List.getElem_cons_succ, List.setIfInBounds_toArray, List.set_cons_zero, List.set_cons_succ]
          have hx3 := HX3.out.below HbV.out HX3.out.lt
          have c2 := hx3.c 2
          have cf := hx3.f
          refine wpAnyH_ready (rs := [8]) (by kernel_rfl) (by simp) ?_
          refine AllReadyH.cons (o := _) rfl (fun K hK => ?_) AllReadyH.nil
          go_simp
          obtain ⟨V9, hV9, hS9, hx39, hx69, hfin⟩ := HFin.out _ a4 d4 hx3 HbV.out HO4.out
          rw [← hV9]
          refine hK.out _ _ hS9 (fun hHeld => ?_)
          clear hK K hV9 hx3 c2 cf
          try simp only [Act.put, List.getElem_toArray, List.getElem_cons_zero, List.getElem_cons_succ, List.setIfInBounds_toArray, List.set_cons_zero, List.set_cons_succ]
          refine wpAnyH_done (by kernel_rfl) ?_ _
          refine NoPanic.normal ?_
          clear hHeld
          have Hfin := hide hfin
          have HX39 := hide hx39
          have HX69 := hide hx69
          have m0 := hx39.c 0
          have m1 := hx39.c 1
          have m2 := hx39.c 2
          have u0 := hx69.c 0
          have u1 := hx69.c 1
          have u2 := hx69.c 2
          have uf := hx69.f
          clear hfin hx39 hx69 hS9
          go_wp2_with fail
          obtain ⟨y1, y2, y3⟩ := Hfin.out _ rfl
          exact bodyPost_ret (v := .agg #[.int .i64 rr, .slice a2 (nq + 1) d2, .slice a4 (nq + 1) d4]) (results_cell_row (p := 6) rfl _ _ B6 53 _ (0, 0) _ rfl y1 Try.underlying53 rfl sqSize) rfl ⟨_, rfl, y2, y3⟩
      · refine wp_slice1P _ rfl tx ka kn kc rfl (fun B1 V2 hB1 hX1 hb => ?_)
        have hbV : Below W8.heap.size W8 V2 := HbV.out.trans (hb.mono HbV.out.size)
        have HXq := hide hX1
        clear hX1 hb
        have HbV2 := hide hbV
        refine hK.out _ _ (HKs.out _ hbV) (fun hHeld => ?_)
        clear hK K hbV HbV
        try simp only [Act.put, List.getElem_toArray, List.getElem_cons_zero, List.getElem_cons_succ, List.setIfInBounds_toArray, List.set_cons_zero, List.set_cons_succ]
        have HbV := HbV2
        clear HbV2
        refine wpAnyH_ready (rs := [0]) (by kernel_rfl) (by simp) ?_
        refine AllReadyH.cons (o := _) rfl (fun K hK => ?_) (AllReadyH.nil)
        refine wp_slice0P rfl (fun B0 V2 hB0 hX0 hb => ?_)
        have hbV : Below W8.heap.size W8 V2 := HbV.out.trans (hb.mono HbV.out.size)
        have hO0 : V2.ownsRow W8.heap.size 50 2 (.slice (some ⟨B0, 0, none⟩) 0 0) 0 [] := ⟨rfl, .inr ⟨B0, 0, #[], rfl, by have := HbV.out.size; omega, hX0, Nat.le_refl _, by omega, rfl, rfl⟩⟩
        have hXq := HXq.out.below hb HXq.out.lt
        have hNe : B0 ≠ B1 := by have := HXq.out.lt; omega
        replace HXq := hide hXq
        have HNe := hide hNe
        clear hXq hNe
        have HO0 := hide hO0
        clear hO0 hX0 hb
        have HbV2 := hide hbV
        refine hK.out _ _ (HKs.out _ hbV) (fun hHeld => ?_)
        clear hK K hbV HbV
        try simp only [Act.put, List.getElem_toArray, List.getElem_cons_zero, List.getElem_cons_succ, List.setIfInBounds_toArray, List.set_cons_zero, List.set_cons_succ]
        have HbV := HbV2
        clear HbV2
        refine wpAnyH_ready (rs := [3]) (by kernel_rfl) (by simp) ?_
        refine AllReadyH.cons (o := _) rfl (fun K hK => ?_) (AllReadyH.nil)
        refine wp_appP _ _ rfl W8.heap.size _ 0 [] rfl HO0.out (.slice ta nq tc) nq ys rfl (HSc.out _ HbV.out) (by omega) HbV.out.size (fun v3 V2 ho hg ha => ?_)
        (try simp only [Nat.zero_add, List.nil_append] at ho)
        have hbV : Below W8.heap.size W8 V2 := HbV.out.trans ((Below.refl _ _).grown hg HbV.out.size (fun k h => (HO0.out.lt k h).1))
        have hXq : Bx V2 B1 #[.int .i64 tx, .slice ka kn kc] 50 := (hg.block B1 HXq.out.lt (fun e => HNe.out (by have ee : some B0 = some B1 := e.symm; simpa using ee))).trans HXq.out
        replace HXq := hide hXq
        clear hXq
        obtain ⟨a3, d3, e3⟩ := own_form ho
        subst e3
        have HO3 := hide ho
        clear ho hg ha
        have HbV2 := hide hbV
        refine hK.out _ _ (HKs.out _ hbV) (fun hHeld => ?_)
        clear hK K hbV HbV
        try simp only [Act.put, List.getElem_toArray, List.getElem_cons_zero, List.getElem_cons_succ, List.setIfInBounds_toArray, List.set_cons_zero, List.set_cons_succ]
        have HbV := HbV2
        clear HbV2
        refine wpAnyH_ready (rs := [6]) (by kernel_rfl) (by simp) ?_
        refine AllReadyH.cons (o := _) rfl (fun K hK => ?_) (AllReadyH.nil)
        refine wp_appP _ _ rfl W8.heap.size _ nq ys rfl HO3.out (.slice (some ⟨B1, 0, none⟩) 1 1) 1 [.int .i64 tx, .slice ka kn kc] rfl ⟨rfl, fun u hu => by simp only [List.mem_cons, List.not_mem_nil, or_false] at hu; rcases hu with rfl | rfl <;> rfl, .inr ⟨_, _, rfl, twoC_cells HXq.out⟩⟩ (by omega) HbV.out.size (fun v4 V2 ho hg ha => ?_)
        have hbV : Below W8.heap.size W8 V2 := HbV.out.trans ((Below.refl _ _).grown hg HbV.out.size (fun k h => (HO3.out.lt k h).1))
        obtain ⟨a4, d4, e4⟩ := own_form ho
        subst e4
        have HO4 := hide ho
        clear ho hg ha
        have HbV2 := hide hbV
        refine hK.out _ _ (HKs.out _ hbV) (fun hHeld => ?_)
        clear hK K hbV HbV
        try simp only [Act.put, List.getElem_toArray, List.getElem_cons_zero, List.getElem_cons_succ, List.setIfInBounds_toArray, List.set_cons_zero, List.set_cons_succ]
        have HbV := HbV2
        clear HbV2
        refine wpAnyH_take (i := 7) (oi := _) (v := ?_) rfl (by kernel_rfl) (by kernel_rfl) (by kernel_rfl) (fun _ _ _ h => h) (Or.inl ⟨by rfl, ?_⟩) (by assumption) ?_
        rotate_left 1
        · (intro w hSw; clear hSw; (first | (go_simp; done) | (go_simp; with_reducible rfl)))
        try simp only [Act.put, List.getElem_toArray, List.getElem_cons_zero, List.getElem_cons_succ, List.setIfInBounds_toArray, List.set_cons_zero, List.set_cons_succ]
        have hx3 := HX3.out.below HbV.out HX3.out.lt
        have c2 := hx3.c 2
        have cf := hx3.f
        refine wpAnyH_ready (rs := [8]) (by kernel_rfl) (by simp) ?_
        refine AllReadyH.cons (o := _) rfl (fun K hK => ?_) AllReadyH.nil
        go_simp
        obtain ⟨V9, hV9, hS9, hx39, hx69, hfin⟩ := HFin.out _ a4 d4 hx3 HbV.out HO4.out
        rw [← hV9]
        refine hK.out _ _ hS9 (fun hHeld => ?_)
        clear hK K hV9 hx3 c2 cf
        try simp only [Act.put, List.getElem_toArray, List.getElem_cons_zero, List.getElem_cons_succ, List.setIfInBounds_toArray, List.set_cons_zero, List.set_cons_succ]
        refine wpAnyH_done (by kernel_rfl) ?_ _
        refine NoPanic.normal ?_
        clear hHeld
        have Hfin := hide hfin
        have HX39 := hide hx39
        have HX69 := hide hx69
        have m0 := hx39.c 0
        have m1 := hx39.c 1
        have m2 := hx39.c 2
        have u0 := hx69.c 0
        have u1 := hx69.c 1
        have u2 := hx69.c 2
        have uf := hx69.f
        clear hfin hx39 hx69 hS9
        go_wp2_with fail
        obtain ⟨y1, y2, y3⟩ := Hfin.out _ rfl
        exact bodyPost_ret (v := .agg #[.int .i64 rr, .slice a2 (nq + 1) d2, .slice a4 (nq + 1) d4]) (results_cell_row (p := 6) rfl _ _ B6 53 _ (0, 0) _ rfl y1 Try.underlying53 rfl sqSize) rfl ⟨_, rfl, y2, y3⟩
    · refine wp_slice1P _ rfl tx ka kn kc rfl (fun B1 V2 hB1 hX1 hb => ?_)
      have hbV : Below W8.heap.size W8 V2 := HbV.out.trans (hb.mono HbV.out.size)
      have HXq := hide hX1
      clear hX1 hb
      have HbV2 := hide hbV
      refine hK.out _ _ (HKs.out _ hbV) (fun hHeld => ?_)
      clear hK K hbV HbV
      try simp only [Act.put, List.getElem_toArray, List.getElem_cons_zero, List.getElem_cons_succ, List.setIfInBounds_toArray, List.set_cons_zero, List.set_cons_succ]
      have HbV := HbV2
      clear HbV2
      refine wpAnyH_ready (rs := [0, 2]) (by kernel_rfl) (by simp) ?_
      refine AllReadyH.cons (o := _) rfl (fun K hK => ?_) (AllReadyH.cons (o := _) rfl (fun K hK => ?_) (AllReadyH.nil))
      · refine wp_slice0P rfl (fun B0 V2 hB0 hX0 hb => ?_)
        have hbV : Below W8.heap.size W8 V2 := HbV.out.trans (hb.mono HbV.out.size)
        have hO0 : V2.ownsRow W8.heap.size 50 2 (.slice (some ⟨B0, 0, none⟩) 0 0) 0 [] := ⟨rfl, .inr ⟨B0, 0, #[], rfl, by have := HbV.out.size; omega, hX0, Nat.le_refl _, by omega, rfl, rfl⟩⟩
        have hXq := HXq.out.below hb HXq.out.lt
        have hNe : B0 ≠ B1 := by have := HXq.out.lt; omega
        replace HXq := hide hXq
        have HNe := hide hNe
        clear hXq hNe
        have HO0 := hide hO0
        clear hO0 hX0 hb
        have HbV2 := hide hbV
        refine hK.out _ _ (HKs.out _ hbV) (fun hHeld => ?_)
        clear hK K hbV HbV
        try simp only [Act.put, List.getElem_toArray, List.getElem_cons_zero, List.getElem_cons_succ, List.setIfInBounds_toArray, List.set_cons_zero, List.set_cons_succ]
        have HbV := HbV2
        clear HbV2
        refine wpAnyH_ready (rs := [2]) (by kernel_rfl) (by simp) ?_
        refine AllReadyH.cons (o := _) rfl (fun K hK => ?_) (AllReadyH.nil)
        have cl := (HX3.out.below HbV.out HX3.out.lt).c 2
        go_simp
        refine hK.out _ _ (HKs.out _ HbV.out) (fun hHeld => ?_)
        clear hK K cl
        try simp only [Act.put, List.getElem_toArray, List.getElem_cons_zero, List.getElem_cons_succ, List.setIfInBounds_toArray, List.set_cons_zero, List.set_cons_succ]
        refine wpAnyH_ready (rs := [3]) (by kernel_rfl) (by simp) ?_
        refine AllReadyH.cons (o := _) rfl (fun K hK => ?_) (AllReadyH.nil)
        refine wp_appP _ _ rfl W8.heap.size _ 0 [] rfl HO0.out (.slice ta nq tc) nq ys rfl (HSc.out _ HbV.out) (by omega) HbV.out.size (fun v3 V2 ho hg ha => ?_)
        (try simp only [Nat.zero_add, List.nil_append] at ho)
        have hbV : Below W8.heap.size W8 V2 := HbV.out.trans ((Below.refl _ _).grown hg HbV.out.size (fun k h => (HO0.out.lt k h).1))
        have hXq : Bx V2 B1 #[.int .i64 tx, .slice ka kn kc] 50 := (hg.block B1 HXq.out.lt (fun e => HNe.out (by have ee : some B0 = some B1 := e.symm; simpa using ee))).trans HXq.out
        replace HXq := hide hXq
        clear hXq
        obtain ⟨a3, d3, e3⟩ := own_form ho
        subst e3
        have HO3 := hide ho
        clear ho hg ha
        have HbV2 := hide hbV
        refine hK.out _ _ (HKs.out _ hbV) (fun hHeld => ?_)
        clear hK K hbV HbV
        try simp only [Act.put, List.getElem_toArray, List.getElem_cons_zero, List.getElem_cons_succ, List.setIfInBounds_toArray, List.set_cons_zero, List.set_cons_succ]
        have HbV := HbV2
        clear HbV2
        refine wpAnyH_ready (rs := [6]) (by kernel_rfl) (by simp) ?_
        refine AllReadyH.cons (o := _) rfl (fun K hK => ?_) (AllReadyH.nil)
        refine wp_appP _ _ rfl W8.heap.size _ nq ys rfl HO3.out (.slice (some ⟨B1, 0, none⟩) 1 1) 1 [.int .i64 tx, .slice ka kn kc] rfl ⟨rfl, fun u hu => by simp only [List.mem_cons, List.not_mem_nil, or_false] at hu; rcases hu with rfl | rfl <;> rfl, .inr ⟨_, _, rfl, twoC_cells HXq.out⟩⟩ (by omega) HbV.out.size (fun v4 V2 ho hg ha => ?_)
        have hbV : Below W8.heap.size W8 V2 := HbV.out.trans ((Below.refl _ _).grown hg HbV.out.size (fun k h => (HO3.out.lt k h).1))
        obtain ⟨a4, d4, e4⟩ := own_form ho
        subst e4
        have HO4 := hide ho
        clear ho hg ha
        have HbV2 := hide hbV
        refine hK.out _ _ (HKs.out _ hbV) (fun hHeld => ?_)
        clear hK K hbV HbV
        try simp only [Act.put, List.getElem_toArray, List.getElem_cons_zero, List.getElem_cons_succ, List.setIfInBounds_toArray, List.set_cons_zero, List.set_cons_succ]
        have HbV := HbV2
        clear HbV2
        refine wpAnyH_take (i := 7) (oi := _) (v := ?_) rfl (by kernel_rfl) (by kernel_rfl) (by kernel_rfl) (fun _ _ _ h => h) (Or.inl ⟨by rfl, ?_⟩) (by assumption) ?_
        rotate_left 1
        · (intro w hSw; clear hSw; (first | (go_simp; done) | (go_simp; with_reducible rfl)))
        try simp only [Act.put, List.getElem_toArray, List.getElem_cons_zero, List.getElem_cons_succ, List.setIfInBounds_toArray, List.set_cons_zero, List.set_cons_succ]
        have hx3 := HX3.out.below HbV.out HX3.out.lt
        have c2 := hx3.c 2
        have cf := hx3.f
        refine wpAnyH_ready (rs := [8]) (by kernel_rfl) (by simp) ?_
        refine AllReadyH.cons (o := _) rfl (fun K hK => ?_) AllReadyH.nil
        go_simp
        obtain ⟨V9, hV9, hS9, hx39, hx69, hfin⟩ := HFin.out _ a4 d4 hx3 HbV.out HO4.out
        rw [← hV9]
        refine hK.out _ _ hS9 (fun hHeld => ?_)
        clear hK K hV9 hx3 c2 cf
        try simp only [Act.put, List.getElem_toArray, List.getElem_cons_zero, List.getElem_cons_succ, List.setIfInBounds_toArray, List.set_cons_zero, List.set_cons_succ]
        refine wpAnyH_done (by kernel_rfl) ?_ _
        refine NoPanic.normal ?_
        clear hHeld
        have Hfin := hide hfin
        have HX39 := hide hx39
        have HX69 := hide hx69
        have m0 := hx39.c 0
        have m1 := hx39.c 1
        have m2 := hx39.c 2
        have u0 := hx69.c 0
        have u1 := hx69.c 1
        have u2 := hx69.c 2
        have uf := hx69.f
        clear hfin hx39 hx69 hS9
        go_wp2_with fail
        obtain ⟨y1, y2, y3⟩ := Hfin.out _ rfl
        exact bodyPost_ret (v := .agg #[.int .i64 rr, .slice a2 (nq + 1) d2, .slice a4 (nq + 1) d4]) (results_cell_row (p := 6) rfl _ _ B6 53 _ (0, 0) _ rfl y1 Try.underlying53 rfl sqSize) rfl ⟨_, rfl, y2, y3⟩
      · have cl := (HX3.out.below HbV.out HX3.out.lt).c 2
        go_simp
        refine hK.out _ _ (HKs.out _ HbV.out) (fun hHeld => ?_)
        clear hK K cl
        try simp only [Act.put, List.getElem_toArray, List.getElem_cons_zero, List.getElem_cons_succ, List.setIfInBounds_toArray, List.set_cons_zero, List.set_cons_succ]
        refine wpAnyH_ready (rs := [0]) (by kernel_rfl) (by simp) ?_
        refine AllReadyH.cons (o := _) rfl (fun K hK => ?_) (AllReadyH.nil)
        refine wp_slice0P rfl (fun B0 V2 hB0 hX0 hb => ?_)
        have hbV : Below W8.heap.size W8 V2 := HbV.out.trans (hb.mono HbV.out.size)
        have hO0 : V2.ownsRow W8.heap.size 50 2 (.slice (some ⟨B0, 0, none⟩) 0 0) 0 [] := ⟨rfl, .inr ⟨B0, 0, #[], rfl, by have := HbV.out.size; omega, hX0, Nat.le_refl _, by omega, rfl, rfl⟩⟩
        have hXq := HXq.out.below hb HXq.out.lt
        have hNe : B0 ≠ B1 := by have := HXq.out.lt; omega
        replace HXq := hide hXq
        have HNe := hide hNe
        clear hXq hNe
        have HO0 := hide hO0
        clear hO0 hX0 hb
        have HbV2 := hide hbV
        refine hK.out _ _ (HKs.out _ hbV) (fun hHeld => ?_)
        clear hK K hbV HbV
        try simp only [Act.put, List.getElem_toArray, List.getElem_cons_zero, List.getElem_cons_succ, List.setIfInBounds_toArray, List.set_cons_zero, List.set_cons_succ]
        have HbV := HbV2
        clear HbV2
        refine wpAnyH_ready (rs := [3]) (by kernel_rfl) (by simp) ?_
        refine AllReadyH.cons (o := _) rfl (fun K hK => ?_) (AllReadyH.nil)
        refine wp_appP _ _ rfl W8.heap.size _ 0 [] rfl HO0.out (.slice ta nq tc) nq ys rfl (HSc.out _ HbV.out) (by omega) HbV.out.size (fun v3 V2 ho hg ha => ?_)
        (try simp only [Nat.zero_add, List.nil_append] at ho)
        have hbV : Below W8.heap.size W8 V2 := HbV.out.trans ((Below.refl _ _).grown hg HbV.out.size (fun k h => (HO0.out.lt k h).1))
        have hXq : Bx V2 B1 #[.int .i64 tx, .slice ka kn kc] 50 := (hg.block B1 HXq.out.lt (fun e => HNe.out (by have ee : some B0 = some B1 := e.symm; simpa using ee))).trans HXq.out
        replace HXq := hide hXq
        clear hXq
        obtain ⟨a3, d3, e3⟩ := own_form ho
        subst e3
        have HO3 := hide ho
        clear ho hg ha
        have HbV2 := hide hbV
        refine hK.out _ _ (HKs.out _ hbV) (fun hHeld => ?_)
        clear hK K hbV HbV
        try simp only [Act.put, List.getElem_toArray, List.getElem_cons_zero, List.getElem_cons_succ, List.setIfInBounds_toArray, List.set_cons_zero, List.set_cons_succ]
        have HbV := HbV2
        clear HbV2
        refine wpAnyH_ready (rs := [6]) (by kernel_rfl) (by simp) ?_
        refine AllReadyH.cons (o := _) rfl (fun K hK => ?_) (AllReadyH.nil)
        refine wp_appP _ _ rfl W8.heap.size _ nq ys rfl HO3.out (.slice (some ⟨B1, 0, none⟩) 1 1) 1 [.int .i64 tx, .slice ka kn kc] rfl ⟨rfl, fun u hu => by simp only [List.mem_cons, List.not_mem_nil, or_false] at hu; rcases hu with rfl | rfl <;> rfl, .inr ⟨_, _, rfl, twoC_cells HXq.out⟩⟩ (by omega) HbV.out.size (fun v4 V2 ho hg ha => ?_)
        have hbV : Below W8.heap.size W8 V2 := HbV.out.trans ((Below.refl _ _).grown hg HbV.out.size (fun k h => (HO3.out.lt k h).1))
        obtain ⟨a4, d4, e4⟩ := own_form ho
        subst e4
        have HO4 := hide ho
        clear ho hg ha
        have HbV2 := hide hbV
        refine hK.out _ _ (HKs.out _ hbV) (fun hHeld => ?_)
        clear hK K hbV HbV
        try simp only [Act.put, List.getElem_toArray, List.getElem_cons_zero, List.getElem_cons_succ, List.setIfInBounds_toArray, List.set_cons_zero, List.set_cons_succ]
        have HbV := HbV2
        clear HbV2
        refine wpAnyH_take (i := 7) (oi := _) (v := ?_) rfl (by kernel_rfl) (by kernel_rfl) (by kernel_rfl) (fun _ _ _ h => h) (Or.inl ⟨by rfl, ?_⟩) (by assumption) ?_
        rotate_left 1
        · (intro w hSw; clear hSw; (first | (go_simp; done) | (go_simp; with_reducible rfl)))
        try simp only [Act.put, List.getElem_toArray, List.getElem_cons_zero, List.getElem_cons_succ, List.setIfInBounds_toArray, List.set_cons_zero, List.set_cons_succ]
        have hx3 := HX3.out.below HbV.out HX3.out.lt
        have c2 := hx3.c 2
        have cf := hx3.f
        refine wpAnyH_ready (rs := [8]) (by kernel_rfl) (by simp) ?_
        refine AllReadyH.cons (o := _) rfl (fun K hK => ?_) AllReadyH.nil
        go_simp
        obtain ⟨V9, hV9, hS9, hx39, hx69, hfin⟩ := HFin.out _ a4 d4 hx3 HbV.out HO4.out
        rw [← hV9]
        refine hK.out _ _ hS9 (fun hHeld => ?_)
        clear hK K hV9 hx3 c2 cf
        try simp only [Act.put, List.getElem_toArray, List.getElem_cons_zero, List.getElem_cons_succ, List.setIfInBounds_toArray, List.set_cons_zero, List.set_cons_succ]
        refine wpAnyH_done (by kernel_rfl) ?_ _
        refine NoPanic.normal ?_
        clear hHeld
        have Hfin := hide hfin
        have HX39 := hide hx39
        have HX69 := hide hx69
        have m0 := hx39.c 0
        have m1 := hx39.c 1
        have m2 := hx39.c 2
        have u0 := hx69.c 0
        have u1 := hx69.c 1
        have u2 := hx69.c 2
        have uf := hx69.f
        clear hfin hx39 hx69 hS9
        go_wp2_with fail
        obtain ⟨y1, y2, y3⟩ := Hfin.out _ rfl
        exact bodyPost_ret (v := .agg #[.int .i64 rr, .slice a2 (nq + 1) d2, .slice a4 (nq + 1) d4]) (results_cell_row (p := 6) rfl _ _ B6 53 _ (0, 0) _ rfl y1 Try.underlying53 rfl sqSize) rfl ⟨_, rfl, y2, y3⟩
end Go.Proofs.Ytmlpnmdckgppnaa.W

/-
  The turned graph: its model, and the program's; slices.Contains. Conditions: a good graph. Written by wip/build/mk_grh.py.
-/
import Derived.Test.YtangkpbehpgmiabGrK
namespace Go.Proofs.Ytangkpbehpgmiab.W
open Go.ChangeShapes Go.WideShapes Go.ChangeAt Go.RowKit Go.Joins
set_option linter.unusedVariables false
set_option linter.unusedSimpArgs false

/-- x goes on to y, by marks. -/
def eB (L : List (List Int)) (y x : Nat) : Bool := decide ((y : Int) ∈ L.getD x [])
/-- Who goes on to each block. -/
def tn (L : List (List Int)) : List (List Int) := (List.range L.length).map (fun y => lst (eB L y) L.length)
theorem tn_len (L : List (List Int)) : (tn L).length = L.length := by simp [tn]
theorem tn_at (L : List (List Int)) {y : Nat} (h : y < (tn L).length) : (tn L)[y] = lst (eB L y) L.length := by simp [tn]
theorem getD_at {L : List (List Int)} {j : Nat} (h : j < L.length) : L.getD j [] = L[j] := by rw [List.getD_eq_getElem?_getD, List.getElem?_eq_getElem h]; rfl
theorem ris_risL {l : List Int} {n : Nat} (h : Ris l) (hb : ∀ x ∈ l, 0 ≤ x ∧ x < (n : Int)) : RisL l n := fun i hi => ⟨(hb _ (List.getElem_mem hi)).1, (hb _ (List.getElem_mem hi)).2, fun h0 => List.pairwise_iff_getElem.1 h (i - 1) i (by omega) hi (by omega)⟩
theorem tn_good {L : List (List Int)} (hg : GG L) : GG (tn L) := by
  refine ⟨by rw [tn_len]; exact hg.1, by rw [tn_len]; exact hg.2.1, fun i hi => ?_⟩
  rw [tn_at L hi, tn_len]
  refine ris_risL (lst_ris _ _) (fun x hx => ?_)
  obtain ⟨k, rfl, hk, -⟩ := lst_mem.1 hx
  omega
theorem tn_edge {L : List (List Int)} {x y : Nat} : Edge (tn L) y x ↔ y < L.length ∧ Edge L x y := by
  constructor
  · rintro ⟨h1, h2⟩
    rw [tn_at L h1] at h2
    obtain ⟨k, e, hk, he⟩ := lst_mem.1 h2
    obtain rfl : x = k := by omega
    rw [eB, decide_eq_true_eq, getD_at hk] at he
    exact ⟨by rw [tn_len] at h1; exact h1, hk, he⟩
  · rintro ⟨h0, h1, h2⟩
    have hy : y < (tn L).length := by rw [tn_len]; exact h0
    refine ⟨hy, ?_⟩
    rw [tn_at L hy]
    exact lst_mem.2 ⟨x, rfl, h1, by rw [eB, decide_eq_true_eq, getD_at h1]; exact h2⟩
/-- The row of block y behind the first j blocks and m of block j's. -/
def tnS (L : List (List Int)) (j : Nat) (l : List Int) (m y : Nat) : List Int := lst (eB L y) j ++ if (y : Int) ∈ l.take m then [(j : Int)] else []
theorem tnS_zero (L : List (List Int)) (j : Nat) (l : List Int) (y : Nat) : tnS L j l 0 y = lst (eB L y) j := by simp [tnS]
theorem tnS_end (L : List (List Int)) {j : Nat} (h : j < L.length) (y : Nat) : tnS L j L[j] L[j].length y = lst (eB L y) (j + 1) := by
  rw [tnS, lst_succ, List.take_of_length_le (Nat.le_refl _)]
  congr 1
  simp only [eB, getD_at h, decide_eq_true_eq]
theorem tnS_other (L : List (List Int)) {j : Nat} {l : List Int} {m y : Nat} (hm : m < l.length) (hy : l[m] ≠ (y : Int)) : tnS L j l (m + 1) y = tnS L j l m y := by
  unfold tnS
  rw [List.take_add_one, List.getElem?_eq_getElem hm]
  have : ((y : Int) ∈ l.take m ++ (some l[m]).toList) ↔ (y : Int) ∈ l.take m := by
    rw [List.mem_append]
    exact ⟨fun h => h.elim id (fun h => absurd (show (y : Int) = l[m] by simpa using h).symm hy), .inl⟩
  simp only [this]
theorem tnS_same (L : List (List Int)) {j : Nat} {l : List Int} {n m X : Nat} (hr : RisL l n) (hm : m < l.length) (hX : l[m] = (X : Int)) : tnS L j l (m + 1) X = tnS L j l m X ++ [(j : Int)] := by
  have hno : ¬ (X : Int) ∈ l.take m := by
    intro h
    obtain ⟨q, hq, e⟩ := List.getElem_of_mem h
    rw [List.length_take] at hq
    rw [List.getElem_take] at e
    have hlt : ∀ (d : Nat) (hd : q + d + 1 < l.length), l[q] < l[q + d + 1] := by
      intro d
      induction d with
      | zero => intro hd; exact (hr (q + 0 + 1) hd).2.2 (by omega)
      | succ d ih => intro hd; have h1 := ih (by omega); have h2 := (hr (q + (d + 1) + 1) hd).2.2 (by omega); exact Int.lt_trans h1 h2
    have := hlt (m - q - 1) (by omega)
    simp only [show q + (m - q - 1) + 1 = m by omega] at this
    omega
  have hyes : (X : Int) ∈ l.take (m + 1) := by
    rw [List.take_add_one, List.getElem?_eq_getElem hm, hX]; simp
  unfold tnS
  rw [if_neg hno, if_pos hyes]
  simp
theorem tnS_len (L : List (List Int)) (j : Nat) (l : List Int) (m y : Nat) : (tnS L j l m y).length ≤ j + 1 := by
  unfold tnS
  have := lst_len (eB L y) j
  rw [List.length_append]
  split <;> simp <;> omega

theorem wp_append_i {w : World} {o : Oper} {a : Act} {K : Act → World → Prop} {Q : Exit → Act → World → Prop} (s x : Operand)
    (ho : o.op = .call { callee := .builtin .append, args := #[s, x], argTypes := #[26, 26] })
    (base : Nat) (v : Value) (n : Nat) (xs : List Value) (hs : a.eval s = v) (hown : w.ownsRow base 3 1 v n xs) (u : Value) (m : Nat) (vs : List Value) (hx : a.eval x = u) (hu : PtI w u m vs) (hnm : n + m ≤ 1048576) (hbase : base ≤ w.heap.size)
    (h : ∀ v' w', w'.ownsRow base 3 1 v' (n + m) (xs ++ vs) → w.grownBy w' v.ownBlock → Apart w v v' → K (a.put o.dst v') w') : o.wp Try.prog a w K Q := by
  obtain ⟨i0, hi0, hzz⟩ := Option.map_eq_some_iff.1 infoInt1
  simp only [Prod.mk.injEq] at hzz
  obtain ⟨hz0, hz1, hz2⟩ := hzz
  rcases hu with ⟨rfl, rfl, rfl⟩ | ⟨ad, c, rfl, h2, h3, h4⟩
  · have hr := run_append_owned_none (P := Try.prog) (w := w) base 26 o.type 3 i0 1 Try.underlying26 hi0 v n xs hown
    unfold Oper.wp execOp
    simp only [ho, resolve, invoke, builtin, Sem.run_bind, Sem.run_pure, Result.andThen_ok, List.map_toArray, List.map_cons, List.map_nil, hs, hx, hr]
    exact h v w (by simpa using hown) (World.grownBy.refl _ _) (fun g hg => .inl hg)
  · obtain ⟨v', w', hr, g2, g3, g4⟩ := run_append_sep (P := Try.prog) w base 26 o.type 3 i0 (.int .i64 0) 1 8 Try.underlying26 hi0 hz0 hz1 hz2 (by simp [Value.cells]) (by decide) v n xs hown ad m c vs h2 h3 h4 (by unfold maxLen; omega) (by omega) hbase
    unfold Oper.wp execOp
    simp only [ho, resolve, invoke, builtin, Sem.run_bind, Sem.run_pure, Result.andThen_ok, List.map_toArray, List.map_cons, List.map_nil, hs, hx, hr]
    exact h v' w' g2 g3 g4

/-- A row that has grown in the place of what it was. -/
theorem OOv.app {w wa w2 : World} {base S n c : Nat} {Ls : List (List Int)} {vs : List Value} {l : List Int} {x v' : Value} {j : Nat} (h : OOv w base (.slice (some ⟨S, 0, none⟩) n c) Ls vs) (hn : n = Ls.length) (hj : j < Ls.length) (hb : base ≤ w.heap.size) (hb1 : Below w.heap.size w wa)
    (hx : vs[j]? = some x) (hv : w2.ownsRow base 3 1 v' l.length (ic l)) (hg : wa.grownBy w2 x.ownBlock) (hap : Apart wa x v') : OOv (w2.setCell ⟨S, j, none⟩ v') base (.slice (some ⟨S, 0, none⟩) n c) (Ls.set j l) (vs.set j v') := by
  subst hn
  obtain ⟨hlen, ⟨h1, h2⟩ | ⟨g, cap, cur, h1, hgS, hh, h2, h3, h4, h5⟩⟩ := h.own
  · cases h1
  simp only [Value.slice.injEq, Option.some.injEq, Addr.mk.injEq, and_true] at h1
  obtain ⟨rfl, -, rfl⟩ := h1
  have hSl : S < w.heap.size := (Array.getElem?_eq_some_iff.1 hh).1
  have hfx : x.ownBlock ≠ some S := fun e => h.far j x S hx e rfl
  have hh1 : w2.heap[S]? = some (.cells cur 26 (0, 0)) := (hg.block S (Nat.lt_of_lt_of_le hSl hb1.size) (fun e => hfx e.symm)).trans ((hb1.block S hSl).trans hh)
  have hvl : vs.length = Ls.length := by rw [hlen, Nat.mul_one]
  have hsz := hb1.size
  have hvk : ∀ k, v'.ownBlock = some k → x.ownBlock = some k ∨ w.heap.size ≤ k := fun k hk => (hap k hk).imp id (fun h => by omega)
  have old : ∀ (q : Nat) (y : Value) (k : Nat), vs[q]? = some y → y.ownBlock = some k → k < w.heap.size := fun q y k hy hk => by
    have hq : q < Ls.length := by have := (List.getElem?_eq_some_iff.1 hy).1; omega
    obtain ⟨y', y1, y2⟩ := h.at_ q hq
    rw [hy] at y1
    cases y1
    exact (y2.lt k hk).2
  have hvS : ∀ k, v'.ownBlock = some k → k ≠ S := fun k hk e => by
    rcases hvk k hk with h6 | h6
    · exact hfx (by rw [h6, e])
    · omega
  refine ⟨?_, fun q hq => ?_, fun q y k hy hk e => ?_, fun p q y z k hpq hy hz hk e => ?_⟩
  · rw [List.length_set]
    refine ⟨by rw [List.length_set, Nat.mul_one, hvl], .inr ⟨S, c, _, rfl, hgS, blk_setCell hh1 v', h2, h3, by rw [Array.size_setIfInBounds]; exact h4, ?_⟩⟩
    rw [Array.toList_setIfInBounds, List.take_set, h5]
  · rw [List.length_set] at hq
    by_cases e : j = q
    · subst e
      refine ⟨v', List.getElem?_set_self (by omega), ?_⟩
      rw [List.getElem_set_self]
      exact own_blk hv (fun k hk => Below.heap_setCell _ _ _ _ (hvS k hk))
    · obtain ⟨y, y1, y2⟩ := h.at_ q hq
      refine ⟨y, by rw [List.getElem?_set_ne e]; exact y1, ?_⟩
      rw [List.getElem_set_ne e]
      refine own_blk y2 (fun k hk => ?_)
      have hkS : k ≠ S := fun e' => h.far q y k y1 hk (by rw [e']; rfl)
      have hkl := old q y k y1 hk
      rw [Below.heap_setCell _ _ _ _ hkS, hg.block k (by omega) (fun e' => h.apart q j y x k (fun e2 => e e2.symm) y1 hx hk e'.symm)]
      exact hb1.block k hkl
  · by_cases e2 : j = q
    · subst e2
      rw [List.getElem?_set_self (by omega)] at hy
      cases hy
      have e3 : S = k := by simpa [Value.ownBlock] using e
      exact hvS k hk e3.symm
    · rw [List.getElem?_set_ne e2] at hy
      exact h.far q y k hy hk e
  · by_cases e1 : j = p
    · subst e1
      rw [List.getElem?_set_self (by omega)] at hy
      cases hy
      rw [List.getElem?_set_ne hpq] at hz
      rcases hvk k hk with h6 | h6
      · exact h.apart j q x z k hpq hx hz h6 e
      · have := old q z k hz e; omega
    · rw [List.getElem?_set_ne e1] at hy
      by_cases e2 : j = q
      · subst e2
        rw [List.getElem?_set_self (by omega)] at hz
        cases hz
        rcases hvk k e with h6 | h6
        · exact h.apart p j y x k hpq hy hx hk h6
        · have := old p y k hy hk; omega
      · rw [List.getElem?_set_ne e2] at hz
        exact h.apart p q y z k hpq hy hz hk e

set_option maxHeartbeats 1000000 in
theorem index_any (ad : Option Addr) (c : Nat) (l : List Int) (n : Int) (w : World) (hl : l.length ≤ 1048576) (h : IRow w ad l) :
    Calls Try.prog 33 #[.slice ad l.length c, .int .i64 n] w fun e w' => ∃ r : Int, e = .returned (.int .i64 r) ∧ decide (n ∈ l) = decide (0 ≤ r) ∧ w' = w := by
  have HR := hide h
  clear h
  go_enter Try.func33, Try.ntmps33
  go_wp2_with fail
  go_loopw [8] (fun i w' => ∃ j : Nat, j ≤ l.length ∧ i = .int .i64 j ∧ (∀ q (h : q < l.length), q < j → l[q] ≠ n) ∧ w' = w) (fun i _ => l.length - (intOf i).toNat)
  case atStart => exact ⟨0, by omega, rfl, by intros; omega, rfl⟩
  case round =>
    obtain ⟨j, hj, rfl, hall, rfl⟩ := hrel
    have HA := hide hall
    clear hall
    by_cases hlt : j < l.length
    · have hlt' : (j : Int) < (l.length : Int) := by omega
      obtain ⟨b, o, rfl, hb, p0⟩ := IRow.iat HR.out (Below.refl _ _) hlt
      obtain ⟨x, hx⟩ : ∃ x, x = l[j] := ⟨_, rfl⟩
      rw [← hx] at p0
      have HX := hide hx
      have HXm : Hid (x ∈ l) := hide (by rw [hx]; exact List.getElem_mem hlt)
      clear hx
      by_cases hx0 : n = x
      · subst hx0
        go_wp2_with fail
        go_ret
        exact ⟨_, rfl, by rw [decide_eq_true HXm.out]; simp, rfl⟩
      · have hx1 : (n == x) = false := beq_eq_false_iff_ne.2 hx0
        have HA2 : Hid (∀ q (h : q < l.length), q < j + 1 → l[q] ≠ n) := hide (fun q h hq => by
          by_cases e : q = j
          · subst e; rw [← HX.out]; exact fun e => hx0 e.symm
          · exact HA.out q h (by omega))
        go_wp2_with fail
        exact ⟨⟨j + 1, by omega, by go_num, HA2.out, trivial⟩, by simp [intOf]; omega⟩
    · have hn : ¬ n ∈ l := by
        intro hm
        obtain ⟨q, hq, e⟩ := List.getElem_of_mem hm
        exact HA.out q hq (by omega) e
      have HNn := hide hn
      clear hn
      go_wp2_with fail
      go_ret
      exact ⟨_, rfl, by rw [decide_eq_false HNn.out]; rfl, rfl⟩

set_option maxHeartbeats 1000000 in
theorem contains_any (ad : Option Addr) (c : Nat) (l : List Int) (n : Int) (w : World) (hl : l.length ≤ 1048576) (h : IRow w ad l) :
    Calls Try.prog 21 #[.slice ad l.length c, .int .i64 n] w fun e w' => e = .returned (.bool (decide (n ∈ l))) ∧ w' = w := by
  have HC := hide (index_any ad c l n w hl h)
  clear h
  go_enter Try.func21, Try.ntmps21
  go_wp2_with fail
  refine Calls.mono HC.out ?_
  rintro e w1 ⟨r, rfl, hr, hw⟩
  obtain rfl := hw.symm
  have Hr := hide hr
  clear hr HC
  go_wp2_with fail
  go_ret
  exact ⟨ret_bool (by rw [Hr.out]), rfl⟩

theorem dIdx (F : Nat → Nat → Bool) (w : World) : ∀ j : Nat, j < 12 → (Instr.index 46 (.agg (dA F)) (.int .i64 (j : Int))).run Try.prog w = .ok (.agg (sA (F j))) w
  | 0, _ => by kernel_rfl
  | 1, _ => by kernel_rfl
  | 2, _ => by kernel_rfl
  | 3, _ => by kernel_rfl
  | 4, _ => by kernel_rfl
  | 5, _ => by kernel_rfl
  | 6, _ => by kernel_rfl
  | 7, _ => by kernel_rfl
  | 8, _ => by kernel_rfl
  | 9, _ => by kernel_rfl
  | 10, _ => by kernel_rfl
  | 11, _ => by kernel_rfl
  | n + 12, h => absurd h (by omega)

set_option maxHeartbeats 8000000 in
theorem turned_any (v : Value) (L : List (List Int)) (w : World) (h : GRow w v L) (hg : GG L) :
    Calls Try.prog 23 #[v] w fun e w' => ∃ v', e = .returned v' ∧ GRow w' v' (tn L) ∧ Below w.heap.size w w' := by
  obtain ⟨ad, c, rfl, hR, hs, hlc⟩ := h
  have HX := hide (Bx.new w #[.slice ad L.length c] 29)
  have hR0 := hR
  have HGG := hide hg
  have hl12 := hg.2.1
  have hmk := mk_ISS L.length (by omega)
  clear hR hs hlc hg
  obtain ⟨W2, hW2⟩ : ∃ W2, W2 = (w.alloc (.cells #[.slice ad L.length c] 29)).alloc (.cells #[.slice none 0 0] 29) := ⟨_, rfl⟩
  have hB2 : Below w.heap.size w W2 := by rw [hW2]; exact ((Below.refl _ _).alloc (Nat.le_refl _) _).alloc (by simp) _
  have HX1 : Hid (Bx W2 w.heap.size #[.slice ad L.length c] 29) := hide (by rw [hW2]; exact (Bx.new w _ _).alloc _)
  have HX2 : Hid (Bx W2 (w.heap.size + 1) #[.slice none 0 0] 29) := hide (by rw [hW2]; have := Bx.new (w.alloc (.cells #[.slice ad L.length c] 29)) #[.slice none 0 0] 29; simpa using this)
  have HW2 := hide hW2
  clear hW2 HX
  go_enter Try.func23, Try.ntmps23
  go_upto_region 1 with fail
  rw [← HW2.out]
  have cx := HX1.out.c
  have lx := HX1.out.lt
  go_upto_region 2 with fail
  obtain ⟨W3, hW3⟩ : ∃ W3, W3 = (W2.alloc (.cells (madeCells #[.slice none 0 0] L.length) 26)).alloc (.cells #[.slice (some ⟨W2.heap.size, 0, none⟩) L.length L.length] 29) := ⟨_, rfl⟩
  rw [← hW3]
  have hB3 : Below W2.heap.size W2 W3 := by rw [hW3]; exact ((Below.refl _ _).alloc (Nat.le_refl _) _).alloc (by simp) _
  have HO3 : Hid (OOv W3 W2.heap.size (.slice (some ⟨W2.heap.size, 0, none⟩) L.length L.length) (List.replicate L.length []) (List.replicate L.length (.slice none 0 0))) := hide (by
    rw [hW3]
    exact (OOv.new W2 W2.heap.size L.length (by omega) (Nat.le_refl _)).keep (fun k _ hk => Below.heap_alloc _ _ k hk))
  have HX3 : Hid (Bx W3 (W2.heap.size + 1) #[.slice (some ⟨W2.heap.size, 0, none⟩) L.length L.length] 29) := hide (by rw [hW3]; have := Bx.new (W2.alloc (.cells (madeCells #[.slice none 0 0] L.length) 26)) #[.slice (some ⟨W2.heap.size, 0, none⟩) L.length L.length] 29; simpa using this)
  obtain ⟨B3, hB3'⟩ : ∃ B3, B3 = W2.heap.size + 1 := ⟨_, rfl⟩
  obtain ⟨S, hS⟩ : ∃ S, S = W2.heap.size := ⟨_, rfl⟩
  rw [← hB3'] at HX3 ⊢
  have hSW : W2.heap.size ≤ S := by omega
  have hS3 : S < B3 := by omega
  rw [← hS]
  have HO4 : Hid (OOv W3 W2.heap.size (.slice (some ⟨S, 0, none⟩) L.length L.length) (List.replicate L.length []) (List.replicate L.length (.slice none 0 0))) := hide (by rw [hS]; exact HO3.out)
  have HX4 : Hid (Bx W3 B3 #[.slice (some ⟨S, 0, none⟩) L.length L.length] 29) := hide (by rw [hS]; exact HX3.out)
  have hlW := HX2.out.lt
  clear hW3 hB3' hS HO3 HX3 cx lx hmk HW2
  have X1 := HX1.out.below hB3 HX1.out.lt
  have cx := X1.c
  have lx := X1.lt
  go_wp2_with fail
  clear cx lx X1
  go_loopw [16] (fun i w' => ∃ (j : Nat) (Ls : List (List Int)) (vs : List Value), j ≤ L.length ∧ i = .int .i64 j ∧ Ls.length = L.length ∧ OOv w' W2.heap.size (.slice (some ⟨S, 0, none⟩) L.length L.length) Ls vs ∧ (∀ y (h : y < Ls.length), Ls[y] = lst (eB L y) j) ∧ Bx w' B3 #[.slice (some ⟨S, 0, none⟩) L.length L.length] 29 ∧ Below W2.heap.size W2 w') (fun i _ => L.length - (intOf i).toNat)
  case atStart => exact ⟨0, _, _, by omega, rfl, by simp, HO4.out, fun y h => by simp [lst], HX4.out, hB3⟩
  case round =>
    clear HO4 HX4 hB3
    obtain ⟨j, Ls, vs, hj, rfl, hLl, hO, hLs, hX3, hB⟩ := hrel
    have HO := hide hO
    have HLs := hide hLs
    have HX3 := hide hX3
    have HB := hide hB
    have HLl := hide hLl
    clear hO hLs hX3 hB hLl
    by_cases hlt : j < L.length
    · have hlt' : (j : Int) < (L.length : Int) := by omega
      have HBw := hide (hB2.trans (HB.out.mono hB2.size))
      obtain ⟨b, oo, v, rfl, hb, p0w, pv⟩ := QRow.at hR0 (Below.refl _ _) hlt
      have p0 := (HBw.out.cell (p := ⟨b, oo + j, none⟩) hb).trans p0w
      obtain ⟨ad1, c1, rfl, pr, -⟩ := pv
      obtain ⟨l, hl1⟩ : ∃ l, l = L[j] := ⟨_, rfl⟩
      rw [← hl1] at p0 pr
      have HL := hide hl1
      have HP := hide pr
      have HRi := hide (HGG.out.2.2 j hlt)
      rw [← hl1] at HRi
      have hll : l.length ≤ 12 := by have := HRi.out.len; omega
      clear hl1 pr p0w
      go_wp2_with fail
      clear p0 HBw
      go_loopw [23] (fun i w' => ∃ (m : Nat) (Ls : List (List Int)) (vs : List Value), m ≤ l.length ∧ i = .int .i64 m ∧ Ls.length = L.length ∧ OOv w' W2.heap.size (.slice (some ⟨S, 0, none⟩) L.length L.length) Ls vs ∧ (∀ y (h : y < Ls.length), Ls[y] = tnS L j l m y) ∧ Bx w' B3 #[.slice (some ⟨S, 0, none⟩) L.length L.length] 29 ∧ Below W2.heap.size W2 w') (fun i _ => l.length - (intOf i).toNat)
      case atStart => exact ⟨0, Ls, vs, by omega, rfl, HLl.out, HO.out, fun y h => by rw [tnS_zero]; exact HLs.out y h, HX3.out, HB.out⟩
      case round =>
        clear HO HLs HX3 HB HLl
        obtain ⟨m, Ls, vs, hm, rfl, hLl, hO, hLs, hX3, hB⟩ := hrel
        have HO := hide hO
        have HLs := hide hLs
        have HX3 := hide hX3
        have HB := hide hB
        have HLl := hide hLl
        clear hO hLs hX3 hB
        by_cases hlm : m < l.length
        · have hlm' : (m : Int) < (l.length : Int) := by omega
          have HBw := hide (hB2.trans (HB.out.mono hB2.size))
          obtain ⟨b1, o1, rfl, hb1, p0⟩ := IRow.iat HP.out HBw.out hlm
          have hbd := HRi.out.mem (List.getElem_mem hlm)
          obtain ⟨X, hX⟩ : ∃ X : Nat, l[m] = (X : Int) := ⟨l[m].toNat, by omega⟩
          rw [hX] at p0 hbd
          have HXx := hide hX
          clear hX
          have hXl : X < L.length := by omega
          have hXl' : (X : Int) < (L.length : Int) := by omega
          have hX2 : X < Ls.length := by omega
          obtain ⟨xv, hvX, hox⟩ := HO.out.at_ X hX2
          have hLX := HLs.out X hX2
          rw [hLX] at hox
          obtain ⟨LX, hLXe⟩ : ∃ LX, LX = tnS L j l m X := ⟨_, rfl⟩
          rw [← hLXe] at hox
          have hn13 : LX.length ≤ 13 := by rw [hLXe]; have := tnS_len L j l m X; omega
          have HLXe := hide hLXe
          have HvX := hide hvX
          have Hge := hide (own_ge hox)
          obtain ⟨gS, capS, eS, hgS, hlS, cS⟩ := tOwn_lies HO.out.own (by omega)
          simp only [Value.slice.injEq, Option.some.injEq, Addr.mk.injEq, and_true] at eS
          obtain ⟨rfl, -, -⟩ := eS
          have cX := cS X xv hvX
          have fS : ∀ i, wr.frozen? ⟨S, i, none⟩ = false := by
            rcases HO.out.own.2 with ⟨h1, -⟩ | ⟨g, cap, cur, h1, hg, hh, -⟩
            · cases h1
            · simp only [Value.slice.injEq, Option.some.injEq, Addr.mk.injEq, and_true] at h1
              obtain ⟨rfl, -, -⟩ := h1
              exact fun i => unfrozen_of_blk hh i
          have HneS : Hid (xv.ownBlock ≠ some S) := hide (fun e => HO.out.far X xv S hvX e rfl)
          have Hne3 : Hid (xv.ownBlock ≠ some B3) := hide (fun e => by
            rcases hox.2 with ⟨h1, -⟩ | ⟨g, cap, cur, h1, hg, hh, -⟩
            · rw [h1] at e; cases e
            · rw [h1] at e
              cases e
              have h2 := HX3.out
              unfold Bx at h2
              rw [hh] at h2
              simp at h2)
          have hl3 := HX3.out.lt
          have hbw := HB.out.size
          have Hba : Hid (Below wr.heap.size wr (wr.drew.alloc (.cells #[.int .i64 (j : Int)] 3))) := hide (((Below.refl _ _).drew).alloc (Nat.le_refl _) _)
          have HBa : Hid (Below W2.heap.size W2 (wr.drew.alloc (.cells #[.int .i64 (j : Int)] 3))) := hide (HB.out.trans (Hba.out.mono hbw))
          have Hox : Hid ((wr.drew.alloc (.cells #[.int .i64 (j : Int)] 3)).ownsRow W2.heap.size 3 1 xv LX.length (ic LX)) := hide (own_keep hox (fun k _ hk => Hba.out.block k hk))
          obtain ⟨ax, cx2, exv⟩ := own_form hox
          obtain ⟨nx, hnx⟩ : ∃ nx, nx = LX.length := ⟨_, rfl⟩
          rw [← hnx] at exv Hox hn13
          have Hnx := hide hnx
          subst exv
          have c3 : wr.cell? ⟨B3, 0, none⟩ = some (.slice (some ⟨S, 0, none⟩) L.length L.length) := HX3.out.c 0
          have c3a : (wr.drew.alloc (.cells #[.int .i64 (j : Int)] 3)).cell? ⟨B3, 0, none⟩ = some (.slice (some ⟨S, 0, none⟩) L.length L.length) := (Hba.out.cell (p := ⟨B3, 0, none⟩) hl3).trans c3
          have cXa : (wr.drew.alloc (.cells #[.int .i64 (j : Int)] 3)).cell? ⟨S, X, none⟩ = some (.slice ax nx cx2) := (Hba.out.cell (p := ⟨S, X, none⟩) hlS).trans cX
          have fSa : ∀ i, (wr.drew.alloc (.cells #[.int .i64 (j : Int)] 3)).frozen? ⟨S, i, none⟩ = false := fun i => (World.frozen?_of_block (a := ⟨S, i, none⟩) (Hba.out.block S hlS)).trans (fS i)
          have HPt : Hid (PtI (wr.drew.alloc (.cells #[.int .i64 (j : Int)] 3)) (.slice (some ⟨wr.heap.size, 0, none⟩) 1 1) 1 (ic [(j : Int)])) := hide (.inr ⟨_, _, rfl, rfl, fun q x hx => by
            obtain rfl : q = 0 := by have := (List.getElem?_eq_some_iff.1 hx).1; simp [ic] at this; omega
            rw [Addr.add_lit]
            have := (Bx.new wr.drew #[.int .i64 (j : Int)] 3).c 0
            simpa [ic] using this.trans hx, ic_one _⟩)
          have HLn : Hid ((Ls.set X (LX ++ [(j : Int)])).length = L.length) := hide (by rw [List.length_set]; exact HLl.out)
          have HLs2 : Hid (∀ y (h : y < (Ls.set X (LX ++ [(j : Int)])).length), (Ls.set X (LX ++ [(j : Int)]))[y] = tnS L j l (m + 1) y) := hide (fun y h => by
            by_cases e : X = y
            · subst e; rw [List.getElem_set_self, tnS_same L HRi.out hlm HXx.out, hLXe]
            · rw [List.getElem_set_ne e, tnS_other L hlm (by rw [HXx.out]; omega)]
              exact HLs.out y (by simpa using h))
          clear hox hvX cS hnx hLX hLXe hbd HBw hLl fS
          go_upto_region 8 with fail
          clear p0
          refine wp_region_noPanic ?_
          refine wp_region_held_drew (S := fun w' => w'.cell? ⟨B3, 0, none⟩ = some (.slice (some ⟨S, 0, none⟩) L.length L.length)) (by kernel_rfl) c3 (fun hHeld => ?_)
          refine wpAnyH_take (i := 0) (oi := _) (v := ?_) rfl (by kernel_rfl) (by kernel_rfl) (by kernel_rfl) (fun _ _ _ h => h) (Or.inl ⟨by rfl, ?_⟩) (by assumption) ?_
          rotate_left 1
          · (intro w hSw; (try dsimp only at hSw); (first | (go_simp; done) | (go_simp; with_reducible rfl)))
          try simp only [Act.put, List.getElem_toArray, List.getElem_cons_zero, List.getElem_cons_succ, List.setIfInBounds_toArray, List.set_cons_zero, List.set_cons_succ]
          refine wpAnyH_take (i := 1) (oi := _) (v := ?_) rfl (by kernel_rfl) (by kernel_rfl) (by kernel_rfl) (fun _ _ _ h => h) (Or.inl ⟨by rfl, ?_⟩) (by assumption) ?_
          rotate_left 1
          · (intro w hSw; (try dsimp only at hSw); (first | (go_simp; done) | (go_simp; with_reducible rfl)))
          try simp only [Act.put, List.getElem_toArray, List.getElem_cons_zero, List.getElem_cons_succ, List.setIfInBounds_toArray, List.set_cons_zero, List.set_cons_succ]
          refine wpAnyH_take (i := 2) (oi := _) (v := ?_) rfl (by kernel_rfl) (by kernel_rfl) (by kernel_rfl) (fun _ _ _ h => h) (Or.inl ⟨by rfl, ?_⟩) (by assumption) ?_
          rotate_left 1
          · (intro w hSw; (try dsimp only at hSw); (first | (go_simp; done) | (go_simp; with_reducible rfl)))
          try simp only [Act.put, List.getElem_toArray, List.getElem_cons_zero, List.getElem_cons_succ, List.setIfInBounds_toArray, List.set_cons_zero, List.set_cons_succ]
          refine wpAnyH_take (i := 3) (oi := _) (v := ?_) rfl (by kernel_rfl) (by kernel_rfl) (by kernel_rfl) (fun _ _ _ h => h) (Or.inl ⟨by rfl, ?_⟩) (by assumption) ?_
          rotate_left 1
          · (intro w hSw; (try dsimp only at hSw); (first | (go_simp; done) | (go_simp; with_reducible rfl)))
          try simp only [Act.put, List.getElem_toArray, List.getElem_cons_zero, List.getElem_cons_succ, List.setIfInBounds_toArray, List.set_cons_zero, List.set_cons_succ]
          refine wpAnyH_take (i := 4) (oi := _) (v := ?_) rfl (by kernel_rfl) (by kernel_rfl) (by kernel_rfl) (fun _ _ _ h => h) (Or.inl ⟨by rfl, ?_⟩) (by assumption) ?_
          rotate_left 1
          · (intro w hSw; (try dsimp only at hSw); (first | (go_simp; done) | (go_simp; with_reducible rfl)))
          try simp only [Act.put, List.getElem_toArray, List.getElem_cons_zero, List.getElem_cons_succ, List.setIfInBounds_toArray, List.set_cons_zero, List.set_cons_succ]
          refine wpAnyH_take (i := 5) (oi := _) (v := ?_) rfl (by kernel_rfl) (by kernel_rfl) (by kernel_rfl) (fun _ _ _ h => h) (Or.inl ⟨by rfl, ?_⟩) (by assumption) ?_
          rotate_left 1
          · (intro w hSw; (try dsimp only at hSw); (first | (go_simp; done) | (go_simp; with_reducible rfl)))
          try simp only [Act.put, List.getElem_toArray, List.getElem_cons_zero, List.getElem_cons_succ, List.setIfInBounds_toArray, List.set_cons_zero, List.set_cons_succ]
          refine wpAnyH_take (i := 6) (oi := _) (v := ?_) rfl (by kernel_rfl) (by kernel_rfl) (by kernel_rfl) (fun _ _ _ h => h) (Or.inl ⟨by rfl, ?_⟩) (by assumption) ?_
          rotate_left 1
          · (intro w hSw; (try dsimp only at hSw); (first | (go_simp; done) | (go_simp; with_reducible rfl)))
          try simp only [Act.put, List.getElem_toArray, List.getElem_cons_zero, List.getElem_cons_succ, List.setIfInBounds_toArray, List.set_cons_zero, List.set_cons_succ]
          refine wpAnyH_take (i := 8) (oi := _) (v := ?_) rfl (by kernel_rfl) (by kernel_rfl) (by kernel_rfl) (fun _ _ _ h => h) (Or.inl ⟨by rfl, ?_⟩) (by assumption) ?_
          rotate_left 1
          · (intro w hSw; (try dsimp only at hSw); (first | (go_simp; done) | (go_simp; with_reducible rfl)))
          try simp only [Act.put, List.getElem_toArray, List.getElem_cons_zero, List.getElem_cons_succ, List.setIfInBounds_toArray, List.set_cons_zero, List.set_cons_succ]
          refine wpAnyH_ready (rs := [7, 9]) (by kernel_rfl) (by simp) ?_
          refine AllReadyH.cons (o := _) rfl (fun K hK => ?_) (AllReadyH.cons (o := _) rfl (fun K hK => ?_) AllReadyH.nil)
          · skip
            go_simp
            refine hK.out _ _ c3 (fun hHeld => ?_)
            clear hK K
            try simp only [Act.put, List.getElem_toArray, List.getElem_cons_zero, List.getElem_cons_succ, List.setIfInBounds_toArray, List.set_cons_zero, List.set_cons_succ]
            refine wpAnyH_ready (rs := [9]) (by kernel_rfl) (by simp) ?_
            refine AllReadyH.cons (o := _) rfl (fun K hK => ?_) AllReadyH.nil
            go_simp
            refine hK.out _ _ c3a (fun hHeld => ?_)
            clear hK K
            try simp only [Act.put, List.getElem_toArray, List.getElem_cons_zero, List.getElem_cons_succ, List.setIfInBounds_toArray, List.set_cons_zero, List.set_cons_succ]
            refine wpAnyH_ready (rs := [10]) (by kernel_rfl) (by simp) ?_
            refine AllReadyH.cons (o := _) rfl (fun K hK => ?_) AllReadyH.nil
            refine wp_append_i _ _ rfl W2.heap.size _ nx _ rfl Hox.out _ 1 _ rfl HPt.out (by omega) HBa.out.size ?_
            intro v6 w6 hO6 hg6 hap6
            have c36 : w6.cell? ⟨B3, 0, none⟩ = some (.slice (some ⟨S, 0, none⟩) L.length L.length) := (World.cell?_of_block (a := ⟨B3, 0, none⟩) (hg6.block B3 (by simp; omega) (fun e => Hne3.out e.symm))).trans c3a
            have cX6 : w6.cell? ⟨S, X, none⟩ = some (.slice ax nx cx2) := (World.cell?_of_block (a := ⟨S, X, none⟩) (hg6.block S (by simp; omega) (fun e => HneS.out e.symm))).trans cXa
            have f6 : ∀ i, w6.frozen? ⟨S, i, none⟩ = false := fun i => (World.frozen?_of_block (a := ⟨S, i, none⟩) (hg6.block S (by simp; omega) (fun e => HneS.out e.symm))).trans (fSa i)
            have HB6 := hide (HBa.out.trans (grown_below hg6 (by simp; omega) Hge.out))
            rw [← ic_app] at hO6
            have HA6 := hide (HO.out.app (l := LX ++ [(j : Int)]) HLl.out.symm hX2 hbw Hba.out HvX.out (by rw [List.length_append, ← Hnx.out]; exact hO6) hg6 hap6)
            obtain ⟨ya, yc, rfl⟩ := own_form hO6
            have c36s : (w6.setCell ⟨S, X, none⟩ (.slice ya (nx + 1) yc)).cell? ⟨B3, 0, none⟩ = some (.slice (some ⟨S, 0, none⟩) L.length L.length) := (World.cell?_of_block (a := ⟨B3, 0, none⟩) (Below.heap_setCell _ _ _ _ (by show B3 ≠ S; omega))).trans c36
            have HX3n : Hid (Bx (w6.setCell ⟨S, X, none⟩ (.slice ya (nx + 1) yc)) B3 #[.slice (some ⟨S, 0, none⟩) L.length L.length] 29) := hide (Bx.setne ((hg6.block B3 (by simp; omega) (fun e => Hne3.out e.symm)).trans (HX3.out.alloc _)) S X _ (by omega))
            have HBn := hide (HB6.out.setCell (p := ⟨S, X, none⟩) (show W2.heap.size ≤ S by omega) (.slice ya (nx + 1) yc))
            clear hO6 hg6 hap6
            refine hK.out _ _ c36 (fun hHeld => ?_)
            clear hK K
            try simp only [Act.put, List.getElem_toArray, List.getElem_cons_zero, List.getElem_cons_succ, List.setIfInBounds_toArray, List.set_cons_zero, List.set_cons_succ]
            refine wpAnyH_take (i := 11) (oi := _) (v := ?_) rfl (by kernel_rfl) (by kernel_rfl) (by kernel_rfl) (fun _ _ _ h => h) (Or.inl ⟨by rfl, ?_⟩) (by assumption) ?_
            rotate_left 1
            · (intro w hSw; (try dsimp only at hSw); (first | (go_simp; done) | (go_simp; with_reducible rfl)))
            try simp only [Act.put, List.getElem_toArray, List.getElem_cons_zero, List.getElem_cons_succ, List.setIfInBounds_toArray, List.set_cons_zero, List.set_cons_succ]
            refine wpAnyH_ready (rs := [12]) (by kernel_rfl) (by simp) ?_
            refine AllReadyH.cons (o := _) rfl (fun K hK => ?_) AllReadyH.nil
            go_simp
            refine hK.out _ _ c36s (fun hHeld => ?_)
            clear hK K hHeld
            try simp only [Act.put, List.getElem_toArray, List.getElem_cons_zero, List.getElem_cons_succ, List.setIfInBounds_toArray, List.set_cons_zero, List.set_cons_succ]
            refine wpAnyH_done (by kernel_rfl) ?_ _
            refine NoPanic.normal ?_
            clear c3 cX c3a cXa c36 cX6 f6 fSa c36s
            go_wp2_with fail
            exact ⟨⟨m + 1, _, _, by omega, by go_num, HLn.out, HA6.out, HLs2.out, HX3n.out, HBn.out⟩, by simp [intOf]; omega⟩
          · skip
            go_simp
            refine hK.out _ _ c3a (fun hHeld => ?_)
            clear hK K
            try simp only [Act.put, List.getElem_toArray, List.getElem_cons_zero, List.getElem_cons_succ, List.setIfInBounds_toArray, List.set_cons_zero, List.set_cons_succ]
            refine wpAnyH_ready (rs := [7]) (by kernel_rfl) (by simp) ?_
            refine AllReadyH.cons (o := _) rfl (fun K hK => ?_) AllReadyH.nil
            go_simp
            refine hK.out _ _ c3a (fun hHeld => ?_)
            clear hK K
            try simp only [Act.put, List.getElem_toArray, List.getElem_cons_zero, List.getElem_cons_succ, List.setIfInBounds_toArray, List.set_cons_zero, List.set_cons_succ]
            refine wpAnyH_ready (rs := [10]) (by kernel_rfl) (by simp) ?_
            refine AllReadyH.cons (o := _) rfl (fun K hK => ?_) AllReadyH.nil
            refine wp_append_i _ _ rfl W2.heap.size _ nx _ rfl Hox.out _ 1 _ rfl HPt.out (by omega) HBa.out.size ?_
            intro v6 w6 hO6 hg6 hap6
            have c36 : w6.cell? ⟨B3, 0, none⟩ = some (.slice (some ⟨S, 0, none⟩) L.length L.length) := (World.cell?_of_block (a := ⟨B3, 0, none⟩) (hg6.block B3 (by simp; omega) (fun e => Hne3.out e.symm))).trans c3a
            have cX6 : w6.cell? ⟨S, X, none⟩ = some (.slice ax nx cx2) := (World.cell?_of_block (a := ⟨S, X, none⟩) (hg6.block S (by simp; omega) (fun e => HneS.out e.symm))).trans cXa
            have f6 : ∀ i, w6.frozen? ⟨S, i, none⟩ = false := fun i => (World.frozen?_of_block (a := ⟨S, i, none⟩) (hg6.block S (by simp; omega) (fun e => HneS.out e.symm))).trans (fSa i)
            have HB6 := hide (HBa.out.trans (grown_below hg6 (by simp; omega) Hge.out))
            rw [← ic_app] at hO6
            have HA6 := hide (HO.out.app (l := LX ++ [(j : Int)]) HLl.out.symm hX2 hbw Hba.out HvX.out (by rw [List.length_append, ← Hnx.out]; exact hO6) hg6 hap6)
            obtain ⟨ya, yc, rfl⟩ := own_form hO6
            have c36s : (w6.setCell ⟨S, X, none⟩ (.slice ya (nx + 1) yc)).cell? ⟨B3, 0, none⟩ = some (.slice (some ⟨S, 0, none⟩) L.length L.length) := (World.cell?_of_block (a := ⟨B3, 0, none⟩) (Below.heap_setCell _ _ _ _ (by show B3 ≠ S; omega))).trans c36
            have HX3n : Hid (Bx (w6.setCell ⟨S, X, none⟩ (.slice ya (nx + 1) yc)) B3 #[.slice (some ⟨S, 0, none⟩) L.length L.length] 29) := hide (Bx.setne ((hg6.block B3 (by simp; omega) (fun e => Hne3.out e.symm)).trans (HX3.out.alloc _)) S X _ (by omega))
            have HBn := hide (HB6.out.setCell (p := ⟨S, X, none⟩) (show W2.heap.size ≤ S by omega) (.slice ya (nx + 1) yc))
            clear hO6 hg6 hap6
            refine hK.out _ _ c36 (fun hHeld => ?_)
            clear hK K
            try simp only [Act.put, List.getElem_toArray, List.getElem_cons_zero, List.getElem_cons_succ, List.setIfInBounds_toArray, List.set_cons_zero, List.set_cons_succ]
            refine wpAnyH_take (i := 11) (oi := _) (v := ?_) rfl (by kernel_rfl) (by kernel_rfl) (by kernel_rfl) (fun _ _ _ h => h) (Or.inl ⟨by rfl, ?_⟩) (by assumption) ?_
            rotate_left 1
            · (intro w hSw; (try dsimp only at hSw); (first | (go_simp; done) | (go_simp; with_reducible rfl)))
            try simp only [Act.put, List.getElem_toArray, List.getElem_cons_zero, List.getElem_cons_succ, List.setIfInBounds_toArray, List.set_cons_zero, List.set_cons_succ]
            refine wpAnyH_ready (rs := [12]) (by kernel_rfl) (by simp) ?_
            refine AllReadyH.cons (o := _) rfl (fun K hK => ?_) AllReadyH.nil
            go_simp
            refine hK.out _ _ c36s (fun hHeld => ?_)
            clear hK K hHeld
            try simp only [Act.put, List.getElem_toArray, List.getElem_cons_zero, List.getElem_cons_succ, List.setIfInBounds_toArray, List.set_cons_zero, List.set_cons_succ]
            refine wpAnyH_done (by kernel_rfl) ?_ _
            refine NoPanic.normal ?_
            clear c3 cX c3a cXa c36 cX6 f6 fSa c36s
            go_wp2_with fail
            exact ⟨⟨m + 1, _, _, by omega, by go_num, HLn.out, HA6.out, HLs2.out, HX3n.out, HBn.out⟩, by simp [intOf]; omega⟩
        · have HN : Hid (∀ y (h : y < Ls.length), Ls[y] = lst (eB L y) (j + 1)) := hide (fun y h => by
            rw [HLs.out y h, ← tnS_end L hlt y, ← HL.out, show m = l.length by omega])
          go_wp2_with fail
          exact ⟨⟨j + 1, Ls, vs, by omega, by go_num, HLl.out, HO.out, HN.out, HX3.out, HB.out⟩, by simp [intOf]; omega⟩
    · have HE : Hid (Ls = tn L) := hide (List.ext_getElem (by rw [tn_len]; exact HLl.out) (fun k h1 h2 => by
        rw [tn_at L h2, HLs.out k h1, show j = L.length by omega]))
      have HQs : Hid (QSm (tn L)) := hide ⟨by rw [tn_len]; omega, fun x hx => by
        obtain ⟨k, -, rfl⟩ := List.mem_map.1 hx
        have := lst_len (eB L k) L.length
        omega⟩
      have HQ : Hid (QRow wr (some ⟨S, 0, none⟩) (tn L)) := hide (by
        have h1 : OO wr W2.heap.size (.slice (some ⟨S, 0, none⟩) L.length L.length) Ls := ⟨vs, HO.out⟩
        rw [HE.out] at h1
        obtain ⟨ad', c', e1, e2, -⟩ := h1.qv HQs.out
        simp only [Value.slice.injEq] at e1
        rw [← e1.1] at e2
        exact e2)
      have X2 := HX2.out.below HB.out HX2.out.lt
      have c2 := X2.c
      have f2 := X2.f
      have c3 := HX3.out.c
      obtain ⟨B2, hB2'⟩ : ∃ B2, B2 = w.heap.size + 1 := ⟨_, rfl⟩
      rw [← hB2'] at c2 f2 hlW ⊢
      have hB2l : w.heap.size ≤ B2 := by omega
      have HBw := hide (hB2.trans (HB.out.mono hB2.size))
      have hq := HQ.out
      have HQn : Hid (QRow (wr.setCell ⟨B2, 0, none⟩ (.slice (some ⟨S, 0, none⟩) L.length L.length)) (some ⟨S, 0, none⟩) (tn L)) := hide (by
        have hO2 : OOv (wr.setCell ⟨B2, 0, none⟩ (.slice (some ⟨S, 0, none⟩) L.length L.length)) W2.heap.size (.slice (some ⟨S, 0, none⟩) L.length L.length) Ls vs := HO.out.keep (fun k hk _ => Below.heap_setCell _ _ _ _ (by show k ≠ B2; omega))
        have h1 : OO (wr.setCell ⟨B2, 0, none⟩ (.slice (some ⟨S, 0, none⟩) L.length L.length)) W2.heap.size (.slice (some ⟨S, 0, none⟩) L.length L.length) Ls := ⟨vs, hO2⟩
        rw [HE.out] at h1
        obtain ⟨ad', c', e1, e2, -⟩ := h1.qv HQs.out
        simp only [Value.slice.injEq] at e1
        rw [← e1.1] at e2
        exact e2)
      have c2n : (wr.setCell ⟨B2, 0, none⟩ (.slice (some ⟨S, 0, none⟩) L.length L.length)).cell? ⟨B2, 0, none⟩ = some (.slice (some ⟨S, 0, none⟩) L.length L.length) := World.cell?_setCell_same _ _ _ (c2 0)
      clear hB2' X2 hq
      go_wp2_with fail
      refine bodyPost_ret (v := .agg #[.slice (some ⟨S, 0, none⟩) L.length L.length]) (by simp [results, Try.results23, go_sem, *]) rfl ⟨_, rfl, ⟨some ⟨S, 0, none⟩, L.length, by rw [tn_len], HQn.out, HQs.out, by rw [tn_len]; exact Nat.le_refl _⟩, HBw.out.setCell (p := ⟨B2, 0, none⟩) hB2l _⟩
end Go.Proofs.Ytangkpbehpgmiab.W

/-
  The turned graph: its model, and the program's; slices.Contains. Conditions: a good graph. Written by wip/build/mk_grh.py.
-/
import Derived.Test.YtochhnibegcbpaaGrK
namespace Go.Proofs.Ytochhnibegcbpaa.W
open Go.ChangeShapes Go.WideShapes Go.ChangeAt Go.RowKit Go.Joins
set_option linter.unusedVariables false
set_option linter.unusedSimpArgs false

/-- x goes on to y, by marks. -/
def eB (L : List (List Int)) (y x : Nat) : Bool := decide ((y : Int) ∈ L.getD x [])
/-- Who goes on to each block. -/
def tn (L : List (List Int)) : List (List Int) := (List.range L.length).map (fun y => lst (eB L y) L.length)
theorem tn_len (L : List (List Int)) : (tn L).length = L.length := by simp [tn]
theorem tn_at (L : List (List Int)) {y : Nat} (h : y < (tn L).length) : (tn L)[y] = lst (eB L y) L.length := by simp [tn]
theorem getD_at {L : List (List Int)} {j : Nat} (h : j < L.length) : L.getD j [] = L[j] := by rw [List.getD_eq_getElem?_getD, List.getElem?_eq_getElem h]; rfl
theorem ris_risL {l : List Int} {n : Nat} (h : Ris l) (hb : ∀ x ∈ l, 0 ≤ x ∧ x < (n : Int)) : RisL l n := fun i hi => ⟨(hb _ (List.getElem_mem hi)).1, (hb _ (List.getElem_mem hi)).2, fun h0 => List.pairwise_iff_getElem.1 h (i - 1) i (by omega) hi (by omega)⟩
theorem tn_good {L : List (List Int)} (hg : GG L) : GG (tn L) := by
  refine ⟨by rw [tn_len]; exact hg.1, by rw [tn_len]; exact hg.2.1, fun i hi => ?_⟩
  rw [tn_at L hi, tn_len]
  refine ris_risL (lst_ris _ _) (fun x hx => ?_)
  obtain ⟨k, rfl, hk, -⟩ := lst_mem.1 hx
  omega
theorem tn_edge {L : List (List Int)} {x y : Nat} : Edge (tn L) y x ↔ y < L.length ∧ Edge L x y := by
  constructor
  · rintro ⟨h1, h2⟩
    rw [tn_at L h1] at h2
    obtain ⟨k, e, hk, he⟩ := lst_mem.1 h2
    obtain rfl : x = k := by omega
    rw [eB, decide_eq_true_eq, getD_at hk] at he
    exact ⟨by rw [tn_len] at h1; exact h1, hk, he⟩
  · rintro ⟨h0, h1, h2⟩
    have hy : y < (tn L).length := by rw [tn_len]; exact h0
    refine ⟨hy, ?_⟩
    rw [tn_at L hy]
    exact lst_mem.2 ⟨x, rfl, h1, by rw [eB, decide_eq_true_eq, getD_at h1]; exact h2⟩
/-- The row of block y behind the first j blocks and m of block j's. -/
def tnS (L : List (List Int)) (j : Nat) (l : List Int) (m y : Nat) : List Int := lst (eB L y) j ++ if (y : Int) ∈ l.take m then [(j : Int)] else []
theorem tnS_zero (L : List (List Int)) (j : Nat) (l : List Int) (y : Nat) : tnS L j l 0 y = lst (eB L y) j := by simp [tnS]
theorem tnS_end (L : List (List Int)) {j : Nat} (h : j < L.length) (y : Nat) : tnS L j L[j] L[j].length y = lst (eB L y) (j + 1) := by
  rw [tnS, lst_succ, List.take_of_length_le (Nat.le_refl _)]
  congr 1
  simp only [eB, getD_at h, decide_eq_true_eq]
theorem tnS_other (L : List (List Int)) {j : Nat} {l : List Int} {m y : Nat} (hm : m < l.length) (hy : l[m] ≠ (y : Int)) : tnS L j l (m + 1) y = tnS L j l m y := by
  unfold tnS
  rw [List.take_add_one, List.getElem?_eq_getElem hm]
  have : ((y : Int) ∈ l.take m ++ (some l[m]).toList) ↔ (y : Int) ∈ l.take m := by
    rw [List.mem_append]
    exact ⟨fun h => h.elim id (fun h => absurd (show (y : Int) = l[m] by simpa using h).symm hy), .inl⟩
  simp only [this]
theorem tnS_same (L : List (List Int)) {j : Nat} {l : List Int} {n m X : Nat} (hr : RisL l n) (hm : m < l.length) (hX : l[m] = (X : Int)) : tnS L j l (m + 1) X = tnS L j l m X ++ [(j : Int)] := by
  have hno : ¬ (X : Int) ∈ l.take m := by
    intro h
    obtain ⟨q, hq, e⟩ := List.getElem_of_mem h
    rw [List.length_take] at hq
    rw [List.getElem_take] at e
    have hlt : ∀ (d : Nat) (hd : q + d + 1 < l.length), l[q] < l[q + d + 1] := by
      intro d
      induction d with
      | zero => intro hd; exact (hr (q + 0 + 1) hd).2.2 (by omega)
      | succ d ih => intro hd; have h1 := ih (by omega); have h2 := (hr (q + (d + 1) + 1) hd).2.2 (by omega); exact Int.lt_trans h1 h2
    have := hlt (m - q - 1) (by omega)
    simp only [show q + (m - q - 1) + 1 = m by omega] at this
    omega
  have hyes : (X : Int) ∈ l.take (m + 1) := by
    rw [List.take_add_one, List.getElem?_eq_getElem hm, hX]; simp
  unfold tnS
  rw [if_neg hno, if_pos hyes]
  simp
theorem tnS_len (L : List (List Int)) (j : Nat) (l : List Int) (m y : Nat) : (tnS L j l m y).length ≤ j + 1 := by
  unfold tnS
  have := lst_len (eB L y) j
  rw [List.length_append]
  split <;> simp <;> omega

theorem wp_append_i {w : World} {o : Oper} {a : Act} {K : Act → World → Prop} {Q : Exit → Act → World → Prop} (s x : Operand)
    (ho : o.op = .call { callee := .builtin .append, args := #[s, x], argTypes := #[35, 35] })
    (base : Nat) (v : Value) (n : Nat) (xs : List Value) (hs : a.eval s = v) (hown : w.ownsRow base 3 1 v n xs) (u : Value) (m : Nat) (vs : List Value) (hx : a.eval x = u) (hu : PtI w u m vs) (hnm : n + m ≤ 1048576) (hbase : base ≤ w.heap.size)
    (h : ∀ v' w', w'.ownsRow base 3 1 v' (n + m) (xs ++ vs) → w.grownBy w' v.ownBlock → Apart w v v' → K (a.put o.dst v') w') : o.wp Try.prog a w K Q := by
  obtain ⟨i0, hi0, hzz⟩ := Option.map_eq_some_iff.1 infoInt1
  simp only [Prod.mk.injEq] at hzz
  obtain ⟨hz0, hz1, hz2⟩ := hzz
  rcases hu with ⟨rfl, rfl, rfl⟩ | ⟨ad, c, rfl, h2, h3, h4⟩
  · have hr := run_append_owned_none (P := Try.prog) (w := w) base 35 o.type 3 i0 1 Try.underlying35 hi0 v n xs hown
    unfold Oper.wp execOp
    simp only [ho, resolve, invoke, builtin, Sem.run_bind, Sem.run_pure, Result.andThen_ok, List.map_toArray, List.map_cons, List.map_nil, hs, hx, hr]
    exact h v w (by simpa using hown) (World.grownBy.refl _ _) (fun g hg => .inl hg)
  · obtain ⟨v', w', hr, g2, g3, g4⟩ := run_append_sep (P := Try.prog) w base 35 o.type 3 i0 (.int .i64 0) 1 8 Try.underlying35 hi0 hz0 hz1 hz2 (by simp [Value.cells]) (by decide) v n xs hown ad m c vs h2 h3 h4 (by unfold maxLen; omega) (by omega) hbase
    unfold Oper.wp execOp
    simp only [ho, resolve, invoke, builtin, Sem.run_bind, Sem.run_pure, Result.andThen_ok, List.map_toArray, List.map_cons, List.map_nil, hs, hx, hr]
    exact h v' w' g2 g3 g4

/-- A row that has grown in the place of what it was. -/
theorem OOv.app {w wa w2 : World} {base S n c : Nat} {Ls : List (List Int)} {vs : List Value} {l : List Int} {x v' : Value} {j : Nat} (h : OOv w base (.slice (some ⟨S, 0, none⟩) n c) Ls vs) (hn : n = Ls.length) (hj : j < Ls.length) (hb : base ≤ w.heap.size) (hb1 : Below w.heap.size w wa)
    (hx : vs[j]? = some x) (hv : w2.ownsRow base 3 1 v' l.length (ic l)) (hg : wa.grownBy w2 x.ownBlock) (hap : Apart wa x v') : OOv (w2.setCell ⟨S, j, none⟩ v') base (.slice (some ⟨S, 0, none⟩) n c) (Ls.set j l) (vs.set j v') := by
  subst hn
  obtain ⟨hlen, ⟨h1, h2⟩ | ⟨g, cap, cur, h1, hgS, hh, h2, h3, h4, h5⟩⟩ := h.own
  · cases h1
  simp only [Value.slice.injEq, Option.some.injEq, Addr.mk.injEq, and_true] at h1
  obtain ⟨rfl, -, rfl⟩ := h1
  have hSl : S < w.heap.size := (Array.getElem?_eq_some_iff.1 hh).1
  have hfx : x.ownBlock ≠ some S := fun e => h.far j x S hx e rfl
  have hh1 : w2.heap[S]? = some (.cells cur 35 (0, 0)) := (hg.block S (Nat.lt_of_lt_of_le hSl hb1.size) (fun e => hfx e.symm)).trans ((hb1.block S hSl).trans hh)
  have hvl : vs.length = Ls.length := by rw [hlen, Nat.mul_one]
  have hsz := hb1.size
  have hvk : ∀ k, v'.ownBlock = some k → x.ownBlock = some k ∨ w.heap.size ≤ k := fun k hk => (hap k hk).imp id (fun h => by omega)
  have old : ∀ (q : Nat) (y : Value) (k : Nat), vs[q]? = some y → y.ownBlock = some k → k < w.heap.size := fun q y k hy hk => by
    have hq : q < Ls.length := by have := (List.getElem?_eq_some_iff.1 hy).1; omega
    obtain ⟨y', y1, y2⟩ := h.at_ q hq
    rw [hy] at y1
    cases y1
    exact (y2.lt k hk).2
  have hvS : ∀ k, v'.ownBlock = some k → k ≠ S := fun k hk e => by
    rcases hvk k hk with h6 | h6
    · exact hfx (by rw [h6, e])
    · omega
  refine ⟨?_, fun q hq => ?_, fun q y k hy hk e => ?_, fun p q y z k hpq hy hz hk e => ?_⟩
  · rw [List.length_set]
    refine ⟨by rw [List.length_set, Nat.mul_one, hvl], .inr ⟨S, c, _, rfl, hgS, blk_setCell hh1 v', h2, h3, by rw [Array.size_setIfInBounds]; exact h4, ?_⟩⟩
    rw [Array.toList_setIfInBounds, List.take_set, h5]
  · rw [List.length_set] at hq
    by_cases e : j = q
    · subst e
      refine ⟨v', List.getElem?_set_self (by omega), ?_⟩
      rw [List.getElem_set_self]
      exact own_blk hv (fun k hk => Below.heap_setCell _ _ _ _ (hvS k hk))
    · obtain ⟨y, y1, y2⟩ := h.at_ q hq
      refine ⟨y, by rw [List.getElem?_set_ne e]; exact y1, ?_⟩
      rw [List.getElem_set_ne e]
      refine own_blk y2 (fun k hk => ?_)
      have hkS : k ≠ S := fun e' => h.far q y k y1 hk (by rw [e']; rfl)
      have hkl := old q y k y1 hk
      rw [Below.heap_setCell _ _ _ _ hkS, hg.block k (by omega) (fun e' => h.apart q j y x k (fun e2 => e e2.symm) y1 hx hk e'.symm)]
      exact hb1.block k hkl
  · by_cases e2 : j = q
    · subst e2
      rw [List.getElem?_set_self (by omega)] at hy
      cases hy
      have e3 : S = k := by simpa [Value.ownBlock] using e
      exact hvS k hk e3.symm
    · rw [List.getElem?_set_ne e2] at hy
      exact h.far q y k hy hk e
  · by_cases e1 : j = p
    · subst e1
      rw [List.getElem?_set_self (by omega)] at hy
      cases hy
      rw [List.getElem?_set_ne hpq] at hz
      rcases hvk k hk with h6 | h6
      · exact h.apart j q x z k hpq hx hz h6 e
      · have := old q z k hz e; omega
    · rw [List.getElem?_set_ne e1] at hy
      by_cases e2 : j = q
      · subst e2
        rw [List.getElem?_set_self (by omega)] at hz
        cases hz
        rcases hvk k e with h6 | h6
        · exact h.apart p j y x k hpq hy hx hk h6
        · have := old p y k hy hk; omega
      · rw [List.getElem?_set_ne e2] at hz
        exact h.apart p q y z k hpq hy hz hk e

theorem dIdx (F : Nat → Nat → Bool) (w : World) : ∀ j : Nat, j < 12 → (Instr.index 65 (.agg (dA F)) (.int .i64 (j : Int))).run Try.prog w = .ok (.agg (sA (F j))) w
  | 0, _ => by kernel_rfl
  | 1, _ => by kernel_rfl
  | 2, _ => by kernel_rfl
  | 3, _ => by kernel_rfl
  | 4, _ => by kernel_rfl
  | 5, _ => by kernel_rfl
  | 6, _ => by kernel_rfl
  | 7, _ => by kernel_rfl
  | 8, _ => by kernel_rfl
  | 9, _ => by kernel_rfl
  | 10, _ => by kernel_rfl
  | 11, _ => by kernel_rfl
  | n + 12, h => absurd h (by omega)
end Go.Proofs.Ytochhnibegcbpaa.W

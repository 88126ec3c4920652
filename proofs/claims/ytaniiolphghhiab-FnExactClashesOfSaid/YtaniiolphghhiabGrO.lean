/-
  Rows of rows of numbers: what it is to own one, and contracts of the law's loops over it: eqIntSS, markIntSS, heldIntSS. Conditions: at most 600 rows of at most 600 numbers. Written by wip/build/mk_gro.py.
-/
import Derived.Test.YtaniiolphghhiabGrS
namespace Go.Proofs.Ytaniiolphghhiab.W
open Go.ChangeShapes Go.WideShapes Go.ChangeAt Go.RowKit Go.Joins
set_option linter.unusedVariables false

theorem tOwn_lies {w : World} {base n size : Nat} {e : TypeId} {s : Value} {cs : List Value} (h : w.ownsRow base e size s n cs) (hn : 0 < n) : ∃ g cap, s = .slice (some ⟨g, 0, none⟩) n cap ∧ base ≤ g ∧ g < w.heap.size ∧ ∀ j v, cs[j]? = some v → w.cell? ⟨g, j, none⟩ = some v := by
  rcases h.2 with ⟨_, h0⟩ | ⟨g, cap, cur, hv, hg, hh, h1, h2, h3, h4⟩
  · omega
  · refine ⟨g, cap, hv, hg, (Array.getElem?_eq_some_iff.1 hh).1, fun j v hj => ?_⟩
    have hlt : j < n * size := by rw [← h.1]; exact (List.getElem?_eq_some_iff.1 hj).1
    rw [cell_of_blk hh, ← hj, ← h4, List.getElem?_take_of_lt hlt]
    simp
theorem RMk.form {mv : Nat → Nat → Value} {w : World} {v : Value} {T : TypeId} {z k0 n : Nat} (h : RMk mv w v T z k0 n) : ∃ a c, v = .slice a n c := by
  obtain ⟨a, c, h1, -⟩ := h
  exact ⟨a, c, h1⟩

/-- v is a row of the rows vs, each with memory of its own from base on. -/
structure OOv (w : World) (base : Nat) (v : Value) (L : List (List Int)) (vs : List Value) : Prop where
  own : w.ownsRow base 45 1 v L.length vs
  at_ : ∀ j (h : j < L.length), ∃ x, vs[j]? = some x ∧ w.ownsRow base 3 1 x L[j].length (ic L[j])
  far : ∀ (j : Nat) (x : Value) (k : Nat), vs[j]? = some x → x.ownBlock = some k → v.ownBlock ≠ some k
  apart : ∀ (i j : Nat) (x y : Value) (k : Nat), i ≠ j → vs[i]? = some x → vs[j]? = some y → x.ownBlock = some k → y.ownBlock ≠ some k
def OO (w : World) (base : Nat) (v : Value) (L : List (List Int)) : Prop := ∃ vs, OOv w base v L vs
theorem OOv.keep {w w' : World} {base : Nat} {v : Value} {L : List (List Int)} {vs : List Value} (h : OOv w base v L vs) (hk : ∀ k, base ≤ k → k < w.heap.size → w'.heap[k]? = w.heap[k]?) : OOv w' base v L vs :=
  ⟨own_keep h.own hk, fun j hj => by obtain ⟨x, h1, h2⟩ := h.at_ j hj; exact ⟨x, h1, own_keep h2 hk⟩, h.far, h.apart⟩
theorem OO.keep {w w' : World} {base : Nat} {v : Value} {L : List (List Int)} (h : OO w base v L) (hk : ∀ k, base ≤ k → k < w.heap.size → w'.heap[k]? = w.heap[k]?) : OO w' base v L := by
  obtain ⟨vs, h⟩ := h
  exact ⟨vs, h.keep hk⟩
theorem OO.lower {w : World} {base base' : Nat} {v : Value} {L : List (List Int)} (h : OO w base v L) (hb : base' ≤ base) : OO w base' v L := by
  obtain ⟨vs, h⟩ := h
  exact ⟨vs, own_lower h.own hb, fun j hj => by obtain ⟨x, h1, h2⟩ := h.at_ j hj; exact ⟨x, h1, own_lower h2 hb⟩, h.far, h.apart⟩
theorem OO.nil (w : World) (base : Nat) : OO w base (.slice none 0 0) [] := ⟨[], World.ownsRow_nil _ _ _ _, fun j hj => by simp at hj, fun j x k hx => by simp at hx, fun i j x y k _ hx => by simp at hx⟩
theorem OO.form {w : World} {base : Nat} {v : Value} {L : List (List Int)} (h : OO w base v L) : ∃ a c, v = .slice a L.length c := by
  obtain ⟨vs, h⟩ := h
  exact own_form h.own
/-- One element as a walk wants it. -/
theorem OO.elem {w : World} {base : Nat} {v : Value} {L : List (List Int)} (h : OO w base v L) {j : Nat} (hj : j < L.length) : ∃ g cap x, v = .slice (some ⟨g, 0, none⟩) L.length cap ∧ base ≤ g ∧ g < w.heap.size ∧ w.cell? ⟨g, j, none⟩ = some x ∧ w.ownsRow base 3 1 x L[j].length (ic L[j]) := by
  obtain ⟨vs, h⟩ := h
  obtain ⟨x, h1, h2⟩ := h.at_ j hj
  obtain ⟨g, cap, e1, e2, e3, e4⟩ := tOwn_lies h.own (by omega)
  exact ⟨g, cap, x, e1, e2, e3, e4 j x h1, h2⟩

theorem eqOwnC (v1 v2 : Value) (b1 b2 : Nat) (L : List Int) (w : World) (hl : L.length ≤ 1048576) (h1 : w.ownsRow b1 3 1 v1 L.length (ic L)) (h2 : w.ownsRow b2 3 1 v2 L.length (ic L)) :
    Calls Try.prog 26 #[v1, v2] w fun e w' => e = .returned (.bool true) ∧ Below w.heap.size w w' := by
  exact eqIntS_v v1 v2 L w (iv_own h1 rfl hl) (iv_own h2 rfl hl)

set_option maxHeartbeats 1000000 in
theorem eqIntSS_same (v1 v2 : Value) (b1 b2 : Nat) (L : List (List Int)) (w : World) (hl : L.length ≤ 600) (h6 : ∀ l ∈ L, l.length ≤ 600) (h1 : OO w b1 v1 L) (h2 : OO w b2 v2 L) :
    Calls Try.prog 8 #[v1, v2] w fun e w' => e = .returned (.bool true) ∧ Below w.heap.size w w' := by
  have H1 := hide h1
  have H2 := hide h2
  have H6 := hide h6
  obtain ⟨a1, c1, rfl⟩ := h1.form
  obtain ⟨a2, c2, rfl⟩ := h2.form
  clear h1 h2 h6
  go_enter Try.func8, Try.ntmps8
  go_wp2_with fail
  go_loopw [5] (fun i w' => ∃ j : Nat, j ≤ L.length ∧ i = .int .i64 j ∧ Below w.heap.size w w') (fun i _ => L.length - (intOf i).toNat)
  case atStart => exact ⟨0, by omega, rfl, Below.refl _ _⟩
  case round =>
    obtain ⟨j, hj, rfl, hB⟩ := hrel
    by_cases hlt : j < L.length
    · have hlt' : (j : Int) < (L.length : Int) := by omega
      obtain ⟨g1, cp1, x1, e1, -, hg1, p1, o1⟩ := H1.out.elem hlt
      obtain ⟨g2, cp2, x2, e2, -, hg2, p2, o2⟩ := H2.out.elem hlt
      simp only [Value.slice.injEq] at e1 e2
      obtain ⟨rfl, -, -⟩ := e1
      obtain ⟨rfl, -, -⟩ := e2
      have q1 : wr.cell? ⟨g1, j, none⟩ = some x1 := (hB.cell (p := ⟨g1, j, none⟩) hg1).trans p1
      have q2 : wr.cell? ⟨g2, j, none⟩ = some x2 := (hB.cell (p := ⟨g2, j, none⟩) hg2).trans p2
      have HE := hide (fun (w1 : World) (hw : ∀ k : Nat, w1.heap[k]? = wr.heap[k]?) => eqOwnC x1 x2 b1 b2 L[j] w1 (by have := H6.out L[j] (List.getElem_mem hlt); omega) (own_keep o1 (fun k _ hk => (hw k).trans (hB.block k hk))) (own_keep o2 (fun k _ hk => (hw k).trans (hB.block k hk))))
      obtain ⟨ad1, k1, rfl⟩ := own_form o1
      obtain ⟨ad2, k2, rfl⟩ := own_form o2
      obtain ⟨N, hN⟩ : ∃ N, N = L[j].length := ⟨_, rfl⟩
      rw [← hN] at q1 q2 HE
      clear o1 o2 p1 p2 H1 H2 H6 hN
      go_wp2_with fail
      go_region_with (go_at_call 26; refine Calls.mono (HE.out _ (fun _ => rfl)) ?_; rintro e w1 ⟨rfl, hb1⟩)
      all_goals
        have hB1 : Below w.heap.size w w1 := hB.trans ((show Below wr.heap.size wr w1 from ⟨hb1.os, hb1.tape, hb1.output, hb1.size, hb1.block⟩).mono hB.size)
        clear q1 q2 hb1
        go_wp2_with fail
        exact ⟨⟨j + 1, by omega, by go_num, hB1⟩, by simp [intOf]; omega⟩
    · go_wp2_with fail
      go_ret
      exact ⟨rfl, hB⟩

theorem own_blk {w w' : World} {base n size : Nat} {e : TypeId} {v : Value} {xs : List Value} (h : w.ownsRow base e size v n xs) (hk : ∀ k, v.ownBlock = some k → w'.heap[k]? = w.heap[k]?) : w'.ownsRow base e size v n xs := by
  refine ⟨h.1, ?_⟩
  rcases h.2 with h | ⟨g, cap, cur, rfl, h1, h2, h3⟩
  · exact .inl h
  · exact .inr ⟨g, cap, cur, rfl, h1, (hk g rfl).trans h2, h3⟩
/-- How many cells lie ahead of the row j. -/
def pf (L : List (List Int)) (j : Nat) : Nat := ((L.take j).map List.length).sum
theorem pf_succ {L : List (List Int)} {j : Nat} (h : j < L.length) : pf L (j + 1) = pf L j + L[j].length := by
  unfold pf
  rw [List.take_add_one, List.getElem?_eq_getElem h, List.map_append, List.sum_append]
  show _ + (L[j].length + 0) = _
  rw [Nat.add_zero]
theorem pf_le {L : List (List Int)} (h6 : ∀ l ∈ L, l.length ≤ 600) : ∀ j, j ≤ L.length → pf L j ≤ j * 600
  | 0, _ => by simp [pf]
  | j + 1, h => by rw [pf_succ h]; have := pf_le h6 j (by omega); have := h6 L[j] (List.getElem_mem h); omega
/-- The rows bear the marks from 1 on, one behind the other. -/
def MM (w : World) (v : Value) (L : List (List Int)) : Prop :=
  ∃ a c, v = .slice a L.length c ∧ (L.length = 0 ∨ ∃ g, a = some ⟨g, 0, none⟩ ∧ g < w.heap.size ∧ ∀ j (h : j < L.length), ∃ x, w.cell? ⟨g, j, none⟩ = some x ∧ RMk iM w x 3 1 (1 + pf L j * 1) L[j].length)
theorem MM.below {w w' : World} {v : Value} {L : List (List Int)} (h : MM w v L) (hb : Below w.heap.size w w') : MM w' v L := by
  obtain ⟨a, c, h1, h2 | ⟨g, h3, h4, h5⟩⟩ := h
  · exact ⟨a, c, h1, .inl h2⟩
  · refine ⟨a, c, h1, .inr ⟨g, h3, Nat.lt_of_lt_of_le h4 hb.size, fun j hj => ?_⟩⟩
    obtain ⟨x, i1, i2⟩ := h5 j hj
    exact ⟨x, (hb.cell (p := ⟨g, j, none⟩) h4).trans i1, i2.below hb⟩
theorem RMk.keep {mv : Nat → Nat → Value} {w w' : World} {v : Value} {T : TypeId} {z k0 n : Nat} (h : RMk mv w v T z k0 n) (hk : ∀ k, v.ownBlock = some k → w'.heap[k]? = w.heap[k]?) : RMk mv w' v T z k0 n := by
  obtain ⟨a, c, h1, h2 | ⟨g, cur, h3, h4, h5⟩⟩ := h
  · exact ⟨a, c, h1, .inl h2⟩
  · exact ⟨a, c, h1, .inr ⟨g, cur, h3, (hk g (by rw [h1, h3]; rfl)).trans h4, h5⟩⟩

set_option maxHeartbeats 1000000 in
theorem markIntSS_any (v : Value) (base : Nat) (L : List (List Int)) (w : World) (hbw : base ≤ w.heap.size) (hl : L.length ≤ 600) (h6 : ∀ l ∈ L, l.length ≤ 600) (h : OO w base v L) :
    Calls Try.prog 11 #[v, .int .i64 1] w fun e w' => e = .returned (.int .i64 ((1 + pf L L.length * 1 : Nat) : Int)) ∧ MM w' v L ∧ Below base w w' := by
  obtain ⟨vs, h⟩ := h
  have HO := hide h
  have H6 := hide h6
  obtain ⟨a, c, rfl⟩ := own_form h.own
  clear h h6
  go_enter Try.func11, Try.ntmps11
  go_wp2_with fail
  go_loopw [1, 5] (fun k i w' => ∃ j : Nat, j ≤ L.length ∧ i = .int .i64 j ∧ k = .int .i64 ((1 + pf L j * 1 : Nat) : Int) ∧ (∀ r (hr : r < L.length), r < j → ∀ x, vs[r]? = some x → RMk iM w' x 3 1 (1 + pf L r * 1) L[r].length) ∧ (∀ g, g < w.heap.size → (∀ r x, r < j → vs[r]? = some x → x.ownBlock ≠ some g) → w'.heap[g]? = w.heap[g]?) ∧ Below base w w') (fun _ i _ => L.length - (intOf i).toNat)
  case atStart => exact ⟨0, by omega, rfl, by simp [pf], fun r _ h => by omega, fun g _ _ => rfl, Below.refl _ _⟩
  case round =>
    obtain ⟨j, hj, rfl, rfl, hM, hK, hB⟩ := hrel
    have HM := hide hM
    have HK := hide hK
    clear hM hK
    by_cases hlt : j < L.length
    · have hlt' : (j : Int) < (L.length : Int) := by omega
      obtain ⟨x, hx, ox⟩ := HO.out.at_ j hlt
      obtain ⟨g, cap, e1, hgb, hgl, e4⟩ := tOwn_lies HO.out.own (by omega)
      simp only [Value.slice.injEq] at e1
      obtain ⟨rfl, -, rfl⟩ := e1
      have hgs : wr.heap[g]? = w.heap[g]? := HK.out g hgl (fun r y _ hy e => HO.out.far r y g hy e rfl)
      have p1 : wr.cell? ⟨g, j, none⟩ = some x := (World.cell?_of_block (w := w) (a := ⟨g, j, none⟩) hgs).trans (e4 j x hx)
      have hp := pf_le H6.out j hj
      have hl6 := H6.out L[j] (List.getElem_mem hlt)
      have hxk : ∀ k, x.ownBlock = some k → wr.heap[k]? = w.heap[k]? := fun k hk => HK.out k (ox.lt k hk).2 (fun r y hr hy e => HO.out.apart r j y x k (by omega) hy hx e hk)
      have HMk := hide (fun (w1 : World) (hw : ∀ k : Nat, w1.heap[k]? = wr.heap[k]?) => markIntS_own x base L[j].length (1 + pf L j * 1) (ic L[j]) w1 (by omega) (by omega) (own_blk ox (fun k hk => (hw k).trans (hxk k hk))))
      have Hx := hide hx
      have Hox := hide ox
      obtain ⟨ad1, k1, rfl⟩ := own_form ox
      obtain ⟨N, hN⟩ : ∃ N, N = L[j].length := ⟨_, rfl⟩
      obtain ⟨K, hKe⟩ : ∃ K, K = 1 + pf L j * 1 := ⟨_, rfl⟩
      rw [← hN] at p1 HMk hl6 Hx Hox
      rw [← hKe] at HMk ⊢
      have HN := hide hN
      have HKe := hide hKe
      clear ox hx hN hKe e4 hgs hxk
      go_wp2_with fail
      refine Calls.mono (HMk.out _ (fun _ => rfl)) ?_
      rintro e w1 ⟨rfl, hm1, hg1⟩
      have hbl : Below base wr w1 := ⟨hg1.os, hg1.tape, hg1.output, hg1.size, fun k hk => hg1.block k (by have := hB.size; omega) (fun e => by have := (Hox.out.lt k e.symm).1; omega)⟩
      clear HMk p1
      go_wp2_with fail
      have ps := pf_succ hlt
      refine ⟨⟨j + 1, by omega, by go_num, ?_, ?_, ?_, hB.trans hbl⟩, by simp [intOf]; omega⟩
      · rw [ps, ← HN.out, HKe.out]; congr 2; omega
      · intro r hr hrj y hy
        by_cases e : r = j
        · subst e
          have h5 := Hx.out
          rw [hy] at h5
          simp only [Option.some.injEq] at h5
          subst h5
          have h6 := hm1
          rw [HKe.out] at h6
          rw [← HN.out]
          exact h6
        · exact (HM.out r hr (by omega) y hy).keep (fun k hk => hg1.block k (Nat.lt_of_lt_of_le ((HO.out.at_ r hr).elim fun y' hy' => by have h7 := hy'.1; rw [hy] at h7; cases h7; exact (hy'.2.lt k hk).2) hB.size) (fun e' => HO.out.apart r j y _ k e hy Hx.out hk e'.symm))
      · intro g' hg' hfar
        exact (hg1.block g' (Nat.lt_of_lt_of_le hg' hB.size) (fun e' => hfar j _ (by omega) Hx.out e'.symm)).trans (HK.out g' hg' (fun r y hr hy => hfar r y (by omega) hy))
    · obtain rfl : j = L.length := by omega
      go_wp2_with fail
      go_ret
      refine ⟨rfl, ⟨a, c, rfl, ?_⟩, hB⟩
      by_cases h0 : L.length = 0
      · exact .inl h0
      · obtain ⟨g, cap, e1, hgb, hgl, e4⟩ := tOwn_lies HO.out.own (by omega)
        simp only [Value.slice.injEq] at e1
        obtain ⟨rfl, -, rfl⟩ := e1
        refine .inr ⟨g, rfl, Nat.lt_of_lt_of_le hgl hB.size, fun j hj => ?_⟩
        obtain ⟨x, hx, ox⟩ := HO.out.at_ j hj
        exact ⟨x, (World.cell?_of_block (w := w) (a := ⟨g, j, none⟩) (HK.out g hgl (fun r y _ hy e => HO.out.far r y g hy e rfl))).trans (e4 j x hx), HM.out j hj hj x hx⟩

set_option maxHeartbeats 1000000 in
theorem heldIntSS_any (v : Value) (L : List (List Int)) (w : World) (hl : L.length ≤ 600) (h6 : ∀ l ∈ L, l.length ≤ 600) (h : MM w v L) :
    Calls Try.prog 12 #[v, .int .i64 1] w fun e w' => e = .returned (.int .i64 ((1 + pf L L.length * 1 : Nat) : Int)) ∧ Below w.heap.size w w' := by
  obtain ⟨a, c, rfl, h⟩ := h
  have HO := hide h
  have H6 := hide h6
  clear h h6
  go_enter Try.func12, Try.ntmps12
  go_wp2_with fail
  go_loopw [1, 5] (fun k i w' => ∃ j : Nat, j ≤ L.length ∧ i = .int .i64 j ∧ k = .int .i64 ((1 + pf L j * 1 : Nat) : Int) ∧ Below w.heap.size w w') (fun _ i _ => L.length - (intOf i).toNat)
  case atStart => exact ⟨0, by omega, rfl, by simp [pf], Below.refl _ _⟩
  case round =>
    obtain ⟨j, hj, rfl, rfl, hB⟩ := hrel
    by_cases hlt : j < L.length
    · have hlt' : (j : Int) < (L.length : Int) := by omega
      obtain ⟨g, ea, hgl, hat⟩ : ∃ g, a = some ⟨g, 0, none⟩ ∧ g < w.heap.size ∧ ∀ j (h : j < L.length), ∃ x, w.cell? ⟨g, j, none⟩ = some x ∧ RMk iM w x 3 1 (1 + pf L j * 1) L[j].length := by
        rcases HO.out with h | h
        · omega
        · exact h
      subst ea
      obtain ⟨x, hx, ox⟩ := hat j hlt
      have p1 : wr.cell? ⟨g, j, none⟩ = some x := (hB.cell (p := ⟨g, j, none⟩) hgl).trans hx
      have hp := pf_le H6.out j hj
      have hl6 := H6.out L[j] (List.getElem_mem hlt)
      have HMk := hide (fun (w1 : World) (hw : ∀ k : Nat, w1.heap[k]? = wr.heap[k]?) => heldIntS_own x L[j].length (1 + pf L j * 1) w1 (by omega) (by omega) ((ox.below hB).keep (fun k hk => hw k)))
      obtain ⟨ad1, k1, rfl⟩ := ox.form
      have ps := pf_succ hlt
      obtain ⟨N, hN⟩ : ∃ N, N = L[j].length := ⟨_, rfl⟩
      obtain ⟨K, hKe⟩ : ∃ K, K = 1 + pf L j * 1 := ⟨_, rfl⟩
      rw [← hN] at p1 HMk hl6 ps
      rw [← hKe] at HMk ⊢
      obtain ⟨K', hKe'⟩ : ∃ K', K' = 1 + pf L (j + 1) * 1 := ⟨_, rfl⟩
      have hKK : K' = K + N * 1 := by omega
      rw [← hKK] at HMk
      have hK0 : ¬ ((K' : Nat) : Int) < 0 := by omega
      have HKe' := hide hKe'
      clear ox hx hN hKe hat ps hKK hKe'
      go_wp2_with fail
      refine Calls.mono (HMk.out _ (fun _ => rfl)) ?_
      rintro e w1 ⟨rfl, hb1⟩
      have hB1 : Below w.heap.size w w1 := hB.trans ((show Below wr.heap.size wr w1 from ⟨hb1.os, hb1.tape, hb1.output, hb1.size, hb1.block⟩).mono hB.size)
      clear HMk p1 hb1
      go_wp2_with fail
      exact ⟨⟨j + 1, by omega, by go_num, by rw [HKe'.out], hB1⟩, by simp [intOf]; omega⟩
    · obtain rfl : j = L.length := by omega
      go_wp2_with fail
      go_ret
      exact ⟨rfl, hB⟩

theorem get_snoc {xs : List Value} {x y : Value} {j : Nat} (h : (xs ++ [x])[j]? = some y) : xs[j]? = some y ∨ (j = xs.length ∧ y = x) := by
  by_cases e : j < xs.length
  · rw [List.getElem?_append_left e] at h; exact .inl h
  · have hj : j < (xs ++ [x]).length := (List.getElem?_eq_some_iff.1 h).1
    rw [List.length_append, List.length_singleton] at hj
    obtain rfl : j = xs.length := by omega
    rw [List.getElem?_append_right (Nat.le_refl _)] at h
    simp at h
    exact .inr ⟨rfl, h.symm⟩
theorem OOv.lt {w : World} {base : Nat} {v : Value} {L : List (List Int)} {vs : List Value} (h : OOv w base v L vs) {j : Nat} {y : Value} {k : Nat} (hy : vs[j]? = some y) (hk : y.ownBlock = some k) : base ≤ k ∧ k < w.heap.size := by
  have hl : j < L.length := by have := (List.getElem?_eq_some_iff.1 hy).1; have := h.own.1; omega
  obtain ⟨y', h1, h2⟩ := h.at_ j hl
  rw [hy] at h1
  simp only [Option.some.injEq] at h1
  subst h1
  exact h2.lt k hk
theorem own_types {w : World} {b1 b2 e1 e2 s1 s2 n1 n2 : Nat} {v1 v2 : Value} {x1 x2 : List Value} (h1 : w.ownsRow b1 e1 s1 v1 n1 x1) (h2 : w.ownsRow b2 e2 s2 v2 n2 x2) (he : e1 ≠ e2) {k : Nat} (k1 : v1.ownBlock = some k) : v2.ownBlock ≠ some k := by
  intro k2
  rcases h1.2 with ⟨rfl, -⟩ | ⟨g1, cap1, cur1, rfl, -, g2, -⟩
  · cases k1
  · rcases h2.2 with ⟨rfl, -⟩ | ⟨g3, cap3, cur3, rfl, -, g4, -⟩
    · cases k2
    · simp only [Value.ownBlock, Option.some.injEq] at k1 k2
      subst k1 k2
      rw [g2] at g4
      simp only [Option.some.injEq, Obj.cells.injEq] at g4
      exact he g4.2.1
/-- A row more. -/
theorem OOv.snoc {w w1 w2 : World} {base : Nat} {v v' x : Value} {L : List (List Int)} {l : List Int} {xs : List Value} (h : OOv w base v L xs) (hb : base ≤ w.heap.size) (hb1 : Below w.heap.size w w1) (hx : w1.ownsRow w.heap.size 3 1 x l.length (ic l))
    (hown : w2.ownsRow base 45 1 v' (L.length + 1) (xs ++ [x])) (hg : w1.grownBy w2 v.ownBlock) : OO w2 base v' (L ++ [l]) := by
  have hlen : xs.length = L.length := by have := h.own.1; omega
  have hkx : ∀ k, x.ownBlock = some k → w2.heap[k]? = w1.heap[k]? := fun k hk => hg.block k (hx.lt k hk).2 (fun e => by have := (h.own.lt k e.symm).2; have := (hx.lt k hk).1; omega)
  have hat : ∀ j (hj : j < (L ++ [l]).length), ∃ y, (xs ++ [x])[j]? = some y ∧ w2.ownsRow base 3 1 y (L ++ [l])[j].length (ic (L ++ [l])[j]) := by
    intro j hj
    rw [List.length_append, List.length_singleton] at hj
    by_cases e : j < L.length
    · obtain ⟨y, h1, h2⟩ := h.at_ j e
      refine ⟨y, by rw [List.getElem?_append_left (by omega)]; exact h1, ?_⟩
      rw [List.getElem_append_left e]
      exact own_blk h2 (fun k hk => (hg.block k (Nat.lt_of_lt_of_le (h2.lt k hk).2 hb1.size) (fun e => h.far j y k h1 hk e.symm)).trans (hb1.block k (h2.lt k hk).2))
    · obtain rfl : j = L.length := by omega
      refine ⟨x, by rw [List.getElem?_append_right (by omega)]; simp [hlen], ?_⟩
      rw [List.getElem_append_right (by omega)]
      simp only [Nat.sub_self, List.getElem_cons_zero]
      exact own_blk (own_lower hx hb) hkx
  refine ⟨xs ++ [x], by rw [List.length_append, List.length_singleton]; exact hown, hat, ?_, ?_⟩
  · intro j y k hy hk e
    have hj : j < (L ++ [l]).length := by have := (List.getElem?_eq_some_iff.1 hy).1; simp at this ⊢; omega
    obtain ⟨y', h1, h2⟩ := hat j hj
    rw [hy] at h1
    simp only [Option.some.injEq] at h1
    subst h1
    exact own_types h2 hown (by decide) hk e
  · intro i j y z k hij hy hz hk e
    rcases get_snoc hy with h1 | ⟨e1, rfl⟩
    · rcases get_snoc hz with h2 | ⟨e2, rfl⟩
      · exact h.apart i j y z k hij h1 h2 hk e
      · have := h.lt h1 hk; have := hx.lt k e; omega
    · rcases get_snoc hz with h2 | ⟨e2, rfl⟩
      · have := h.lt h2 e; have := hx.lt k hk; omega
      · omega
end Go.Proofs.Ytaniiolphghhiab.W

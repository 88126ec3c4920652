/-
  The specification's rows of rows: l8Rows, l8Rest, l8Named. Conditions: rules in memory, at most 8.
-/
import Derived.Test.YtfepljcblajfpabMtB
namespace Go.Proofs.Ytfepljcblajfpab.W
open Go.ChangeShapes Go.WideShapes Go.ChangeAt Go.RowKit
set_option linter.unusedVariables false
set_option linter.unusedSimpArgs false

/-- The rows that a slice under work holds; none lies in the slice's own block. -/
def ROs (w : World) (s : Value) (vs : List Value) (R : List F) : Prop := vs.length = R.length ∧ ∀ i (h : i < R.length), ∃ u, vs[i]? = some u ∧ GT w (fun k => s.ownBlock ≠ some k) R[i] u ∧ Cap u
/-- Rows of patterns. -/
def RV (w : World) (v : Value) (R : List F) : Prop := ∃ vs, SL w (fun _ => True) v R.length vs ∧ Cap v ∧ vs.length = R.length ∧ ∀ i (h : i < R.length), ∃ u, vs[i]? = some u ∧ GT w (fun _ => True) R[i] u ∧ Cap u
theorem ROs.nil {w : World} {s : Value} : ROs w s [] [] := ⟨rfl, fun i h => by simp at h⟩
theorem ROs.below {w w' : World} {s : Value} {vs : List Value} {R : List F} (h : ROs w s vs R) (hb : Below w.heap.size w w') : ROs w' s vs R :=
  ⟨h.1, fun i hi => by obtain ⟨u, h1, h2, h3⟩ := h.2 i hi; exact ⟨u, h1, h2.below hb, h3⟩⟩
theorem ROs.app {w w1 w4 : World} {s v' u : Value} {vs : List Value} {R : List F} {a : F} (h : ROs w s vs R) (hg : GT w (fun k => s.ownBlock ≠ some k) a u) (hc : Cap u) (hs1 : w.heap.size ≤ w1.heap.size) (hk1 : ∀ k, k < w.heap.size → w1.heap[k]? = w.heap[k]?) (hgr : w1.grownBy w4 s.ownBlock) (hap : ∀ k, v'.ownBlock = some k → s.ownBlock = some k ∨ k = w1.heap.size) : ROs w4 v' (vs ++ [u]) (R ++ [a]) := by
  have hk : ∀ k, s.ownBlock ≠ some k → k < w.heap.size → w4.heap[k]? = w.heap[k]? ∧ v'.ownBlock ≠ some k := fun k h1 h2 => by
    refine ⟨(hgr.block k (by omega) (fun e => h1 e.symm)).trans (hk1 k h2), fun e => ?_⟩
    rcases hap k e with h3 | h3
    · exact h1 h3
    · omega
  have hs : w.heap.size ≤ w4.heap.size := Nat.le_trans hs1 hgr.size
  refine ⟨by simp [h.1], fun i hi => ?_⟩
  by_cases hi1 : i < R.length
  · obtain ⟨x, e1, e2, e3⟩ := h.2 i hi1
    rw [List.getElem_append_left hi1]
    exact ⟨x, by rw [List.getElem?_append_left (by rw [h.1]; exact hi1)]; exact e1, e2.keep hs hk, e3⟩
  · have hi2 : i = R.length := by simp at hi; omega
    subst hi2
    rw [List.getElem_append_right (Nat.le_refl _)]
    refine ⟨u, by rw [List.getElem?_append_right (by rw [h.1]; exact Nat.le_refl _), h.1]; simp, ?_, hc⟩
    simpa using hg.keep hs hk
theorem ROs.rv {w : World} {s : Value} {vs : List Value} {R : List F} {base : Nat} (h : ROs w s vs R) (ho : w.ownsRow base 70 1 s vs.length vs) : RV w s R := by
  refine ⟨vs, ?_, own_cap ho, h.1, fun i hi => ?_⟩
  · rw [← h.1]
    rcases ho.2 with ⟨h1, h2⟩ | ⟨g, cap, cur, h1, hb, hh, h3, h4, h5, h6⟩
    · exact .inl ⟨h1, h2⟩
    · refine .inr ⟨g, 0, cap, h1, .inr ⟨trivial, (Array.getElem?_eq_some_iff.1 hh).1⟩, fun j v hj => ?_⟩
      have hlt : j < vs.length * 1 := by rw [Nat.mul_one]; exact (List.getElem?_eq_some_iff.1 hj).1
      rw [Nat.zero_add, cell_of_blk hh, ← hj]
      conv => rhs; rw [← h6]
      rw [List.getElem?_take_of_lt hlt]
      simp
  · obtain ⟨u, h1, h2, h3⟩ := h.2 i hi
    exact ⟨u, h1, h2.weak (fun _ _ _ => trivial), h3⟩
theorem RV.below {w w' : World} {v : Value} {R : List F} (h : RV w v R) (hb : Below w.heap.size w w') : RV w' v R := by
  obtain ⟨vs, h1, h2, h3, h4⟩ := h
  refine ⟨vs, h1.keep (z := 1) (by rw [h3, Nat.mul_one]) hb.size (fun k _ hk => ⟨hb.block k hk, trivial⟩), h2, h3, fun i hi => ?_⟩
  obtain ⟨u, g1, g2, g3⟩ := h4 i hi
  exact ⟨u, g1, g2.below hb, g3⟩
theorem RV.form {w : World} {v : Value} {R : List F} (h : RV w v R) : ∃ ad c, v = .slice ad R.length c ∧ R.length ≤ c := by
  obtain ⟨vs, ⟨e, e0⟩ | ⟨g, o, c, e, _⟩, hc, _⟩ := h
  · exact ⟨none, 0, by rw [e0]; exact e, by omega⟩
  · exact ⟨_, c, e, hc _ _ _ e⟩
theorem RV.at {w w' : World} {v : Value} {R : List F} (h : RV w v R) (hb : Below w.heap.size w w') {i : Nat} (hi : i < R.length) :
    ∃ b o c u, v = .slice (some ⟨b, o, none⟩) R.length c ∧ b < w.heap.size ∧ w'.cell? ⟨b, o + i, none⟩ = some u ∧ GT w' (fun k => k < w.heap.size) R[i] u ∧ Cap u := by
  obtain ⟨vs, h1, h2, h3, h4⟩ := h
  obtain ⟨u, g1, g2, g3⟩ := h4 i hi
  rcases h1 with ⟨e, e0⟩ | ⟨b, o, c, e, h5, h6⟩
  · omega
  · have hb2 : b < w.heap.size := by rcases h5 with h5 | h5; omega; exact h5.2
    exact ⟨b, o, c, u, e, hb2, (hb.cell (p := ⟨b, o + i, none⟩) hb2).trans (h6 i u g1), g2.keep hb.size (fun k _ hk => ⟨hb.block k hk, hk⟩), g3⟩
theorem RV.take {w : World} {ad : Option Addr} {n c : Nat} {R : List F} (h : RV w (.slice ad n c) R) (j : Nat) (hj : j ≤ R.length) : RV w (.slice ad j c) (R.take j) := by
  obtain ⟨vs, h1, h2, h3, h4⟩ := h
  have hl : (R.take j).length = j := by simp; omega
  refine ⟨vs.take j, ?_, ?_, by simp [h3], fun i hi => ?_⟩
  · rw [hl]
    rcases h1 with ⟨e, e0⟩ | ⟨b, o, c', e, h5, h6⟩
    · simp only [Value.slice.injEq] at e
      obtain ⟨rfl, rfl, rfl⟩ := e
      exact .inl ⟨by rw [show j = 0 by omega], by omega⟩
    · simp only [Value.slice.injEq] at e
      obtain ⟨rfl, rfl, rfl⟩ := e
      refine .inr ⟨b, o, c, rfl, ?_, fun i v hv => h6 i v ?_⟩
      · by_cases h0 : j = 0
        · exact .inl h0
        · right
          rcases h5 with h5 | h5
          · omega
          · exact h5
      · have := (List.getElem?_eq_some_iff.1 hv).1
        simp at this
        rw [List.getElem?_take_of_lt (by omega)] at hv
        exact hv
  · intro ad' m c' e
    simp only [Value.slice.injEq] at e
    obtain ⟨rfl, rfl, rfl⟩ := e
    have hn : n = R.length := by
      rcases h1 with ⟨e, e0⟩ | ⟨b, o, c', e, h5, h6⟩
      · simp only [Value.slice.injEq] at e; omega
      · simp only [Value.slice.injEq] at e; omega
    have := h2 _ _ _ rfl
    omega
  · rw [hl] at hi
    obtain ⟨u, g1, g2, g3⟩ := h4 i (by omega)
    exact ⟨u, by rw [List.getElem?_take_of_lt hi]; exact g1, by simpa using g2, g3⟩
/-- Each pattern as a row of its own. -/
def ones : F → List F
  | .nil => []
  | .cons x k r => .cons x k .nil :: ones r
theorem ones_app : ∀ a b : F, ones (a.app b) = ones a ++ ones b
  | .nil, b => rfl
  | .cons x k r, b => by rw [F.app, ones, ones, ones_app r b]; rfl
theorem ones_len : ∀ a : F, (ones a).length = a.len
  | .nil => rfl
  | .cons x k r => by simp [ones, F.len, ones_len r]
theorem ones_trees {D : List Int} : ∀ {L : List (List Pt)} {a : F}, rulesF D L = some a → ones a = trees D L
  | [], a, h => by simp [rulesF] at h; subst h; rfl
  | l :: L, a, h => by
    rw [rulesF] at h
    cases h1 : treeT D 40 l with
    | none => rw [h1] at h; simp at h
    | some b =>
      rw [h1] at h
      cases h2 : rulesF D L with
      | none => rw [h2] at h; simp at h
      | some r =>
        rw [h2] at h
        simp at h
        subst h
        obtain ⟨-, f2, f3, -⟩ := treeT_flat h1
        obtain ⟨x, k, rfl⟩ : ∃ x k, b = .cons x k .nil := by
          cases b with
          | nil => simp [F.len] at f3
          | cons x k r =>
            simp [F.len] at f3
            exact ⟨x, k, by rw [F.len_0 f3]⟩
        rw [ones_app, ones_trees h2]
        simp [trees, h1, ones]

set_option maxRecDepth 20000 in
set_option maxHeartbeats 4000000 in
theorem l8Rows_any (R : F) (s : Value) (P : Nat → Prop) (w : World) (hR : KidT w P R s) (h8 : R.len ≤ 8) :
    Calls Try.prog 27 #[s] w fun e w' => ∃ v', e = .returned v' ∧ RV w' v' (ones R) ∧ Below w.heap.size w w' := by
  have HK := hide hR
  obtain ⟨sa, sc, rfl⟩ := hR.form
  obtain ⟨N, hN⟩ : ∃ N, N = R.len := ⟨_, rfl⟩
  rw [← hN] at h8 HK ⊢
  have HN := hide hN
  clear hR hN
  go_enter Try.func27, Try.ntmps27
  go_wp2_with fail
  go_loopw [3, 8] (fun o i w' => ∃ (a b : F) (vs : List Value), R = a.app b ∧ i = .int .i64 (a.len : Int) ∧ ROs w' o vs (ones a) ∧ w'.ownsRow w.heap.size 70 1 o vs.length vs ∧ Below w.heap.size w w') (fun _ i _ => N - (intOf i).toNat)
  case atStart => exact ⟨.nil, R, [], rfl, rfl, ROs.nil, World.ownsRow_nil _ _ _ _, Below.refl _ _⟩
  case round =>
    obtain ⟨a, b, vs, hab, rfl, hRO, hO, hB⟩ := hrel
    have hbl : a.len + b.len = N := by rw [HN.out, hab, F.app_len]
    obtain ⟨oad, oc, hof⟩ := own_form hO
    subst hof
    have HRO := hide hRO
    have HO := hide hO
    have HOl := hide (fun k hk => hO.lt k hk)
    have hvl : vs.length = a.len := by rw [hRO.1, ones_len]
    have hsz := hB.size
    clear hRO hO
    cases b with
    | nil =>
      have h0 : a.len = N := by simp [F.len] at hbl; omega
      have hRa : R = a := by rw [hab, F.app_nil]
      have HRV : Hid (RV wr (.slice oad vs.length oc) (ones R)) := hide (by rw [hRa]; exact HRO.out.rv HO.out)
      rw [h0]
      clear HRO HO hab
      go_wp2_with fail
      go_ret
      exact ⟨_, rfl, HRV.out, hB⟩
    | cons x k r =>
      have hlt : a.len < N := by simp [F.len] at hbl; omega
      have hlt' : (a.len : Int) < (N : Int) := by omega
      have hk0 := HK.out
      rw [hab] at hk0
      obtain ⟨g, cap, sx, e1, hPg, hgl, kx, c0, c1⟩ := KidT.kid hk0
      simp only [Value.slice.injEq] at e1
      obtain ⟨rfl, -, -⟩ := e1
      have p0 : wr.cell? ⟨g, a.len * 2, none⟩ = some (.int .i64 (tcon x)) := (hB.cell (p := ⟨g, a.len * 2, none⟩) hgl).trans c0
      have p1 : wr.cell? ⟨g, a.len * 2 + 1, none⟩ = some sx := (hB.cell (p := ⟨g, a.len * 2 + 1, none⟩) hgl).trans c1
      obtain ⟨xa, xc, hsx⟩ := kx.form
      have HKx := hide kx.gt
      obtain ⟨Y, hY⟩ : ∃ Y, Y = tcon x := ⟨_, rfl⟩
      have HY := hide hY
      rw [← hY] at p0
      have HAB : Hid (R = (a.app (.cons x k .nil)).app r) := hide (by rw [hab, F.app_assoc]; rfl)
      obtain ⟨q, hq⟩ : ∃ q, q = a.len := ⟨_, rfl⟩
      have Hq := hide hq
      rw [← hq] at p0 p1 hlt hlt' hvl ⊢
      obtain ⟨W1, hW1⟩ : ∃ W1, W1 = wr.alloc (.cells #[.int .i64 Y, sx] 56) := ⟨_, rfl⟩
      obtain ⟨W2, hW2⟩ : ∃ W2, W2 = W1.alloc (.cells #[.int .i64 Y, sx] 56) := ⟨_, rfl⟩
      obtain ⟨W3, hW3⟩ : ∃ W3, W3 = W2.alloc (.cells #[.slice (some ⟨wr.heap.size + 1, 0, none⟩) 1 1] 70) := ⟨_, rfl⟩
      have s1 : W1.heap.size = wr.heap.size + 1 := by rw [hW1]; simp
      have s2 : W2.heap.size = W1.heap.size + 1 := by rw [hW2]; simp
      have s3 : W3.heap.size = W2.heap.size + 1 := by rw [hW3]; simp
      have hb1 : Below wr.heap.size wr W1 := by rw [hW1]; exact (Below.refl _ _).alloc (Nat.le_refl _) _
      have hb2 : Below wr.heap.size wr W2 := by rw [hW2]; exact hb1.alloc (by omega) _
      have hb3 : Below wr.heap.size wr W3 := by rw [hW3]; exact hb2.alloc (by omega) _
      have hO3 : W3.ownsRow w.heap.size 70 1 (.slice oad vs.length oc) vs.length vs := own_keep HO.out (fun k _ hk => hb3.block k hk)
      have HSc : Hid (Sc W3 (.slice (some ⟨wr.heap.size + 1 + 1, 0, none⟩) 1 1) 1 1 [.slice (some ⟨wr.heap.size + 1, 0, none⟩) 1 1]) := hide (by
        have := sc_block (w := W3) (g := wr.heap.size + 1 + 1) (m := 1) (size := 1) (cs := #[.slice (some ⟨wr.heap.size + 1, 0, none⟩) 1 1]) (by rw [show wr.heap.size + 1 + 1 = W2.heap.size by omega, hW3]; exact heap_alloc_new _ _) rfl (by simp [Value.oneCell']) 1
        exact this)
      have HGT : Hid (GT W2 (fun k => (Value.slice oad vs.length oc).ownBlock ≠ some k) (.cons x k .nil) (.slice (some ⟨wr.heap.size + 1, 0, none⟩) 1 1)) := hide (by
        refine ⟨[.int .i64 Y, sx], ⟨sx, [], by rw [HY.out]; simp [tC], ?_, rfl⟩, .inr ⟨wr.heap.size + 1, 0, 1, rfl, .inr ⟨fun e => ?_, by omega⟩, fun j v hj => ?_⟩⟩
        · have := HKx.out.keep (w' := W2) (P' := fun k => (Value.slice oad vs.length oc).ownBlock ≠ some k) (by omega) (fun k _ hk => ⟨(hb2.block k (by omega)).trans (hB.block k hk), fun e => by have := (HOl.out k e).1; omega⟩)
          exact this
        · have := (HOl.out _ e).2; omega
        · rw [Nat.zero_add, ← s1, hW2, cell_of_blk (heap_alloc_new W1 _), ← hj]; simp)
      have HB3 := hide hb3
      have HB2 := hide hb2
      subst hsx
      have HW1 := hide hW1
      have HW2 := hide hW2
      have HW3 := hide hW3
      have S1 := hide s1
      have S2 := hide s2
      have S3 := hide s3
      have hv8 : vs.length ≤ 8 := by omega
      have HVL := hide hvl
      clear hab kx c0 c1 hk0 hY hbl hb1 hb2 hb3 hq HKx hW1 hW2 hW3 s1 s2 s3 hvl
      go_wp2_with (at_builtin; rw [← HW1.out, ← HW2.out, ← HW3.out]; refine wpList_appR rfl _ _ rfl w.heap.size _ vs.length vs rfl hO3 _ 1 _ rfl HSc.out ?c1 ?c2 ?_)
      case c1 => omega
      case c2 => have := S1.out; have := S2.out; have := S3.out; omega
      intro v' w4 hown hgrow hap
      have s1 := S1.out
      have s2 := S2.out
      have s3 := S3.out
      have hW3 := HW3.out
      have hb4 : Below w.heap.size W3 w4 := (Below.refl _ _).grown hgrow (by omega) (fun k hk => (HOl.out k hk).1)
      have HB4 : Hid (Below w.heap.size w w4) := hide (hB.trans ((HB3.out.mono hsz).trans hb4))
      have HRO4 : Hid (ROs w4 v' (vs ++ [.slice (some ⟨wr.heap.size + 1, 0, none⟩) 1 1]) (ones (a.app (.cons x k .nil)))) := hide (by
        rw [ones_app]
        exact (HRO.out.below HB2.out).app HGT.out (fun ad m c e => by simp at e; omega) (by omega) (fun k hk => by rw [hW3]; exact heap_alloc_old _ _ hk) hgrow hap)
      have HO4 : Hid (w4.ownsRow w.heap.size 70 1 v' (vs ++ [Value.slice (some ⟨wr.heap.size + 1, 0, none⟩) 1 1]).length (vs ++ [.slice (some ⟨wr.heap.size + 1, 0, none⟩) 1 1])) := hide (by simpa using hown)
      have hal : (a.app (.cons x k .nil)).len = q + 1 := by rw [F.app_len, ← Hq.out]; simp [F.len]
      clear hown hgrow hap hO3 HSc hb4 hW3 HW1 HW2 HW3 S1 S2 S3 HVL s1 s2 s3 HGT HB3 HB2 HRO HO
      go_wp2_with fail
      exact ⟨⟨a.app (.cons x k .nil), r, _, HAB.out, by rw [hal]; go_num, HRO4.out, HO4.out, HB4.out⟩, by simp [intOf]; omega⟩

end Go.Proofs.Ytfepljcblajfpab.W

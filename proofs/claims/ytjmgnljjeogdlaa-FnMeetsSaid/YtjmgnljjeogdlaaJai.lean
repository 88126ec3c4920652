/-
  Some texts of this proof in one: WkP, WkQ, WkTeV, WkTeW.
-/
import Derived.Test.YtjmgnljjeogdlaaJad
import Derived.Test.YtjmgnljjeogdlaaJac
import Derived.Test.YtjmgnljjeogdlaaJaf
import Derived.Laws.AppendOwn
import Derived.ScopeJumps
import Derived.Outline
import Derived.Deep.RegionHeld3
/-
  Terms whose variables may be up to 900000: what development and its like make on the way. No program here.
-/
namespace Go.Proofs.Ytjmgnljjeogdlaa.V
open Go.Proofs.Ytjmgnljjeogdlaa.W
def goodC (x : Cc) : Bool :=
  if x.k = 1 then inB x.n 0 900000 else if x.k = 2 then inB x.n (-1000000) 1000000 else decide (x.n = 0) && inB x.k 3 7
end Go.Proofs.Ytjmgnljjeogdlaa.V
namespace Go.Proofs.Ytjmgnljjeogdlaa.W
def F.okw : F → Prop
  | .nil => True
  | .cons x k r => V.goodC x = true ∧ k.len = ar x.k ∧ k.okw ∧ r.okw
end Go.Proofs.Ytjmgnljjeogdlaa.W
namespace Go.Proofs.Ytjmgnljjeogdlaa.V
open Go.Proofs.Ytjmgnljjeogdlaa.W
set_option linter.unusedVariables false
theorem F.app_okw : ∀ a b : F, (a.app b).okw ↔ a.okw ∧ b.okw
  | .nil, b => by simp [F.app, F.okw]
  | .cons x k r, b => by simp [F.app, F.okw, F.app_okw r b, and_assoc]
theorem ok_cons {x : Cc} {k r : F} (h : (F.cons x k r).okw) : goodC x = true ∧ k.len = ar x.k ∧ k.okw ∧ r.okw := h
theorem good_n {x : Cc} (h : goodC x = true) : -1000000 ≤ x.n ∧ x.n ≤ 1000000 := by
  unfold goodC at h
  unfold inB at h
  split at h
  · simp at h; omega
  · split at h
    · simp at h; omega
    · simp at h; omega
theorem good_ar {x : Cc} (h : goodC x = true) : inB x.k 1 7 = true := by
  unfold goodC at h
  split at h
  · rename_i h1; rw [h1]; rfl
  · split at h
    · rename_i h1; rw [h1]; rfl
    · unfold inB at h ⊢; simp at h ⊢; omega
def okT (x : Cc) (k : F) : Prop := goodC x = true ∧ k.len = ar x.k ∧ k.okw
theorem F.okw_fit : ∀ {a : F}, a.okw → a.fit
  | .nil, _ => trivial
  | .cons x k r, h => by
    obtain ⟨h1, h2, h3, h4⟩ := ok_cons h
    refine ⟨good_ar h1, fun h => ?_, h2, F.okw_fit h3, F.okw_fit h4⟩
    unfold goodC at h1
    rw [if_neg (by omega), if_neg (by omega)] at h1
    simp at h1
    exact h1.1
theorem good_w {x : Cc} (h : W.goodC x = true) : goodC x = true := by
  unfold W.goodC at h
  unfold goodC
  by_cases h1 : x.k = 1
  · rw [if_pos h1] at h ⊢; unfold inB at h ⊢; simp at h ⊢; omega
  · rw [if_neg h1] at h ⊢; exact h
theorem ok_w : ∀ {a : F}, a.ok → a.okw
  | .nil, _ => trivial
  | .cons x k r, h => ⟨good_w h.1, h.2.1, ok_w h.2.2.1, ok_w h.2.2.2⟩
end Go.Proofs.Ytjmgnljjeogdlaa.V

/-
  Cells that are such terms, and where they end. No program here.
-/
namespace Go.Proofs.Ytjmgnljjeogdlaa.V
open Go.Proofs.Ytjmgnljjeogdlaa.W
set_option linter.unusedVariables false
/-- Cells that are a term in this sense. -/
def treeW (l : List Cc) (a : F) : Prop := l = a.flat ∧ a.okw ∧ a.len = 1 ∧ l.length ≤ 600
theorem treeW_flat {l : List Cc} {a : F} (h : treeW l a) : l = a.flat ∧ a.okw ∧ a.len = 1 ∧ l.length ≤ 600 ∧ True := ⟨h.1, h.2.1, h.2.2.1, h.2.2.2, trivial⟩
theorem tree_one {y : Cc} {ky : F} (h : okT y ky) (hl : ky.flat.length + 1 ≤ 600) : treeW (y :: ky.flat) (.cons y ky .nil) := ⟨by simp [F.flat], ⟨h.1, h.2.1, h.2.2, trivial⟩, rfl, by simpa using hl⟩
def sz : List Cc → Nat → Nat → Option Nat
  | [], m, i => if m = 0 then some i else none
  | x :: l, m, i => if m = 0 then some i else if goodC x = true then sz l (m - 1 + ar x.k) (i + 1) else none
theorem sz_0 (l : List Cc) (i : Nat) : sz l 0 i = some i := by cases l <;> rfl
theorem sz_flat : ∀ (a : F) (r : List Cc) (m i : Nat), a.okw → sz (a.flat ++ r) (m + a.len) i = sz r m (i + a.flat.length)
  | .nil, r, m, i, _ => by simp [F.flat, F.len]
  | .cons x k s, r, m, i, ⟨h1, h2, h3, h4⟩ => by
    show sz (x :: (k.flat ++ s.flat) ++ r) (m + (s.len + 1)) i = _
    rw [List.cons_append, List.append_assoc, sz, if_neg (by omega), if_pos h1, show m + (s.len + 1) - 1 + ar x.k = (m + s.len) + k.len by rw [h2]; omega, sz_flat k _ _ _ h3, sz_flat s r m _ h4]
    congr 1
    simp [F.flat]; omega
end Go.Proofs.Ytjmgnljjeogdlaa.V

/-
  TeV for terms whose variables may be up to 900000 (written by build/weak.py).
-/
namespace Go.Proofs.Ytjmgnljjeogdlaa.V
open Go.Proofs.Ytjmgnljjeogdlaa.W
open Go.ChangeShapes Go.WideShapes Go.ChangeAt Go.RowKit
set_option linter.unusedVariables false

def PAGoal (k : F) : Prop := ∀ (x : Cc) (r : List Cc) (b : Nat) (ad : Option Addr) (c : Nat) (w : World), goodC x = true → k.len = ar x.k → k.okw → (x :: (k.flat ++ r)).length ≤ 1048576 → (x :: (k.flat ++ r)).length ≤ c → CRowB w b ad (x :: (k.flat ++ r)) →
    Calls Try.prog 60 #[.slice ad (x :: (k.flat ++ r)).length c] w fun e w' => ∃ ad' c', e = .returned (.tuple #[pv x.k x.n (pvs k), .slice ad' r.length c']) ∧ r.length ≤ c' ∧ CRowB w' b ad' r ∧ Below w.heap.size w w'

set_option maxRecDepth 20000 in
set_option maxHeartbeats 2000000 in
theorem partAhead_any : ∀ k, PAGoal k := by
  apply F.rec_kids
  intro k ih x r b ad c w hg hk hko hl hc hR
  have IH := hide ih
  have HR := hide hR
  have HKO := hide hko
  clear ih hko
  obtain ⟨o, rfl, hb, hrow⟩ : ∃ o, ad = some ⟨b, o, none⟩ ∧ CRowAt w b o (x :: (k.flat ++ r)) := by
    rcases hR with h | h
    · cases h
    · exact h
  obtain ⟨p0, p1⟩ := hrow 0 (by simp)
  have HR0 : Hid (CRowAt w b o (x :: (k.flat ++ r))) := hide ⟨hb, hrow⟩
  clear hrow
  simp only [Nat.zero_mul, Nat.add_zero, List.getElem_cons_zero] at p0 p1
  obtain ⟨L, hL⟩ : ∃ L, L = (x :: (k.flat ++ r)).length := ⟨_, rfl⟩
  rw [← hL] at hl hc ⊢
  have hL1 : (1 : Int) ≤ (L : Int) := by simp at hL; omega
  have hLc : (L : Int) ≤ (c : Int) := by omega
  have h0L : (0 : Int) < (L : Int) := by omega
  have h1c : (1 : Int) ≤ (c : Int) := by omega
  have HL := hide hL
  clear hL hR
  have hak := ar_le x.k
  have hrow1 : ∃ ad1, ((c = 1 ∧ ad1 = some ⟨b, o, none⟩) ∨ (c ≠ 1 ∧ ad1 = some ⟨b, o + 2, none⟩)) ∧ CRowB w b ad1 (k.flat ++ r) := by
    by_cases h1 : c = 1
    · refine ⟨_, .inl ⟨h1, rfl⟩, .inl ?_⟩
      have h2 := HL.out
      rw [List.length_cons] at h2
      exact List.eq_nil_of_length_eq_zero (by omega)
    · refine ⟨_, .inr ⟨h1, rfl⟩, ?_⟩
      exact .inr ⟨_, rfl, by simpa using HR0.out.drop 1⟩
  obtain ⟨ad1, had1, hrow1⟩ := hrow1
  have HRow1 := hide hrow1
  clear hrow1
  have hLk : L = k.flat.length + r.length + 1 := by rw [HL.out]; simp
  have HLk := hide hLk
  clear hLk
  have HG := hide hg
  have HK := hide hk
  clear hg
  obtain ⟨A0, hA0⟩ : ∃ A0, A0 = ar x.k := ⟨_, rfl⟩
  rw [← hA0] at hak hk
  have HA := hide hA0
  clear hA0
  obtain ⟨xk, xn⟩ := x
  simp only at *
  rcases had1 with ⟨hc1, had1⟩ | ⟨hc1, had1⟩
  · subst hc1 had1
    have hL0 := HLk.out
    have hr0 : r = [] := List.eq_nil_of_length_eq_zero (by omega)
    have hk0 : k = .nil := F.len_0 (by have := F.len_flat k; omega)
    have hL1' : L = 1 := by omega
    have hA0 : A0 = 0 := by rw [← hk, hk0]; rfl
    have hA := HA.out
    have hin := good_ar HG.out
    simp only [inB, Bool.and_eq_true, decide_eq_true_eq] at hin
    have hx : xk = 1 ∨ xk = 2 := by
      rw [hA0] at hA
      have hx : xk = 1 ∨ xk = 2 ∨ xk = 3 ∨ xk = 4 ∨ xk = 5 ∨ xk = 6 ∨ xk = 7 := by omega
      rcases hx with h | h | h | h | h | h | h
      · exact .inl h
      · exact .inr h
      all_goals (rw [h] at hA; simp [ar] at hA)
    have HC := hide (termsBehind_any xk)
    rw [← HA.out, hA0] at HC
    clear hA hL0 HL HLk HRow1
    subst hr0 hk0 hL1'
    go_enter Try.func60, Try.ntmps60
    go_wp2_with fail
    refine (HC.out _).mono ?_
    rintro e w1 ⟨rfl, hw1⟩
    have hB1 : Below w.heap.size w w1 := by rw [hw1]; exact (Below.refl _ _).alloc (Nat.le_refl _) _
    have q0 := (hB1.cell (p := ⟨b, o, none⟩) hb).trans p0
    have q1 := (hB1.cell (p := ⟨b, o + 1, none⟩) hb).trans p1
    clear hw1 p0 p1 HC
    go_wp2_with fail
    go_loopw [5, 14] (fun r5 i w' => r5 = .slice (some ⟨b, o, none⟩) 0 0 ∧ i = .int .i64 0 ∧ w' = w1) (fun _ _ _ => 0)
    case atStart => exact ⟨rfl, rfl, rfl⟩
    case round =>
      obtain ⟨rfl, rfl, rfl⟩ := hrel
      rcases hx with h | h
      · subst h
        go_wp2_with fail
        exact bodyPost_ret (v := .tuple #[.iface 69 (.agg #[.int .i64 xn]), .slice (some ⟨b, o, none⟩) 0 0]) (by simp [results, Try.results60, go_sem]) rfl ⟨some ⟨b, o, none⟩, 0, rfl, Nat.le_refl _, .inl rfl, hB1⟩
      · subst h
        go_wp2_with fail
        exact bodyPost_ret (v := .tuple #[.iface 125 (.agg #[.int .i64 xn]), .slice (some ⟨b, o, none⟩) 0 0]) (by simp [results, Try.results60, go_sem]) rfl ⟨some ⟨b, o, none⟩, 0, rfl, Nat.le_refl _, .inl rfl, hB1⟩
  · have hc1' : ¬ (c : Int) - 1 = 0 := by omega
    have hc1'' : ¬ c - 1 = 0 := by omega
    have hkr : k.flat.length + r.length = (k.flat ++ r).length := by simp
    have HC := hide (termsBehind_any xk)
    rw [← HA.out] at HC
    go_enter Try.func60, Try.ntmps60
    go_wp2_with fail
    rw [← had1]
    have HAd := hide had1
    clear had1
    refine (HC.out _).mono ?_
    rintro e w1 ⟨rfl, hw1⟩
    have hB1 : Below w.heap.size w w1 := by rw [hw1]; exact (Below.refl _ _).alloc (Nat.le_refl _) _
    have HP1 : Hid (w1.heap[w.heap.size]? = some (.cells #[.nilIface, .nilIface, .nilIface] 123)) := by rw [hw1]; exact heap_alloc_new _ _
    have HQ0 := hide p0
    have HQ1 := hide p1
    clear hw1 p0 p1 HC
    go_wp2_with fail
    go_loopw [5, 14] (fun r5 i w' => ∃ d s : F, k = d.app s ∧ i = .int .i64 (d.len : Int) ∧ (∃ ad' c', r5 = .slice ad' (s.flat ++ r).length c' ∧ (s.flat ++ r).length ≤ c' ∧ CRowB w b ad' (s.flat ++ r)) ∧ Below w.heap.size w w' ∧ ∃ cur : Array Value, w'.heap[w.heap.size]? = some (.cells cur 123 (0, 0)) ∧ Fst cur (pvs d)) (fun _ i _ => A0 - (intOf i).toNat)
    case atStart =>
      refine ⟨.nil, k, rfl, rfl, ⟨ad1, c - 1, ?_, ?_, HRow1.out⟩, hB1, _, HP1.out, rfl, by simp [pvs], fun j v hv => ?_⟩
      · have := HLk.out
        congr 1
        simp; omega
      · have := HLk.out
        simp; omega
      · rcases j with _ | _ | _ | j <;> simp at hv <;> exact .inl hv.symm
    case round =>
      obtain ⟨d, s, hks, rfl, ⟨ad', c', rfl, hc', hrow'⟩, hB, cur, hcur, hF⟩ := hrel
      clear HP1 hB1
      have HRow' := hide hrow'
      have HCur := hide hcur
      have HF := hide hF
      clear hrow' hcur hF
      cases s with
      | nil =>
        rw [F.app_nil] at hks
        subst hks
        have q0 := (hB.cell (p := ⟨b, o, none⟩) hb).trans HQ0.out
        have q1 := (hB.cell (p := ⟨b, o + 1, none⟩) hb).trans HQ1.out
        have hpl := pvs_len k
        have hdone : ¬ (k.len : Int) < (A0 : Int) := by omega
        have hin := good_ar HG.out
        simp only [inB, Bool.and_eq_true, decide_eq_true_eq] at hin
        have hA := HA.out
        rw [F.flat, List.nil_append] at hc' HRow' ⊢
        have HRow2 := hide (HRow'.out.turn (hB.block b hb))
        obtain ⟨RL, hRL⟩ : ∃ RL, RL = r.length := ⟨_, rfl⟩
        obtain ⟨ks, hks⟩ : ∃ ks, ks = k.len := ⟨_, rfl⟩
        rw [← hks] at hdone hk ⊢
        clear hks
        have hx : xk = 1 ∨ xk = 2 ∨ xk = 3 ∨ xk = 4 ∨ xk = 5 ∨ xk = 6 ∨ xk = 7 := by omega
        rcases hx with h | h | h | h | h | h | h
        · subst h
          have HPv : Hid (pv 1 xn (pvs k) = .iface 69 (.agg #[.int .i64 xn])) := hide rfl
          go_wp2_with fail
          exact bodyPost_ret (v := .tuple #[.iface 69 (.agg #[.int .i64 xn]), .slice ad' r.length c']) (by simp [results, Try.results60, go_sem]) rfl ⟨ad', c', by rw [HPv.out], hc', HRow2.out, hB⟩
        · subst h
          have HPv : Hid (pv 2 xn (pvs k) = .iface 125 (.agg #[.int .i64 xn])) := hide rfl
          go_wp2_with fail
          exact bodyPost_ret (v := .tuple #[.iface 125 (.agg #[.int .i64 xn]), .slice ad' r.length c']) (by simp [results, Try.results60, go_sem]) rfl ⟨ad', c', by rw [HPv.out], hc', HRow2.out, hB⟩
        · subst h
          obtain ⟨v0, hv⟩ := List.length_eq_one_iff.1 (show (pvs k).length = 1 by rw [hpl, HK.out]; rfl)
          obtain ⟨T0, u0, rfl⟩ := pvs_iface k v0 (by rw [hv]; simp)
          have c0 := (cell_of_blk HCur.out 0).trans (HF.out.2.1 0 _ (by rw [hv]; rfl))
          have HPv : Hid (pv 3 xn (pvs k) = .iface 100 (.agg #[.iface T0 u0])) := hide (by rw [hv]; rfl)
          clear hv
          go_wp2_with fail
          exact bodyPost_ret (v := .tuple #[.iface 100 (.agg #[.iface T0 u0]), .slice ad' r.length c']) (by simp [results, Try.results60, go_sem]) rfl ⟨ad', c', by rw [HPv.out], hc', HRow2.out, hB⟩
        · subst h
          obtain ⟨v0, v1, hv⟩ := len_two (show (pvs k).length = 2 by rw [hpl, HK.out]; rfl)
          obtain ⟨T0, u0, rfl⟩ := pvs_iface k v0 (by rw [hv]; simp)
          obtain ⟨T1, u1, rfl⟩ := pvs_iface k v1 (by rw [hv]; simp)
          have c0 := (cell_of_blk HCur.out 0).trans (HF.out.2.1 0 _ (by rw [hv]; rfl))
          have c1 := (cell_of_blk HCur.out 1).trans (HF.out.2.1 1 _ (by rw [hv]; rfl))
          have HPv : Hid (pv 4 xn (pvs k) = .iface 102 (.agg #[.iface T0 u0, .iface T1 u1])) := hide (by rw [hv]; rfl)
          clear hv
          go_wp2_with fail
          exact bodyPost_ret (v := .tuple #[.iface 102 (.agg #[.iface T0 u0, .iface T1 u1]), .slice ad' r.length c']) (by simp [results, Try.results60, go_sem]) rfl ⟨ad', c', by rw [HPv.out], hc', HRow2.out, hB⟩
        · subst h
          obtain ⟨v0, v1, hv⟩ := len_two (show (pvs k).length = 2 by rw [hpl, HK.out]; rfl)
          obtain ⟨T0, u0, rfl⟩ := pvs_iface k v0 (by rw [hv]; simp)
          obtain ⟨T1, u1, rfl⟩ := pvs_iface k v1 (by rw [hv]; simp)
          have c0 := (cell_of_blk HCur.out 0).trans (HF.out.2.1 0 _ (by rw [hv]; rfl))
          have c1 := (cell_of_blk HCur.out 1).trans (HF.out.2.1 1 _ (by rw [hv]; rfl))
          have HPv : Hid (pv 5 xn (pvs k) = .iface 104 (.agg #[.iface T0 u0, .iface T1 u1])) := hide (by rw [hv]; rfl)
          clear hv
          go_wp2_with fail
          exact bodyPost_ret (v := .tuple #[.iface 104 (.agg #[.iface T0 u0, .iface T1 u1]), .slice ad' r.length c']) (by simp [results, Try.results60, go_sem]) rfl ⟨ad', c', by rw [HPv.out], hc', HRow2.out, hB⟩
        · subst h
          obtain ⟨v0, v1, v2, hv⟩ := len_three (show (pvs k).length = 3 by rw [hpl, HK.out]; rfl)
          obtain ⟨T0, u0, rfl⟩ := pvs_iface k v0 (by rw [hv]; simp)
          obtain ⟨T1, u1, rfl⟩ := pvs_iface k v1 (by rw [hv]; simp)
          obtain ⟨T2, u2, rfl⟩ := pvs_iface k v2 (by rw [hv]; simp)
          have c0 := (cell_of_blk HCur.out 0).trans (HF.out.2.1 0 _ (by rw [hv]; rfl))
          have c1 := (cell_of_blk HCur.out 1).trans (HF.out.2.1 1 _ (by rw [hv]; rfl))
          have c2 := (cell_of_blk HCur.out 2).trans (HF.out.2.1 2 _ (by rw [hv]; rfl))
          have HPv : Hid (pv 6 xn (pvs k) = .iface 106 (.agg #[.iface T0 u0, .iface T1 u1, .iface T2 u2])) := hide (by rw [hv]; rfl)
          clear hv
          go_wp2_with fail
          exact bodyPost_ret (v := .tuple #[.iface 106 (.agg #[.iface T0 u0, .iface T1 u1, .iface T2 u2]), .slice ad' r.length c']) (by simp [results, Try.results60, go_sem]) rfl ⟨ad', c', by rw [HPv.out], hc', HRow2.out, hB⟩
        · subst h
          obtain ⟨v0, v1, hv⟩ := len_two (show (pvs k).length = 2 by rw [hpl, HK.out]; rfl)
          obtain ⟨T0, u0, rfl⟩ := pvs_iface k v0 (by rw [hv]; simp)
          obtain ⟨T1, u1, rfl⟩ := pvs_iface k v1 (by rw [hv]; simp)
          have c0 := (cell_of_blk HCur.out 0).trans (HF.out.2.1 0 _ (by rw [hv]; rfl))
          have c1 := (cell_of_blk HCur.out 1).trans (HF.out.2.1 1 _ (by rw [hv]; rfl))
          have HPv : Hid (pv 7 xn (pvs k) = .iface 108 (.agg #[.iface T0 u0, .iface T1 u1])) := hide (by rw [hv]; rfl)
          clear hv
          go_wp2_with fail
          exact bodyPost_ret (v := .tuple #[.iface 108 (.agg #[.iface T0 u0, .iface T1 u1]), .slice ad' r.length c']) (by simp [results, Try.results60, go_sem]) rfl ⟨ad', c', by rw [HPv.out], hc', HRow2.out, hB⟩
      | cons y ky s =>
        have hkl : k.len = d.len + (s.len + 1) := by rw [hks, F.app_len]; rfl
        have hlt' : (d.len : Int) < (A0 : Int) := by omega
        have hfl : (F.cons y ky s).flat ++ r = y :: (ky.flat ++ (s.flat ++ r)) := by simp [F.flat]
        rw [hfl] at hc' HRow' ⊢
        have hIH := IH.out
        have hKO := HKO.out
        rw [hks] at hIH hKO
        have hko := (F.app_okw _ _).1 hKO |>.2
        obtain ⟨k1, k2, k3, k4⟩ := hko
        have hlr : (y :: (ky.flat ++ (s.flat ++ r))).length ≤ 1048576 := by
          have h1 := HLk.out
          have h2 : k.flat.length = d.flat.length + (F.cons y ky s).flat.length := by rw [hks, F.app_flat]; simp
          have h3 := congrArg List.length hfl
          simp only [List.length_append] at h3
          omega
        have HCall := hide (F.all_at hIH y (s.flat ++ r) b ad' c' wr k1 k2 k3 hlr hc' (HRow'.out.turn (hB.block b hb)))
        obtain ⟨T, u, hV⟩ := pv_iface y.k y.n (pvs ky)
        rw [hV] at HCall
        have HKs := hide (hks.trans (F.app_snoc d ky s y))
        have HDl : Hid ((d.app (.cons y ky .nil)).len = d.len + 1) := hide (by rw [F.app_len]; rfl)
        have HPd : Hid (pvs (d.app (.cons y ky .nil)) = pvs d ++ [.iface T u]) := hide (by rw [pvs_app]; simp [pvs, hV])
        have HPl := hide (pvs_len d)
        have hd3 : (d.len : Int) < 3 := by omega
        have hd3' : d.len < 3 := by omega
        obtain ⟨LL, hLL⟩ : ∃ LL, LL = (y :: (ky.flat ++ (s.flat ++ r))).length := ⟨_, rfl⟩
        rw [← hLL] at HCall ⊢
        clear hfl hIH hKO k1 k2 k3 k4 hlr hV hks hLL hc'
        obtain ⟨dl, hdl⟩ : ∃ dl, dl = d.len := ⟨_, rfl⟩
        rw [← hdl] at hlt' hd3 hd3' HDl HPl hkl ⊢
        have HKl := hide hkl
        clear hdl hkl
        go_wp2_with fail
        refine Calls.mono HCall.out ?_
        rintro e w2 ⟨ad2, c2, rfl, hc2, hrow2, hb2⟩
        have hB2 : Below w.heap.size w w2 := hB.trans (hb2.mono hB.size)
        have HCur2 := hide ((hb2.block w.heap.size (Array.getElem?_eq_some_iff.1 HCur.out).1).trans HCur.out)
        obtain ⟨v0, hv0, -⟩ := HF.out.get hd3'
        have y0 := (cell_of_blk HCur2.out dl).trans hv0
        have fy := unfrozen_of_blk HCur2.out dl
        have HRow2 := hide hrow2
        clear hb2 HCall hv0 hrow2
        obtain ⟨RL, hRL⟩ : ∃ RL, RL = (s.flat ++ r).length := ⟨_, rfl⟩
        rw [← hRL]
        have HRL := hide hRL
        clear hRL
        go_wp2_with fail
        have hB3 : Below w.heap.size w (w2.setCell ⟨w.heap.size, dl, none⟩ (.iface T u)) := hB2.setCell (p := ⟨w.heap.size, dl, none⟩) (Nat.le_refl _) _
        refine ⟨⟨d.app (.cons y ky .nil), s, HKs.out, by rw [HDl.out]; go_num, ⟨ad2, c2, by rw [HRL.out], hc2, ?_⟩, hB3, _, blk_setCell HCur2.out _, ?_⟩, by simp [intOf]; omega⟩
        · exact HRow2.out.turn (hB2.block b hb).symm
        · rw [HPd.out, ← HPl.out]
          have h3 := HF.out.snoc (T := T) (u := u) (by rw [HPl.out]; exact hd3')
          exact h3

set_option maxHeartbeats 1000000 in
theorem partOf_any (a : F) (ad : Option Addr) (c : Nat) (w : World) (ho : a.okw) (h1 : a.len = 1) (hl : a.flat.length ≤ 1048576) (hc : a.flat.length ≤ c) (hR : CRow w ad a.flat) :
    Calls Try.prog 31 #[.slice ad a.flat.length c] w fun e w' => e = .returned (pvT a) ∧ Below w.heap.size w w' := by
  obtain ⟨x, k, rfl⟩ := F.len_1 h1
  obtain ⟨o1, o2, o3, -⟩ := ho
  obtain ⟨b, hRB⟩ := CRowB.of hR
  have hf : (F.cons x k .nil).flat = x :: (k.flat ++ []) := rfl
  rw [hf] at hl hc hRB ⊢
  have HC := hide (partAhead_any k x [] b ad c w o1 o2 o3 hl hc hRB)
  show Calls _ _ _ _ fun e w' => e = .returned (pv x.k x.n (pvs k)) ∧ _
  obtain ⟨T, u, hV⟩ := pv_iface x.k x.n (pvs k)
  rw [hV] at HC ⊢
  obtain ⟨L, hL⟩ : ∃ L, L = (x :: (k.flat ++ [])).length := ⟨_, rfl⟩
  rw [← hL] at HC ⊢
  clear hL hf hl hc hRB hR hV
  go_enter Try.func31, Try.ntmps31
  go_wp2_with fail
  refine Calls.mono HC.out ?_
  rintro e w1 ⟨ad', c', rfl, -, -, hb1⟩
  go_wp2_with fail
  go_ret
  exact ⟨rfl, hb1⟩
end Go.Proofs.Ytjmgnljjeogdlaa.V

/-
  TeW for terms whose variables may be up to 900000 (written by build/weak.py).
-/
namespace Go.Proofs.Ytjmgnljjeogdlaa.V
open Go.Proofs.Ytjmgnljjeogdlaa.W
open Go.ChangeShapes Go.WideShapes Go.ChangeAt Go.RowKit
set_option linter.unusedVariables false

section
variable {σ : Type} (g : σ → Int → Nat → F) (st : σ → Int → Nat → σ)
end

/-- What a change of variables does. -/
def ChgOK {σ : Type} (fid : FuncId) (cap : Array Value) (cb : Nat) (ob : σ → World → Prop) (g : σ → Int → Nat → F) (st : σ → Int → Nat → σ) : Prop :=
  ∀ (s : σ) (n : Int) (d : Nat) (w : World), 0 ≤ n → n ≤ 900000 → d ≤ 1048576 → cb < w.heap.size → Inv cb (ob s) w →
    Calls Try.prog fid (#[.agg #[.int .i64 n], .int .i64 (d : Int)] ++ cap) w fun e w' => e = .returned (pvT (g s n d)) ∧ Inv cb (ob (st s n d)) w' ∧ Oth cb w w'

section
variable {σ : Type} (fid : FuncId) (cap : Array Value) (cb : Nat) (ob : σ → World → Prop) (g : σ → Int → Nat → F) (st : σ → Int → Nat → σ)

def WVGoal (k : F) : Prop := ∀ (x : Cc) (s : σ) (d : Nat), goodC x = true → k.len = ar x.k → k.okw → d + k.flat.length ≤ 1048576 → WVC fid cap cb ob s (d : Int) (pv x.k x.n (pvs k)) (w1 g st d x k s)

set_option maxRecDepth 20000 in
set_option maxHeartbeats 2000000 in
theorem with_var (hfn : ∀ args w, (callFunc fid args).run Try.prog w = .ok (.enter fid args) w) (hch : ChgOK fid cap cb ob g st) (hlen : ∀ s n d, (g s n d).len = 1) (s0 : σ) (d : Nat) (hd : d ≤ 1048576) (n : Int) (h0 : 0 ≤ n) (h1 : n ≤ 900000) :
    ∀ (w : World), cb < w.heap.size → Inv cb (ob s0) w → Calls Try.prog 30 #[.iface 69 (.agg #[.int .i64 n]), .int .i64 (d : Int), .func (.func fid) #[] cap] w fun e w' => e = .returned (pvT (g s0 n d)) ∧ Inv cb (ob (st s0 n d)) w' ∧ Oth cb w w' := by
  intro w hcb hinv
  have HI := hide hinv
  have HC := hide (fun w' => hch s0 n d w' h0 h1 hd)
  obtain ⟨T, u, hV⟩ := pvT_iface (hlen s0 n d)
  rw [hV] at HC ⊢
  clear hinv hV hch
  have a_var := as_var_var
  go_enter Try.func30, Try.ntmps30
  go_wp2_with fail
  refine Calls.mono (HC.out _ (by simp; omega) (HI.out.oth _)) ?_
  rintro e w2 ⟨rfl, hi2, ho2⟩
  go_wp2_with fail
  go_ret
  exact ⟨rfl, hi2, (Oth.alloc1 cb w _).trans ho2⟩

end
end Go.Proofs.Ytjmgnljjeogdlaa.V

/-
  Some texts of this proof in one: TeV, TeW, TeX, TeF.
-/
import Derived.Test.YtjmgnljjeogdlaaJab
import Derived.Laws.AppendOwn
import Derived.ScopeJumps
import Derived.Outline
import Derived.Deep.RegionHeld3
import Derived.Laws.AppendOwnNone
/-
  Terms as the program's parts: values behind an interface. Contracts of partAhead and partOf. Conditions: at most 1048576 cells.
-/
namespace Go.Proofs.Ytjmgnljjeogdlaa.W
open Go.ChangeShapes Go.WideShapes Go.ChangeAt Go.RowKit
set_option linter.unusedVariables false

def pv (k n : Int) (vs : List Value) : Value :=
  if k = 1 then .iface 69 (.agg #[.int .i64 n])
  else if k = 3 then .iface 100 (.agg #[vs.getD 0 .nilIface])
  else if k = 4 then .iface 102 (.agg #[vs.getD 0 .nilIface, vs.getD 1 .nilIface])
  else if k = 5 then .iface 104 (.agg #[vs.getD 0 .nilIface, vs.getD 1 .nilIface])
  else if k = 6 then .iface 106 (.agg #[vs.getD 0 .nilIface, vs.getD 1 .nilIface, vs.getD 2 .nilIface])
  else if k = 7 then .iface 108 (.agg #[vs.getD 0 .nilIface, vs.getD 1 .nilIface])
  else .iface 125 (.agg #[.int .i64 n])
/-- Terms as parts. -/
def pvs : F → List Value
  | .nil => []
  | .cons x k r => pv x.k x.n (pvs k) :: pvs r

/-- A row of cells that lies in block b, or none. -/
def CRowB (w : World) (b : Nat) (ad : Option Addr) (l : List Cc) : Prop := l = [] ∨ ∃ o, ad = some ⟨b, o, none⟩ ∧ CRowAt w b o l
theorem CRowB.row {w : World} {b : Nat} {ad : Option Addr} {l : List Cc} (h : CRowB w b ad l) : CRow w ad l := by
  rcases h with h | ⟨o, h1, h2⟩
  · exact .inl h
  · exact .inr ⟨b, o, h1, h2⟩
theorem CRowB.turn {w w' : World} {b : Nat} {ad : Option Addr} {l : List Cc} (h : CRowB w b ad l) (he : w'.heap[b]? = w.heap[b]?) : CRowB w' b ad l := by
  rcases h with h | ⟨o, h1, h2, h3⟩
  · exact .inl h
  · refine .inr ⟨o, h1, ?_, fun i hi => ?_⟩
    · rw [Array.getElem?_eq_getElem h2] at he
      exact (Array.getElem?_eq_some_iff.1 he).1
    · obtain ⟨c0, c1⟩ := h3 i hi
      exact ⟨(World.cell?_of_block (a := ⟨b, o + i * 2, none⟩) he).trans c0, (World.cell?_of_block (a := ⟨b, o + i * 2 + 1, none⟩) he).trans c1⟩
theorem CRowB.of {w : World} {ad : Option Addr} {l : List Cc} (h : CRow w ad l) : ∃ b, CRowB w b ad l := by
  rcases h with h | ⟨b, o, h1, h2⟩
  · exact ⟨0, .inl h⟩
  · exact ⟨b, .inr ⟨o, h1, h2⟩⟩

theorem len_two {l : List Value} (h : l.length = 2) : ∃ a b, l = [a, b] := by
  match l, h with
  | [a, b], _ => exact ⟨a, b, rfl⟩
theorem len_three {l : List Value} (h : l.length = 3) : ∃ a b c, l = [a, b, c] := by
  match l, h with
  | [a, b, c], _ => exact ⟨a, b, c, rfl⟩

def PAGoal (k : F) : Prop := ∀ (x : Cc) (r : List Cc) (b : Nat) (ad : Option Addr) (c : Nat) (w : World), goodC x = true → k.len = ar x.k → k.ok → (x :: (k.flat ++ r)).length ≤ 1048576 → (x :: (k.flat ++ r)).length ≤ c → CRowB w b ad (x :: (k.flat ++ r)) →
    Calls Try.prog 60 #[.slice ad (x :: (k.flat ++ r)).length c] w fun e w' => ∃ ad' c', e = .returned (.tuple #[pv x.k x.n (pvs k), .slice ad' r.length c']) ∧ r.length ≤ c' ∧ CRowB w' b ad' r ∧ Below w.heap.size w w'

theorem pv_iface (k n : Int) (vs : List Value) : ∃ T v, pv k n vs = .iface T v := by
  unfold pv
  repeat (first | exact ⟨_, _, rfl⟩ | split)
theorem pvs_len : ∀ a : F, (pvs a).length = a.len
  | .nil => rfl
  | .cons _ _ r => by simp [pvs, F.len, pvs_len r]
theorem pvs_app : ∀ a b : F, pvs (a.app b) = pvs a ++ pvs b
  | .nil, b => rfl
  | .cons _ _ r, b => by simp [pvs, F.app, pvs_app r b]
theorem pvs_iface : ∀ (a : F), ∀ v ∈ pvs a, ∃ T u, v = .iface T u
  | .nil, v, h => by cases h
  | .cons x k r, v, h => by
    rcases List.mem_cons.1 h with rfl | h
    · exact pv_iface _ _ _
    · exact pvs_iface r v h
/-- The first values of an array of parts. -/
def Fst (cur : Array Value) (vs : List Value) : Prop := cur.size = 3 ∧ (∀ (j : Nat) v, vs[j]? = some v → cur[j]? = some v) ∧ ∀ (j : Nat) v, cur[j]? = some v → v = .nilIface ∨ ∃ T u, v = .iface T u
theorem Fst.snoc {cur : Array Value} {vs : List Value} {T : TypeId} {u : Value} (h : Fst cur vs) (hl : vs.length < 3) : Fst (cur.setIfInBounds vs.length (.iface T u)) (vs ++ [.iface T u]) := by
  refine ⟨by simp [h.1], fun j v hj => ?_, fun j v hj => ?_⟩
  · rw [Array.getElem?_setIfInBounds]
    by_cases e : vs.length = j
    · subst e
      rw [if_pos rfl, if_pos (by rw [h.1]; exact hl)]
      simpa using hj
    · rw [if_neg e]
      refine h.2.1 j v ?_
      by_cases hj2 : j < vs.length
      · rw [List.getElem?_append_left hj2] at hj; exact hj
      · rw [List.getElem?_append_right (by omega)] at hj
        have : ([Value.iface T u] : List Value)[j - vs.length]? = none := by
          rw [List.getElem?_eq_none]; simp; omega
        rw [this] at hj; cases hj
  · rw [Array.getElem?_setIfInBounds] at hj
    by_cases e : vs.length = j
    · subst e
      rw [if_pos rfl] at hj
      split at hj
      · simp only [Option.some.injEq] at hj; exact .inr ⟨T, u, hj.symm⟩
      · cases hj
    · rw [if_neg e] at hj; exact h.2.2 j v hj
theorem Fst.get {cur : Array Value} {vs : List Value} (h : Fst cur vs) {j : Nat} (hj : j < 3) : ∃ v, cur[j]? = some v ∧ (v = .nilIface ∨ ∃ T u, v = .iface T u) := by
  obtain ⟨v, hv⟩ : ∃ v, cur[j]? = some v := ⟨_, Array.getElem?_eq_getElem (by rw [h.1]; exact hj)⟩
  exact ⟨v, hv, h.2.2 j v hv⟩

set_option maxRecDepth 20000 in
set_option maxHeartbeats 2000000 in
theorem partAhead_any : ∀ k, PAGoal k := by
  apply F.rec_kids
  intro k ih x r b ad c w hg hk hko hl hc hR
  have IH := hide ih
  have HR := hide hR
  have HKO := hide hko
  clear ih hko
  obtain ⟨o, rfl, hb, hrow⟩ : ∃ o, ad = some ⟨b, o, none⟩ ∧ CRowAt w b o (x :: (k.flat ++ r)) := by
    rcases hR with h | h
    · cases h
    · exact h
  obtain ⟨p0, p1⟩ := hrow 0 (by simp)
  have HR0 : Hid (CRowAt w b o (x :: (k.flat ++ r))) := hide ⟨hb, hrow⟩
  clear hrow
  simp only [Nat.zero_mul, Nat.add_zero, List.getElem_cons_zero] at p0 p1
  obtain ⟨L, hL⟩ : ∃ L, L = (x :: (k.flat ++ r)).length := ⟨_, rfl⟩
  rw [← hL] at hl hc ⊢
  have hL1 : (1 : Int) ≤ (L : Int) := by simp at hL; omega
  have hLc : (L : Int) ≤ (c : Int) := by omega
  have h0L : (0 : Int) < (L : Int) := by omega
  have h1c : (1 : Int) ≤ (c : Int) := by omega
  have HL := hide hL
  clear hL hR
  have hak := ar_le x.k
  have hrow1 : ∃ ad1, ((c = 1 ∧ ad1 = some ⟨b, o, none⟩) ∨ (c ≠ 1 ∧ ad1 = some ⟨b, o + 2, none⟩)) ∧ CRowB w b ad1 (k.flat ++ r) := by
    by_cases h1 : c = 1
    · refine ⟨_, .inl ⟨h1, rfl⟩, .inl ?_⟩
      have h2 := HL.out
      rw [List.length_cons] at h2
      exact List.eq_nil_of_length_eq_zero (by omega)
    · refine ⟨_, .inr ⟨h1, rfl⟩, ?_⟩
      exact .inr ⟨_, rfl, by simpa using HR0.out.drop 1⟩
  obtain ⟨ad1, had1, hrow1⟩ := hrow1
  have HRow1 := hide hrow1
  clear hrow1
  have hLk : L = k.flat.length + r.length + 1 := by rw [HL.out]; simp
  have HLk := hide hLk
  clear hLk
  have HG := hide hg
  have HK := hide hk
  clear hg
  obtain ⟨A0, hA0⟩ : ∃ A0, A0 = ar x.k := ⟨_, rfl⟩
  rw [← hA0] at hak hk
  have HA := hide hA0
  clear hA0
  obtain ⟨xk, xn⟩ := x
  simp only at *
  rcases had1 with ⟨hc1, had1⟩ | ⟨hc1, had1⟩
  · subst hc1 had1
    have hL0 := HLk.out
    have hr0 : r = [] := List.eq_nil_of_length_eq_zero (by omega)
    have hk0 : k = .nil := F.len_0 (by have := F.len_flat k; omega)
    have hL1' : L = 1 := by omega
    have hA0 : A0 = 0 := by rw [← hk, hk0]; rfl
    have hA := HA.out
    have hin := good_ar HG.out
    simp only [inB, Bool.and_eq_true, decide_eq_true_eq] at hin
    have hx : xk = 1 ∨ xk = 2 := by
      rw [hA0] at hA
      have hx : xk = 1 ∨ xk = 2 ∨ xk = 3 ∨ xk = 4 ∨ xk = 5 ∨ xk = 6 ∨ xk = 7 := by omega
      rcases hx with h | h | h | h | h | h | h
      · exact .inl h
      · exact .inr h
      all_goals (rw [h] at hA; simp [ar] at hA)
    have HC := hide (termsBehind_any xk)
    rw [← HA.out, hA0] at HC
    clear hA hL0 HL HLk HRow1
    subst hr0 hk0 hL1'
    go_enter Try.func60, Try.ntmps60
    go_wp2_with fail
    refine (HC.out _).mono ?_
    rintro e w1 ⟨rfl, hw1⟩
    have hB1 : Below w.heap.size w w1 := by rw [hw1]; exact (Below.refl _ _).alloc (Nat.le_refl _) _
    have q0 := (hB1.cell (p := ⟨b, o, none⟩) hb).trans p0
    have q1 := (hB1.cell (p := ⟨b, o + 1, none⟩) hb).trans p1
    clear hw1 p0 p1 HC
    go_wp2_with fail
    go_loopw [5, 14] (fun r5 i w' => r5 = .slice (some ⟨b, o, none⟩) 0 0 ∧ i = .int .i64 0 ∧ w' = w1) (fun _ _ _ => 0)
    case atStart => exact ⟨rfl, rfl, rfl⟩
    case round =>
      obtain ⟨rfl, rfl, rfl⟩ := hrel
      rcases hx with h | h
      · subst h
        go_wp2_with fail
        exact bodyPost_ret (v := .tuple #[.iface 69 (.agg #[.int .i64 xn]), .slice (some ⟨b, o, none⟩) 0 0]) (by simp [results, Try.results60, go_sem]) rfl ⟨some ⟨b, o, none⟩, 0, rfl, Nat.le_refl _, .inl rfl, hB1⟩
      · subst h
        go_wp2_with fail
        exact bodyPost_ret (v := .tuple #[.iface 125 (.agg #[.int .i64 xn]), .slice (some ⟨b, o, none⟩) 0 0]) (by simp [results, Try.results60, go_sem]) rfl ⟨some ⟨b, o, none⟩, 0, rfl, Nat.le_refl _, .inl rfl, hB1⟩
  · have hc1' : ¬ (c : Int) - 1 = 0 := by omega
    have hc1'' : ¬ c - 1 = 0 := by omega
    have hkr : k.flat.length + r.length = (k.flat ++ r).length := by simp
    have HC := hide (termsBehind_any xk)
    rw [← HA.out] at HC
    go_enter Try.func60, Try.ntmps60
    go_wp2_with fail
    rw [← had1]
    have HAd := hide had1
    clear had1
    refine (HC.out _).mono ?_
    rintro e w1 ⟨rfl, hw1⟩
    have hB1 : Below w.heap.size w w1 := by rw [hw1]; exact (Below.refl _ _).alloc (Nat.le_refl _) _
    have HP1 : Hid (w1.heap[w.heap.size]? = some (.cells #[.nilIface, .nilIface, .nilIface] 123)) := by rw [hw1]; exact heap_alloc_new _ _
    have HQ0 := hide p0
    have HQ1 := hide p1
    clear hw1 p0 p1 HC
    go_wp2_with fail
    go_loopw [5, 14] (fun r5 i w' => ∃ d s : F, k = d.app s ∧ i = .int .i64 (d.len : Int) ∧ (∃ ad' c', r5 = .slice ad' (s.flat ++ r).length c' ∧ (s.flat ++ r).length ≤ c' ∧ CRowB w b ad' (s.flat ++ r)) ∧ Below w.heap.size w w' ∧ ∃ cur : Array Value, w'.heap[w.heap.size]? = some (.cells cur 123 (0, 0)) ∧ Fst cur (pvs d)) (fun _ i _ => A0 - (intOf i).toNat)
    case atStart =>
      refine ⟨.nil, k, rfl, rfl, ⟨ad1, c - 1, ?_, ?_, HRow1.out⟩, hB1, _, HP1.out, rfl, by simp [pvs], fun j v hv => ?_⟩
      · have := HLk.out
        congr 1
        simp; omega
      · have := HLk.out
        simp; omega
      · rcases j with _ | _ | _ | j <;> simp at hv <;> exact .inl hv.symm
    case round =>
      obtain ⟨d, s, hks, rfl, ⟨ad', c', rfl, hc', hrow'⟩, hB, cur, hcur, hF⟩ := hrel
      clear HP1 hB1
      have HRow' := hide hrow'
      have HCur := hide hcur
      have HF := hide hF
      clear hrow' hcur hF
      cases s with
      | nil =>
        rw [F.app_nil] at hks
        subst hks
        have q0 := (hB.cell (p := ⟨b, o, none⟩) hb).trans HQ0.out
        have q1 := (hB.cell (p := ⟨b, o + 1, none⟩) hb).trans HQ1.out
        have hpl := pvs_len k
        have hdone : ¬ (k.len : Int) < (A0 : Int) := by omega
        have hin := good_ar HG.out
        simp only [inB, Bool.and_eq_true, decide_eq_true_eq] at hin
        have hA := HA.out
        rw [F.flat, List.nil_append] at hc' HRow' ⊢
        have HRow2 := hide (HRow'.out.turn (hB.block b hb))
        obtain ⟨RL, hRL⟩ : ∃ RL, RL = r.length := ⟨_, rfl⟩
        obtain ⟨ks, hks⟩ : ∃ ks, ks = k.len := ⟨_, rfl⟩
        rw [← hks] at hdone hk ⊢
        clear hks
        have hx : xk = 1 ∨ xk = 2 ∨ xk = 3 ∨ xk = 4 ∨ xk = 5 ∨ xk = 6 ∨ xk = 7 := by omega
        rcases hx with h | h | h | h | h | h | h
        · subst h
          have HPv : Hid (pv 1 xn (pvs k) = .iface 69 (.agg #[.int .i64 xn])) := hide rfl
          go_wp2_with fail
          exact bodyPost_ret (v := .tuple #[.iface 69 (.agg #[.int .i64 xn]), .slice ad' r.length c']) (by simp [results, Try.results60, go_sem]) rfl ⟨ad', c', by rw [HPv.out], hc', HRow2.out, hB⟩
        · subst h
          have HPv : Hid (pv 2 xn (pvs k) = .iface 125 (.agg #[.int .i64 xn])) := hide rfl
          go_wp2_with fail
          exact bodyPost_ret (v := .tuple #[.iface 125 (.agg #[.int .i64 xn]), .slice ad' r.length c']) (by simp [results, Try.results60, go_sem]) rfl ⟨ad', c', by rw [HPv.out], hc', HRow2.out, hB⟩
        · subst h
          obtain ⟨v0, hv⟩ := List.length_eq_one_iff.1 (show (pvs k).length = 1 by rw [hpl, HK.out]; rfl)
          obtain ⟨T0, u0, rfl⟩ := pvs_iface k v0 (by rw [hv]; simp)
          have c0 := (cell_of_blk HCur.out 0).trans (HF.out.2.1 0 _ (by rw [hv]; rfl))
          have HPv : Hid (pv 3 xn (pvs k) = .iface 100 (.agg #[.iface T0 u0])) := hide (by rw [hv]; rfl)
          clear hv
          go_wp2_with fail
          exact bodyPost_ret (v := .tuple #[.iface 100 (.agg #[.iface T0 u0]), .slice ad' r.length c']) (by simp [results, Try.results60, go_sem]) rfl ⟨ad', c', by rw [HPv.out], hc', HRow2.out, hB⟩
        · subst h
          obtain ⟨v0, v1, hv⟩ := len_two (show (pvs k).length = 2 by rw [hpl, HK.out]; rfl)
          obtain ⟨T0, u0, rfl⟩ := pvs_iface k v0 (by rw [hv]; simp)
          obtain ⟨T1, u1, rfl⟩ := pvs_iface k v1 (by rw [hv]; simp)
          have c0 := (cell_of_blk HCur.out 0).trans (HF.out.2.1 0 _ (by rw [hv]; rfl))
          have c1 := (cell_of_blk HCur.out 1).trans (HF.out.2.1 1 _ (by rw [hv]; rfl))
          have HPv : Hid (pv 4 xn (pvs k) = .iface 102 (.agg #[.iface T0 u0, .iface T1 u1])) := hide (by rw [hv]; rfl)
          clear hv
          go_wp2_with fail
          exact bodyPost_ret (v := .tuple #[.iface 102 (.agg #[.iface T0 u0, .iface T1 u1]), .slice ad' r.length c']) (by simp [results, Try.results60, go_sem]) rfl ⟨ad', c', by rw [HPv.out], hc', HRow2.out, hB⟩
        · subst h
          obtain ⟨v0, v1, hv⟩ := len_two (show (pvs k).length = 2 by rw [hpl, HK.out]; rfl)
          obtain ⟨T0, u0, rfl⟩ := pvs_iface k v0 (by rw [hv]; simp)
          obtain ⟨T1, u1, rfl⟩ := pvs_iface k v1 (by rw [hv]; simp)
          have c0 := (cell_of_blk HCur.out 0).trans (HF.out.2.1 0 _ (by rw [hv]; rfl))
          have c1 := (cell_of_blk HCur.out 1).trans (HF.out.2.1 1 _ (by rw [hv]; rfl))
          have HPv : Hid (pv 5 xn (pvs k) = .iface 104 (.agg #[.iface T0 u0, .iface T1 u1])) := hide (by rw [hv]; rfl)
          clear hv
          go_wp2_with fail
          exact bodyPost_ret (v := .tuple #[.iface 104 (.agg #[.iface T0 u0, .iface T1 u1]), .slice ad' r.length c']) (by simp [results, Try.results60, go_sem]) rfl ⟨ad', c', by rw [HPv.out], hc', HRow2.out, hB⟩
        · subst h
          obtain ⟨v0, v1, v2, hv⟩ := len_three (show (pvs k).length = 3 by rw [hpl, HK.out]; rfl)
          obtain ⟨T0, u0, rfl⟩ := pvs_iface k v0 (by rw [hv]; simp)
          obtain ⟨T1, u1, rfl⟩ := pvs_iface k v1 (by rw [hv]; simp)
          obtain ⟨T2, u2, rfl⟩ := pvs_iface k v2 (by rw [hv]; simp)
          have c0 := (cell_of_blk HCur.out 0).trans (HF.out.2.1 0 _ (by rw [hv]; rfl))
          have c1 := (cell_of_blk HCur.out 1).trans (HF.out.2.1 1 _ (by rw [hv]; rfl))
          have c2 := (cell_of_blk HCur.out 2).trans (HF.out.2.1 2 _ (by rw [hv]; rfl))
          have HPv : Hid (pv 6 xn (pvs k) = .iface 106 (.agg #[.iface T0 u0, .iface T1 u1, .iface T2 u2])) := hide (by rw [hv]; rfl)
          clear hv
          go_wp2_with fail
          exact bodyPost_ret (v := .tuple #[.iface 106 (.agg #[.iface T0 u0, .iface T1 u1, .iface T2 u2]), .slice ad' r.length c']) (by simp [results, Try.results60, go_sem]) rfl ⟨ad', c', by rw [HPv.out], hc', HRow2.out, hB⟩
        · subst h
          obtain ⟨v0, v1, hv⟩ := len_two (show (pvs k).length = 2 by rw [hpl, HK.out]; rfl)
          obtain ⟨T0, u0, rfl⟩ := pvs_iface k v0 (by rw [hv]; simp)
          obtain ⟨T1, u1, rfl⟩ := pvs_iface k v1 (by rw [hv]; simp)
          have c0 := (cell_of_blk HCur.out 0).trans (HF.out.2.1 0 _ (by rw [hv]; rfl))
          have c1 := (cell_of_blk HCur.out 1).trans (HF.out.2.1 1 _ (by rw [hv]; rfl))
          have HPv : Hid (pv 7 xn (pvs k) = .iface 108 (.agg #[.iface T0 u0, .iface T1 u1])) := hide (by rw [hv]; rfl)
          clear hv
          go_wp2_with fail
          exact bodyPost_ret (v := .tuple #[.iface 108 (.agg #[.iface T0 u0, .iface T1 u1]), .slice ad' r.length c']) (by simp [results, Try.results60, go_sem]) rfl ⟨ad', c', by rw [HPv.out], hc', HRow2.out, hB⟩
      | cons y ky s =>
        have hkl : k.len = d.len + (s.len + 1) := by rw [hks, F.app_len]; rfl
        have hlt' : (d.len : Int) < (A0 : Int) := by omega
        have hfl : (F.cons y ky s).flat ++ r = y :: (ky.flat ++ (s.flat ++ r)) := by simp [F.flat]
        rw [hfl] at hc' HRow' ⊢
        have hIH := IH.out
        have hKO := HKO.out
        rw [hks] at hIH hKO
        have hko := (F.app_ok _ _).1 hKO |>.2
        obtain ⟨k1, k2, k3, k4⟩ := hko
        have hlr : (y :: (ky.flat ++ (s.flat ++ r))).length ≤ 1048576 := by
          have h1 := HLk.out
          have h2 : k.flat.length = d.flat.length + (F.cons y ky s).flat.length := by rw [hks, F.app_flat]; simp
          have h3 := congrArg List.length hfl
          simp only [List.length_append] at h3
          omega
        have HCall := hide (F.all_at hIH y (s.flat ++ r) b ad' c' wr k1 k2 k3 hlr hc' (HRow'.out.turn (hB.block b hb)))
        obtain ⟨T, u, hV⟩ := pv_iface y.k y.n (pvs ky)
        rw [hV] at HCall
        have HKs := hide (hks.trans (F.app_snoc d ky s y))
        have HDl : Hid ((d.app (.cons y ky .nil)).len = d.len + 1) := hide (by rw [F.app_len]; rfl)
        have HPd : Hid (pvs (d.app (.cons y ky .nil)) = pvs d ++ [.iface T u]) := hide (by rw [pvs_app]; simp [pvs, hV])
        have HPl := hide (pvs_len d)
        have hd3 : (d.len : Int) < 3 := by omega
        have hd3' : d.len < 3 := by omega
        obtain ⟨LL, hLL⟩ : ∃ LL, LL = (y :: (ky.flat ++ (s.flat ++ r))).length := ⟨_, rfl⟩
        rw [← hLL] at HCall ⊢
        clear hfl hIH hKO k1 k2 k3 k4 hlr hV hks hLL hc'
        obtain ⟨dl, hdl⟩ : ∃ dl, dl = d.len := ⟨_, rfl⟩
        rw [← hdl] at hlt' hd3 hd3' HDl HPl hkl ⊢
        have HKl := hide hkl
        clear hdl hkl
        go_wp2_with fail
        refine Calls.mono HCall.out ?_
        rintro e w2 ⟨ad2, c2, rfl, hc2, hrow2, hb2⟩
        have hB2 : Below w.heap.size w w2 := hB.trans (hb2.mono hB.size)
        have HCur2 := hide ((hb2.block w.heap.size (Array.getElem?_eq_some_iff.1 HCur.out).1).trans HCur.out)
        obtain ⟨v0, hv0, -⟩ := HF.out.get hd3'
        have y0 := (cell_of_blk HCur2.out dl).trans hv0
        have fy := unfrozen_of_blk HCur2.out dl
        have HRow2 := hide hrow2
        clear hb2 HCall hv0 hrow2
        obtain ⟨RL, hRL⟩ : ∃ RL, RL = (s.flat ++ r).length := ⟨_, rfl⟩
        rw [← hRL]
        have HRL := hide hRL
        clear hRL
        go_wp2_with fail
        have hB3 : Below w.heap.size w (w2.setCell ⟨w.heap.size, dl, none⟩ (.iface T u)) := hB2.setCell (p := ⟨w.heap.size, dl, none⟩) (Nat.le_refl _) _
        refine ⟨⟨d.app (.cons y ky .nil), s, HKs.out, by rw [HDl.out]; go_num, ⟨ad2, c2, by rw [HRL.out], hc2, ?_⟩, hB3, _, blk_setCell HCur2.out _, ?_⟩, by simp [intOf]; omega⟩
        · exact HRow2.out.turn (hB2.block b hb).symm
        · rw [HPd.out, ← HPl.out]
          have h3 := HF.out.snoc (T := T) (u := u) (by rw [HPl.out]; exact hd3')
          exact h3

/-- A term as a part. -/
def pvT : F → Value
  | .nil => .nilIface
  | .cons x k _ => pv x.k x.n (pvs k)

set_option maxHeartbeats 1000000 in
theorem partOf_any (a : F) (ad : Option Addr) (c : Nat) (w : World) (ho : a.ok) (h1 : a.len = 1) (hl : a.flat.length ≤ 1048576) (hc : a.flat.length ≤ c) (hR : CRow w ad a.flat) :
    Calls Try.prog 31 #[.slice ad a.flat.length c] w fun e w' => e = .returned (pvT a) ∧ Below w.heap.size w w' := by
  obtain ⟨x, k, rfl⟩ := F.len_1 h1
  obtain ⟨o1, o2, o3, -⟩ := ho
  obtain ⟨b, hRB⟩ := CRowB.of hR
  have hf : (F.cons x k .nil).flat = x :: (k.flat ++ []) := rfl
  rw [hf] at hl hc hRB ⊢
  have HC := hide (partAhead_any k x [] b ad c w o1 o2 o3 hl hc hRB)
  show Calls _ _ _ _ fun e w' => e = .returned (pv x.k x.n (pvs k)) ∧ _
  obtain ⟨T, u, hV⟩ := pv_iface x.k x.n (pvs k)
  rw [hV] at HC ⊢
  obtain ⟨L, hL⟩ : ∃ L, L = (x :: (k.flat ++ [])).length := ⟨_, rfl⟩
  rw [← hL] at HC ⊢
  clear hL hf hl hc hRB hR hV
  go_enter Try.func31, Try.ntmps31
  go_wp2_with fail
  refine Calls.mono HC.out ?_
  rintro e w1 ⟨ad', c', rfl, -, -, hb1⟩
  go_wp2_with fail
  go_ret
  exact ⟨rfl, hb1⟩
end Go.Proofs.Ytjmgnljjeogdlaa.W

/-
  The walk over a term's variables: a contract of withVariables for any change of variables. Conditions: as the theorem states.
-/
namespace Go.Proofs.Ytjmgnljjeogdlaa.W
open Go.ChangeShapes Go.WideShapes Go.ChangeAt Go.RowKit
set_option linter.unusedVariables false

/-- How many a term of kind pk binds in its kid i. -/
def binds (pk : Int) (i : Nat) : Nat := if pk = 3 ∨ (pk = 7 ∧ i = 1) then 1 else 0
theorem binds_le (pk : Int) (i : Nat) : binds pk i ≤ 1 := by unfold binds; split <;> omega

section
variable {σ : Type} (g : σ → Int → Nat → F) (st : σ → Int → Nat → σ)
/-- Terms (the kids from i on of a term of kind pk, with d bound around it) with their variables changed, from left to right. -/
def wv (pk : Int) (d : Nat) : Nat → F → σ → F × σ
  | _, .nil, s => (.nil, s)
  | i, .cons x k r, s =>
    if x.k = 1 then
      let q := wv pk d (i + 1) r (st s x.n (d + binds pk i))
      ((g s x.n (d + binds pk i)).app q.1, q.2)
    else
      let p := wv x.k (d + binds pk i) 0 k s
      let q := wv pk d (i + 1) r p.2
      (.cons x p.1 q.1, q.2)
end

theorem wv_nil {σ : Type} (g : σ → Int → Nat → F) (st : σ → Int → Nat → σ) (pk : Int) (d i : Nat) (s : σ) : wv g st pk d i .nil s = (.nil, s) := rfl
theorem binds_0 (i : Nat) : binds 0 i = 0 := by simp [binds]
theorem wv_cons {σ : Type} (g : σ → Int → Nat → F) (st : σ → Int → Nat → σ) (pk : Int) (d i : Nat) (y : Cc) (ky r : F) (s : σ) :
    wv g st pk d i (.cons y ky r) s = (((wv g st 0 (d + binds pk i) 0 (.cons y ky .nil) s).1).app (wv g st pk d (i + 1) r (wv g st 0 (d + binds pk i) 0 (.cons y ky .nil) s).2).1, (wv g st pk d (i + 1) r (wv g st 0 (d + binds pk i) 0 (.cons y ky .nil) s).2).2) := by
  by_cases h : y.k = 1
  · simp [wv, h, binds_0, F.app_nil]
  · simp [wv, h, binds_0, F.app]
theorem wv_len {σ : Type} {g : σ → Int → Nat → F} {st : σ → Int → Nat → σ} (hg : ∀ s n d, (g s n d).len = 1) : ∀ (a : F) (pk : Int) (d i : Nat) (s : σ), (wv g st pk d i a s).1.len = a.len
  | .nil, _, _, _, _ => rfl
  | .cons x k r, pk, d, i, s => by
    by_cases h : x.k = 1
    · simp only [wv, h, if_true, F.app_len, hg, wv_len hg r, F.len]; omega
    · simp only [wv, h, if_false, F.len, wv_len hg r]
theorem pvs_one {a : F} (h : a.len = 1) : pvs a = [pvT a] := by
  obtain ⟨x, k, rfl⟩ := F.len_1 h
  rfl
theorem pvT_iface {a : F} (h : a.len = 1) : ∃ T u, pvT a = .iface T u := by
  obtain ⟨x, k, rfl⟩ := F.len_1 h
  exact pv_iface _ _ _

/-- The memory holds what the state says, and will, whatever is made. -/
def Inv (cb : Nat) (ob : World → Prop) (w : World) : Prop := ∀ w' : World, w.heap.size ≤ w'.heap.size → (∀ k, k < w.heap.size → w'.heap[k]? = w.heap[k]?) → ob w'
theorem Inv.get {cb : Nat} {ob : World → Prop} {w : World} (h : Inv cb ob w) : ob w := h w (Nat.le_refl _) (fun _ _ => rfl)

/-! What each assertion tells of each part. -/
theorem as_var_var (v : Value) (w : World) : (Instr.typeAssert (.iface 69 v) 65 69 true).run Try.prog w = .ok (.tuple #[v, .bool true]) w := by kernel_rfl
theorem as_lam_var (v : Value) (w : World) : (Instr.typeAssert (.iface 100 v) 65 69 true).run Try.prog w = .ok (.tuple #[.agg #[.int .i64 0], .bool false]) w := by kernel_rfl
theorem as_lam_lam (v : Value) (w : World) : (Instr.typeAssert (.iface 100 v) 65 100 true).run Try.prog w = .ok (.tuple #[v, .bool true]) w := by kernel_rfl
theorem as_app_var (v : Value) (w : World) : (Instr.typeAssert (.iface 102 v) 65 69 true).run Try.prog w = .ok (.tuple #[.agg #[.int .i64 0], .bool false]) w := by kernel_rfl
theorem as_app_lam (v : Value) (w : World) : (Instr.typeAssert (.iface 102 v) 65 100 true).run Try.prog w = .ok (.tuple #[.agg #[.nilIface], .bool false]) w := by kernel_rfl
theorem as_app_app (v : Value) (w : World) : (Instr.typeAssert (.iface 102 v) 65 102 true).run Try.prog w = .ok (.tuple #[v, .bool true]) w := by kernel_rfl
theorem as_add_var (v : Value) (w : World) : (Instr.typeAssert (.iface 104 v) 65 69 true).run Try.prog w = .ok (.tuple #[.agg #[.int .i64 0], .bool false]) w := by kernel_rfl
theorem as_add_lam (v : Value) (w : World) : (Instr.typeAssert (.iface 104 v) 65 100 true).run Try.prog w = .ok (.tuple #[.agg #[.nilIface], .bool false]) w := by kernel_rfl
theorem as_add_app (v : Value) (w : World) : (Instr.typeAssert (.iface 104 v) 65 102 true).run Try.prog w = .ok (.tuple #[.agg #[.nilIface, .nilIface], .bool false]) w := by kernel_rfl
theorem as_add_add (v : Value) (w : World) : (Instr.typeAssert (.iface 104 v) 65 104 true).run Try.prog w = .ok (.tuple #[v, .bool true]) w := by kernel_rfl
theorem as_if_var (v : Value) (w : World) : (Instr.typeAssert (.iface 106 v) 65 69 true).run Try.prog w = .ok (.tuple #[.agg #[.int .i64 0], .bool false]) w := by kernel_rfl
theorem as_if_lam (v : Value) (w : World) : (Instr.typeAssert (.iface 106 v) 65 100 true).run Try.prog w = .ok (.tuple #[.agg #[.nilIface], .bool false]) w := by kernel_rfl
theorem as_if_app (v : Value) (w : World) : (Instr.typeAssert (.iface 106 v) 65 102 true).run Try.prog w = .ok (.tuple #[.agg #[.nilIface, .nilIface], .bool false]) w := by kernel_rfl
theorem as_if_add (v : Value) (w : World) : (Instr.typeAssert (.iface 106 v) 65 104 true).run Try.prog w = .ok (.tuple #[.agg #[.nilIface, .nilIface], .bool false]) w := by kernel_rfl
theorem as_if_if (v : Value) (w : World) : (Instr.typeAssert (.iface 106 v) 65 106 true).run Try.prog w = .ok (.tuple #[v, .bool true]) w := by kernel_rfl
theorem as_let_var (v : Value) (w : World) : (Instr.typeAssert (.iface 108 v) 65 69 true).run Try.prog w = .ok (.tuple #[.agg #[.int .i64 0], .bool false]) w := by kernel_rfl
theorem as_let_lam (v : Value) (w : World) : (Instr.typeAssert (.iface 108 v) 65 100 true).run Try.prog w = .ok (.tuple #[.agg #[.nilIface], .bool false]) w := by kernel_rfl
theorem as_let_app (v : Value) (w : World) : (Instr.typeAssert (.iface 108 v) 65 102 true).run Try.prog w = .ok (.tuple #[.agg #[.nilIface, .nilIface], .bool false]) w := by kernel_rfl
theorem as_let_add (v : Value) (w : World) : (Instr.typeAssert (.iface 108 v) 65 104 true).run Try.prog w = .ok (.tuple #[.agg #[.nilIface, .nilIface], .bool false]) w := by kernel_rfl
theorem as_let_if (v : Value) (w : World) : (Instr.typeAssert (.iface 108 v) 65 106 true).run Try.prog w = .ok (.tuple #[.agg #[.nilIface, .nilIface, .nilIface], .bool false]) w := by kernel_rfl
theorem as_let_let (v : Value) (w : World) : (Instr.typeAssert (.iface 108 v) 65 108 true).run Try.prog w = .ok (.tuple #[v, .bool true]) w := by kernel_rfl
theorem as_num_var (v : Value) (w : World) : (Instr.typeAssert (.iface 125 v) 65 69 true).run Try.prog w = .ok (.tuple #[.agg #[.int .i64 0], .bool false]) w := by kernel_rfl
theorem as_num_lam (v : Value) (w : World) : (Instr.typeAssert (.iface 125 v) 65 100 true).run Try.prog w = .ok (.tuple #[.agg #[.nilIface], .bool false]) w := by kernel_rfl
theorem as_num_app (v : Value) (w : World) : (Instr.typeAssert (.iface 125 v) 65 102 true).run Try.prog w = .ok (.tuple #[.agg #[.nilIface, .nilIface], .bool false]) w := by kernel_rfl
theorem as_num_add (v : Value) (w : World) : (Instr.typeAssert (.iface 125 v) 65 104 true).run Try.prog w = .ok (.tuple #[.agg #[.nilIface, .nilIface], .bool false]) w := by kernel_rfl
theorem as_num_if (v : Value) (w : World) : (Instr.typeAssert (.iface 125 v) 65 106 true).run Try.prog w = .ok (.tuple #[.agg #[.nilIface, .nilIface, .nilIface], .bool false]) w := by kernel_rfl
theorem as_num_let (v : Value) (w : World) : (Instr.typeAssert (.iface 125 v) 65 108 true).run Try.prog w = .ok (.tuple #[.agg #[.nilIface, .nilIface], .bool false]) w := by kernel_rfl


theorem Inv.oth {cb : Nat} {ob : World → Prop} {w : World} (h : Inv cb ob w) (o : Obj) : Inv cb ob (w.alloc o) := fun w' h1 h2 => h w' (by simp at h1; omega) (fun k hk => (h2 k (by simp; omega)).trans (heap_alloc_old _ _ hk))
theorem Inv.drew {cb : Nat} {ob : World → Prop} {w : World} (h : Inv cb ob w) : Inv cb ob w.drew := h
theorem Inv.blk {cb b : Nat} {o : Obj} {w : World} (h : w.heap[b]? = some o) : Inv cb (fun w => w.heap[b]? = some o) w := fun w' _ h2 => (h2 b (Array.getElem?_eq_some_iff.1 h).1).trans h
theorem Inv.and {cb : Nat} {P Q : World → Prop} {w : World} (h1 : Inv cb P w) (h2 : Inv cb Q w) : Inv cb (fun w => P w ∧ Q w) w := fun w' a b => ⟨h1 w' a b, h2 w' a b⟩
theorem Oth.alloc1 (cb : Nat) (w : World) (o : Obj) : Oth cb w (w.alloc o) := Oth.ofBelow ((Below.refl _ _).alloc (Nat.le_refl _) _)
theorem Oth.drew1 (cb : Nat) (w : World) : Oth cb w w.drew := ⟨rfl, rfl, rfl, Nat.le_refl _, fun _ _ _ => rfl⟩
theorem Oth.cell {cb : Nat} {w w' : World} (h : Oth cb w w') {a : Addr} {v : Value} (hn : a.block ≠ cb) (hc : w.cell? a = some v) : w'.cell? a = some v :=
  (World.cell?_of_block (h.block a.block (World.block_lt_of_cell? w a hc) hn)).trans hc

theorem F.len_2 {a : F} (h : a.len = 2) : ∃ x k y l, a = .cons x k (.cons y l .nil) := by
  cases a with
  | nil => simp [F.len] at h
  | cons x k r => simp [F.len] at h; obtain ⟨y, l, rfl⟩ := F.len_1 h; exact ⟨x, k, y, l, rfl⟩
theorem F.len_3 {a : F} (h : a.len = 3) : ∃ x k y l z m, a = .cons x k (.cons y l (.cons z m .nil)) := by
  cases a with
  | nil => simp [F.len] at h
  | cons x k r => simp [F.len] at h; obtain ⟨y, l, z, m, rfl⟩ := F.len_2 h; exact ⟨x, k, y, l, z, m, rfl⟩

/-- What a change of variables does. -/
def ChgOK {σ : Type} (fid : FuncId) (cap : Array Value) (cb : Nat) (ob : σ → World → Prop) (g : σ → Int → Nat → F) (st : σ → Int → Nat → σ) : Prop :=
  ∀ (s : σ) (n : Int) (d : Nat) (w : World), 0 ≤ n → n ≤ 99 → d ≤ 1048576 → cb < w.heap.size → Inv cb (ob s) w →
    Calls Try.prog fid (#[.agg #[.int .i64 n], .int .i64 (d : Int)] ++ cap) w fun e w' => e = .returned (pvT (g s n d)) ∧ Inv cb (ob (st s n d)) w' ∧ Oth cb w w'

/-- One term with its variables changed. -/
def w1 {σ : Type} (g : σ → Int → Nat → F) (st : σ → Int → Nat → σ) (d : Nat) (x : Cc) (k : F) (s : σ) : F × σ := wv g st 0 d 0 (.cons x k .nil) s
theorem w1_var {σ : Type} (g : σ → Int → Nat → F) (st : σ → Int → Nat → σ) (d : Nat) (n : Int) (k : F) (s : σ) : w1 g st d ⟨1, n⟩ k s = (g s n d, st s n d) := by
  simp [w1, wv, binds_0, F.app_nil]
theorem w1_other {σ : Type} (g : σ → Int → Nat → F) (st : σ → Int → Nat → σ) (d : Nat) (x : Cc) (k : F) (s : σ) (h : x.k ≠ 1) : w1 g st d x k s = (.cons x (wv g st x.k d 0 k s).1 .nil, (wv g st x.k d 0 k s).2) := by
  simp [w1, wv, binds_0, h]
theorem wv_step {σ : Type} (g : σ → Int → Nat → F) (st : σ → Int → Nat → σ) (pk : Int) (d i : Nat) (y : Cc) (ky r : F) (s : σ) :
    wv g st pk d i (.cons y ky r) s = (((w1 g st (d + binds pk i) y ky s).1).app (wv g st pk d (i + 1) r (w1 g st (d + binds pk i) y ky s).2).1, (wv g st pk d (i + 1) r (w1 g st (d + binds pk i) y ky s).2).2) := wv_cons g st pk d i y ky r s

section
variable {σ : Type} (fid : FuncId) (cap : Array Value) (cb : Nat) (ob : σ → World → Prop) (g : σ → Int → Nat → F) (st : σ → Int → Nat → σ)

/-- A call of withVariables at one term. -/
def WVC (s : σ) (d : Int) (v : Value) (r : F × σ) : Prop := ∀ (w : World), cb < w.heap.size → Inv cb (ob s) w →
    Calls Try.prog 30 #[v, .int .i64 d, .func (.func fid) #[] cap] w fun e w' => e = .returned (pvT r.1) ∧ Inv cb (ob r.2) w' ∧ Oth cb w w'
def WVGoal (k : F) : Prop := ∀ (x : Cc) (s : σ) (d : Nat), goodC x = true → k.len = ar x.k → k.ok → d + k.flat.length ≤ 1048576 → WVC fid cap cb ob s (d : Int) (pv x.k x.n (pvs k)) (w1 g st d x k s)

set_option maxRecDepth 20000 in
set_option maxHeartbeats 4000000 in
theorem with_lam (s0 : σ) (d : Nat) (hd : d ≤ 1048576) (T0 : TypeId) (u0 : Value) (R0 : TypeId) (q0 : Value) (s1 : σ) (h0 : ∀ (w : World), cb < w.heap.size → Inv cb (ob s0) w → Calls Try.prog 30 #[.iface T0 u0, .int .i64 ((d : Int) + 1), .func (.func fid) #[] cap] w fun e w' => e = .returned (.iface R0 q0) ∧ Inv cb (ob s1) w' ∧ Oth cb w w') :
    ∀ (w : World), cb < w.heap.size → Inv cb (ob s0) w → Calls Try.prog 30 #[.iface 100 (.agg #[.iface T0 u0]), .int .i64 (d : Int), .func (.func fid) #[] cap] w fun e w' => e = .returned (.iface 100 (.agg #[.iface R0 q0])) ∧ Inv cb (ob s1) w' ∧ Oth cb w w' := by
  intro w hcb hinv
  have H0 := hide h0
  clear h0
  have a_var := as_lam_var
  have a_lam := as_lam_lam
  have HI := hide hinv
  clear hinv
  go_enter Try.func30, Try.ntmps30
  go_wp2_with fail
  refine Calls.mono (H0.out _ (by simp; omega) (HI.out.oth _)) ?_
  rintro e w2 ⟨rfl, hi2, ho2⟩
  go_wp2_with fail
  go_ret
  exact ⟨rfl, hi2, (Oth.alloc1 cb w _).trans ho2⟩

set_option maxRecDepth 20000 in
set_option maxHeartbeats 4000000 in
theorem with_app (s0 : σ) (d : Nat) (hd : d ≤ 1048576) (T0 : TypeId) (u0 : Value) (R0 : TypeId) (q0 : Value) (s1 : σ) (T1 : TypeId) (u1 : Value) (R1 : TypeId) (q1 : Value) (s2 : σ) (h0 : ∀ (w : World), cb < w.heap.size → Inv cb (ob s0) w → Calls Try.prog 30 #[.iface T0 u0, .int .i64 ((d : Int)), .func (.func fid) #[] cap] w fun e w' => e = .returned (.iface R0 q0) ∧ Inv cb (ob s1) w' ∧ Oth cb w w') (h1 : ∀ (w : World), cb < w.heap.size → Inv cb (ob s1) w → Calls Try.prog 30 #[.iface T1 u1, .int .i64 ((d : Int)), .func (.func fid) #[] cap] w fun e w' => e = .returned (.iface R1 q1) ∧ Inv cb (ob s2) w' ∧ Oth cb w w') :
    ∀ (w : World), cb < w.heap.size → Inv cb (ob s0) w → Calls Try.prog 30 #[.iface 102 (.agg #[.iface T0 u0, .iface T1 u1]), .int .i64 (d : Int), .func (.func fid) #[] cap] w fun e w' => e = .returned (.iface 102 (.agg #[.iface R0 q0, .iface R1 q1])) ∧ Inv cb (ob s2) w' ∧ Oth cb w w' := by
  intro w hcb hinv
  have H0 := hide h0
  have H1 := hide h1
  clear h0 h1
  have a_var := as_app_var
  have a_lam := as_app_lam
  have a_app := as_app_app
  have HI := hide hinv
  clear hinv
  go_enter Try.func30, Try.ntmps30
  have hw : IntKind.i64.wrap ((d : Int) + 1) = (d : Int) + 1 := IntWalk.i64_in _ ⟨by omega, by omega⟩
  go_wp2_with fail
  obtain ⟨w0, hw0⟩ : ∃ w0, w0 = w.alloc (.cells #[.iface T0 u0, .iface T1 u1] 102) := ⟨_, rfl⟩
  rw [← hw0]
  have hb0 : w0.heap[w.heap.size]? = some (.cells #[.iface T0 u0, .iface T1 u1] 102) := by rw [hw0]; exact heap_alloc_new _ _
  have hi0 : Inv cb (ob s0) w0 := by rw [hw0]; exact HI.out.oth _
  have ho0 : Oth cb w w0 := by rw [hw0]; exact Oth.alloc1 _ _ _
  have hxb : w.heap.size ≠ cb := by omega
  have c0 : w0.cell? ⟨w.heap.size, 0, none⟩ = some (.iface T0 u0) := (cell_of_blk hb0 0).trans rfl
  have c1 : w0.cell? ⟨w.heap.size, 1, none⟩ = some (.iface T1 u1) := (cell_of_blk hb0 1).trans rfl
  have hcb0 : cb < w0.heap.size := Nat.lt_of_lt_of_le hcb ho0.size
  have HI0 := hide hi0
  have HO0 := hide ho0
  clear hw0 hb0 hi0 ho0
  go_region_held3 (fun w' => w'.cell? ⟨w.heap.size, 0, none⟩ = some (.iface T0 u0) ∧ w'.cell? ⟨w.heap.size, 1, none⟩ = some (.iface T1 u1)) (go_keep)
    (first
      | (go_at_call_of 30 u0; refine Calls.mono (H0.out _ hcb0 HI0.out.drew) ?_; rintro e w1 ⟨rfl, hi, ho⟩; have hcb1 : cb < w1.heap.size := Nat.lt_of_lt_of_le hcb0 ho.size; have HI1 := hide hi; have HO1 := hide ho; clear hi ho; have c0_1 := HO1.out.cell hxb c0; have c1_1 := HO1.out.cell hxb c1)
      | (go_at_call_of 30 u1; refine Calls.mono (H1.out _ hcb1 HI1.out) ?_; rintro e w2 ⟨rfl, hi, ho⟩; have hcb2 : cb < w2.heap.size := Nat.lt_of_lt_of_le hcb1 ho.size; have HI2 := hide hi; have HO2 := hide ho; clear hi ho; have c0_2 := HO2.out.cell hxb c0_1; have c1_2 := HO2.out.cell hxb c1_1))
  go_wp2_with fail
  go_ret
  exact ⟨rfl, HI2.out, ((HO0.out.trans (Oth.drew1 cb w0)).trans HO1.out).trans HO2.out⟩

set_option maxRecDepth 20000 in
set_option maxHeartbeats 4000000 in
theorem with_add (s0 : σ) (d : Nat) (hd : d ≤ 1048576) (T0 : TypeId) (u0 : Value) (R0 : TypeId) (q0 : Value) (s1 : σ) (T1 : TypeId) (u1 : Value) (R1 : TypeId) (q1 : Value) (s2 : σ) (h0 : ∀ (w : World), cb < w.heap.size → Inv cb (ob s0) w → Calls Try.prog 30 #[.iface T0 u0, .int .i64 ((d : Int)), .func (.func fid) #[] cap] w fun e w' => e = .returned (.iface R0 q0) ∧ Inv cb (ob s1) w' ∧ Oth cb w w') (h1 : ∀ (w : World), cb < w.heap.size → Inv cb (ob s1) w → Calls Try.prog 30 #[.iface T1 u1, .int .i64 ((d : Int)), .func (.func fid) #[] cap] w fun e w' => e = .returned (.iface R1 q1) ∧ Inv cb (ob s2) w' ∧ Oth cb w w') :
    ∀ (w : World), cb < w.heap.size → Inv cb (ob s0) w → Calls Try.prog 30 #[.iface 104 (.agg #[.iface T0 u0, .iface T1 u1]), .int .i64 (d : Int), .func (.func fid) #[] cap] w fun e w' => e = .returned (.iface 104 (.agg #[.iface R0 q0, .iface R1 q1])) ∧ Inv cb (ob s2) w' ∧ Oth cb w w' := by
  intro w hcb hinv
  have H0 := hide h0
  have H1 := hide h1
  clear h0 h1
  have a_var := as_add_var
  have a_lam := as_add_lam
  have a_app := as_add_app
  have a_add := as_add_add
  have HI := hide hinv
  clear hinv
  go_enter Try.func30, Try.ntmps30
  have hw : IntKind.i64.wrap ((d : Int) + 1) = (d : Int) + 1 := IntWalk.i64_in _ ⟨by omega, by omega⟩
  go_wp2_with fail
  obtain ⟨w0, hw0⟩ : ∃ w0, w0 = w.alloc (.cells #[.iface T0 u0, .iface T1 u1] 104) := ⟨_, rfl⟩
  rw [← hw0]
  have hb0 : w0.heap[w.heap.size]? = some (.cells #[.iface T0 u0, .iface T1 u1] 104) := by rw [hw0]; exact heap_alloc_new _ _
  have hi0 : Inv cb (ob s0) w0 := by rw [hw0]; exact HI.out.oth _
  have ho0 : Oth cb w w0 := by rw [hw0]; exact Oth.alloc1 _ _ _
  have hxb : w.heap.size ≠ cb := by omega
  have c0 : w0.cell? ⟨w.heap.size, 0, none⟩ = some (.iface T0 u0) := (cell_of_blk hb0 0).trans rfl
  have c1 : w0.cell? ⟨w.heap.size, 1, none⟩ = some (.iface T1 u1) := (cell_of_blk hb0 1).trans rfl
  have hcb0 : cb < w0.heap.size := Nat.lt_of_lt_of_le hcb ho0.size
  have HI0 := hide hi0
  have HO0 := hide ho0
  clear hw0 hb0 hi0 ho0
  go_region_held3 (fun w' => w'.cell? ⟨w.heap.size, 0, none⟩ = some (.iface T0 u0) ∧ w'.cell? ⟨w.heap.size, 1, none⟩ = some (.iface T1 u1)) (go_keep)
    (first
      | (go_at_call_of 30 u0; refine Calls.mono (H0.out _ hcb0 HI0.out.drew) ?_; rintro e w1 ⟨rfl, hi, ho⟩; have hcb1 : cb < w1.heap.size := Nat.lt_of_lt_of_le hcb0 ho.size; have HI1 := hide hi; have HO1 := hide ho; clear hi ho; have c0_1 := HO1.out.cell hxb c0; have c1_1 := HO1.out.cell hxb c1)
      | (go_at_call_of 30 u1; refine Calls.mono (H1.out _ hcb1 HI1.out) ?_; rintro e w2 ⟨rfl, hi, ho⟩; have hcb2 : cb < w2.heap.size := Nat.lt_of_lt_of_le hcb1 ho.size; have HI2 := hide hi; have HO2 := hide ho; clear hi ho; have c0_2 := HO2.out.cell hxb c0_1; have c1_2 := HO2.out.cell hxb c1_1))
  go_wp2_with fail
  go_ret
  exact ⟨rfl, HI2.out, ((HO0.out.trans (Oth.drew1 cb w0)).trans HO1.out).trans HO2.out⟩

set_option maxRecDepth 20000 in
set_option maxHeartbeats 4000000 in
theorem with_if (s0 : σ) (d : Nat) (hd : d ≤ 1048576) (T0 : TypeId) (u0 : Value) (R0 : TypeId) (q0 : Value) (s1 : σ) (T1 : TypeId) (u1 : Value) (R1 : TypeId) (q1 : Value) (s2 : σ) (T2 : TypeId) (u2 : Value) (R2 : TypeId) (q2 : Value) (s3 : σ) (h0 : ∀ (w : World), cb < w.heap.size → Inv cb (ob s0) w → Calls Try.prog 30 #[.iface T0 u0, .int .i64 ((d : Int)), .func (.func fid) #[] cap] w fun e w' => e = .returned (.iface R0 q0) ∧ Inv cb (ob s1) w' ∧ Oth cb w w') (h1 : ∀ (w : World), cb < w.heap.size → Inv cb (ob s1) w → Calls Try.prog 30 #[.iface T1 u1, .int .i64 ((d : Int)), .func (.func fid) #[] cap] w fun e w' => e = .returned (.iface R1 q1) ∧ Inv cb (ob s2) w' ∧ Oth cb w w') (h2 : ∀ (w : World), cb < w.heap.size → Inv cb (ob s2) w → Calls Try.prog 30 #[.iface T2 u2, .int .i64 ((d : Int)), .func (.func fid) #[] cap] w fun e w' => e = .returned (.iface R2 q2) ∧ Inv cb (ob s3) w' ∧ Oth cb w w') :
    ∀ (w : World), cb < w.heap.size → Inv cb (ob s0) w → Calls Try.prog 30 #[.iface 106 (.agg #[.iface T0 u0, .iface T1 u1, .iface T2 u2]), .int .i64 (d : Int), .func (.func fid) #[] cap] w fun e w' => e = .returned (.iface 106 (.agg #[.iface R0 q0, .iface R1 q1, .iface R2 q2])) ∧ Inv cb (ob s3) w' ∧ Oth cb w w' := by
  intro w hcb hinv
  have H0 := hide h0
  have H1 := hide h1
  have H2 := hide h2
  clear h0 h1 h2
  have a_var := as_if_var
  have a_lam := as_if_lam
  have a_app := as_if_app
  have a_add := as_if_add
  have a_if := as_if_if
  have HI := hide hinv
  clear hinv
  go_enter Try.func30, Try.ntmps30
  have hw : IntKind.i64.wrap ((d : Int) + 1) = (d : Int) + 1 := IntWalk.i64_in _ ⟨by omega, by omega⟩
  go_wp2_with fail
  obtain ⟨w0, hw0⟩ : ∃ w0, w0 = w.alloc (.cells #[.iface T0 u0, .iface T1 u1, .iface T2 u2] 106) := ⟨_, rfl⟩
  rw [← hw0]
  have hb0 : w0.heap[w.heap.size]? = some (.cells #[.iface T0 u0, .iface T1 u1, .iface T2 u2] 106) := by rw [hw0]; exact heap_alloc_new _ _
  have hi0 : Inv cb (ob s0) w0 := by rw [hw0]; exact HI.out.oth _
  have ho0 : Oth cb w w0 := by rw [hw0]; exact Oth.alloc1 _ _ _
  have hxb : w.heap.size ≠ cb := by omega
  have c0 : w0.cell? ⟨w.heap.size, 0, none⟩ = some (.iface T0 u0) := (cell_of_blk hb0 0).trans rfl
  have c1 : w0.cell? ⟨w.heap.size, 1, none⟩ = some (.iface T1 u1) := (cell_of_blk hb0 1).trans rfl
  have c2 : w0.cell? ⟨w.heap.size, 2, none⟩ = some (.iface T2 u2) := (cell_of_blk hb0 2).trans rfl
  have hcb0 : cb < w0.heap.size := Nat.lt_of_lt_of_le hcb ho0.size
  have HI0 := hide hi0
  have HO0 := hide ho0
  clear hw0 hb0 hi0 ho0
  go_region_held3 (fun w' => w'.cell? ⟨w.heap.size, 0, none⟩ = some (.iface T0 u0) ∧ w'.cell? ⟨w.heap.size, 1, none⟩ = some (.iface T1 u1) ∧ w'.cell? ⟨w.heap.size, 2, none⟩ = some (.iface T2 u2)) (go_keep)
    (first
      | (go_at_call_of 30 u0; refine Calls.mono (H0.out _ hcb0 HI0.out.drew) ?_; rintro e w1 ⟨rfl, hi, ho⟩; have hcb1 : cb < w1.heap.size := Nat.lt_of_lt_of_le hcb0 ho.size; have HI1 := hide hi; have HO1 := hide ho; clear hi ho; have c0_1 := HO1.out.cell hxb c0; have c1_1 := HO1.out.cell hxb c1; have c2_1 := HO1.out.cell hxb c2)
      | (go_at_call_of 30 u1; refine Calls.mono (H1.out _ hcb1 HI1.out) ?_; rintro e w2 ⟨rfl, hi, ho⟩; have hcb2 : cb < w2.heap.size := Nat.lt_of_lt_of_le hcb1 ho.size; have HI2 := hide hi; have HO2 := hide ho; clear hi ho; have c0_2 := HO2.out.cell hxb c0_1; have c1_2 := HO2.out.cell hxb c1_1; have c2_2 := HO2.out.cell hxb c2_1)
      | (go_at_call_of 30 u2; refine Calls.mono (H2.out _ hcb2 HI2.out) ?_; rintro e w3 ⟨rfl, hi, ho⟩; have hcb3 : cb < w3.heap.size := Nat.lt_of_lt_of_le hcb2 ho.size; have HI3 := hide hi; have HO3 := hide ho; clear hi ho; have c0_3 := HO3.out.cell hxb c0_2; have c1_3 := HO3.out.cell hxb c1_2; have c2_3 := HO3.out.cell hxb c2_2))
  go_wp2_with fail
  go_ret
  exact ⟨rfl, HI3.out, (((HO0.out.trans (Oth.drew1 cb w0)).trans HO1.out).trans HO2.out).trans HO3.out⟩

set_option maxRecDepth 20000 in
set_option maxHeartbeats 4000000 in
theorem with_let (s0 : σ) (d : Nat) (hd : d ≤ 1048576) (T0 : TypeId) (u0 : Value) (R0 : TypeId) (q0 : Value) (s1 : σ) (T1 : TypeId) (u1 : Value) (R1 : TypeId) (q1 : Value) (s2 : σ) (h0 : ∀ (w : World), cb < w.heap.size → Inv cb (ob s0) w → Calls Try.prog 30 #[.iface T0 u0, .int .i64 ((d : Int)), .func (.func fid) #[] cap] w fun e w' => e = .returned (.iface R0 q0) ∧ Inv cb (ob s1) w' ∧ Oth cb w w') (h1 : ∀ (w : World), cb < w.heap.size → Inv cb (ob s1) w → Calls Try.prog 30 #[.iface T1 u1, .int .i64 ((d : Int) + 1), .func (.func fid) #[] cap] w fun e w' => e = .returned (.iface R1 q1) ∧ Inv cb (ob s2) w' ∧ Oth cb w w') :
    ∀ (w : World), cb < w.heap.size → Inv cb (ob s0) w → Calls Try.prog 30 #[.iface 108 (.agg #[.iface T0 u0, .iface T1 u1]), .int .i64 (d : Int), .func (.func fid) #[] cap] w fun e w' => e = .returned (.iface 108 (.agg #[.iface R0 q0, .iface R1 q1])) ∧ Inv cb (ob s2) w' ∧ Oth cb w w' := by
  intro w hcb hinv
  have H0 := hide h0
  have H1 := hide h1
  clear h0 h1
  have a_var := as_let_var
  have a_lam := as_let_lam
  have a_app := as_let_app
  have a_add := as_let_add
  have a_if := as_let_if
  have a_let := as_let_let
  have HI := hide hinv
  clear hinv
  go_enter Try.func30, Try.ntmps30
  have hw : IntKind.i64.wrap ((d : Int) + 1) = (d : Int) + 1 := IntWalk.i64_in _ ⟨by omega, by omega⟩
  go_wp2_with fail
  obtain ⟨w0, hw0⟩ : ∃ w0, w0 = w.alloc (.cells #[.iface T0 u0, .iface T1 u1] 108) := ⟨_, rfl⟩
  rw [← hw0]
  have hb0 : w0.heap[w.heap.size]? = some (.cells #[.iface T0 u0, .iface T1 u1] 108) := by rw [hw0]; exact heap_alloc_new _ _
  have hi0 : Inv cb (ob s0) w0 := by rw [hw0]; exact HI.out.oth _
  have ho0 : Oth cb w w0 := by rw [hw0]; exact Oth.alloc1 _ _ _
  have hxb : w.heap.size ≠ cb := by omega
  have c0 : w0.cell? ⟨w.heap.size, 0, none⟩ = some (.iface T0 u0) := (cell_of_blk hb0 0).trans rfl
  have c1 : w0.cell? ⟨w.heap.size, 1, none⟩ = some (.iface T1 u1) := (cell_of_blk hb0 1).trans rfl
  have hcb0 : cb < w0.heap.size := Nat.lt_of_lt_of_le hcb ho0.size
  have HI0 := hide hi0
  have HO0 := hide ho0
  clear hw0 hb0 hi0 ho0
  go_region_held3 (fun w' => w'.cell? ⟨w.heap.size, 0, none⟩ = some (.iface T0 u0) ∧ w'.cell? ⟨w.heap.size, 1, none⟩ = some (.iface T1 u1)) (go_keep)
    (first
      | (go_at_call_of 30 u0; refine Calls.mono (H0.out _ hcb0 HI0.out.drew) ?_; rintro e w1 ⟨rfl, hi, ho⟩; have hcb1 : cb < w1.heap.size := Nat.lt_of_lt_of_le hcb0 ho.size; have HI1 := hide hi; have HO1 := hide ho; clear hi ho; have c0_1 := HO1.out.cell hxb c0; have c1_1 := HO1.out.cell hxb c1)
      | (go_at_call_of 30 u1; refine Calls.mono (H1.out _ hcb1 HI1.out) ?_; rintro e w2 ⟨rfl, hi, ho⟩; have hcb2 : cb < w2.heap.size := Nat.lt_of_lt_of_le hcb1 ho.size; have HI2 := hide hi; have HO2 := hide ho; clear hi ho; have c0_2 := HO2.out.cell hxb c0_1; have c1_2 := HO2.out.cell hxb c1_1))
  go_wp2_with fail
  go_ret
  exact ⟨rfl, HI2.out, ((HO0.out.trans (Oth.drew1 cb w0)).trans HO1.out).trans HO2.out⟩

theorem with_num (s0 : σ) (d : Nat) (n : Int) : ∀ (w : World), cb < w.heap.size → Inv cb (ob s0) w → Calls Try.prog 30 #[.iface 125 (.agg #[.int .i64 n]), .int .i64 (d : Int), .func (.func fid) #[] cap] w fun e w' => e = .returned (.iface 125 (.agg #[.int .i64 n])) ∧ Inv cb (ob s0) w' ∧ Oth cb w w' := by
  intro w hcb hinv
  have HI := hide hinv
  clear hinv
  have a_var := as_num_var
  have a_lam := as_num_lam
  have a_app := as_num_app
  have a_add := as_num_add
  have a_if := as_num_if
  have a_let := as_num_let
  go_enter Try.func30, Try.ntmps30
  go_wp2_with fail
  go_ret
  exact ⟨rfl, HI.out, Oth.refl _ _⟩

set_option maxRecDepth 20000 in
set_option maxHeartbeats 2000000 in
theorem with_var (hfn : ∀ args w, (callFunc fid args).run Try.prog w = .ok (.enter fid args) w) (hch : ChgOK fid cap cb ob g st) (hlen : ∀ s n d, (g s n d).len = 1) (s0 : σ) (d : Nat) (hd : d ≤ 1048576) (n : Int) (h0 : 0 ≤ n) (h1 : n ≤ 99) :
    ∀ (w : World), cb < w.heap.size → Inv cb (ob s0) w → Calls Try.prog 30 #[.iface 69 (.agg #[.int .i64 n]), .int .i64 (d : Int), .func (.func fid) #[] cap] w fun e w' => e = .returned (pvT (g s0 n d)) ∧ Inv cb (ob (st s0 n d)) w' ∧ Oth cb w w' := by
  intro w hcb hinv
  have HI := hide hinv
  have HC := hide (fun w' => hch s0 n d w' h0 h1 hd)
  obtain ⟨T, u, hV⟩ := pvT_iface (hlen s0 n d)
  rw [hV] at HC ⊢
  clear hinv hV hch
  have a_var := as_var_var
  go_enter Try.func30, Try.ntmps30
  go_wp2_with fail
  refine Calls.mono (HC.out _ (by simp; omega) (HI.out.oth _)) ?_
  rintro e w2 ⟨rfl, hi2, ho2⟩
  go_wp2_with fail
  go_ret
  exact ⟨rfl, hi2, (Oth.alloc1 cb w _).trans ho2⟩

end
end Go.Proofs.Ytjmgnljjeogdlaa.W

/-
  The walk over a term's variables, whole: a contract of withVariables for any change of variables. Conditions: as the theorem states.
-/
namespace Go.Proofs.Ytjmgnljjeogdlaa.W
open Go.ChangeShapes Go.WideShapes Go.ChangeAt Go.RowKit
set_option linter.unusedVariables false

section
variable {σ : Type} (fid : FuncId) (cap : Array Value) (cb : Nat) (ob : σ → World → Prop) (g : σ → Int → Nat → F) (st : σ → Int → Nat → σ)
theorem ok_cons {x : Cc} {k r : F} (h : (F.cons x k r).ok) : goodC x = true ∧ k.len = ar x.k ∧ k.ok ∧ r.ok := h

theorem withVariables_any (hfn : ∀ args w, (callFunc fid args).run Try.prog w = .ok (.enter fid args) w) (hch : ChgOK fid cap cb ob g st) (hlen : ∀ s n d, (g s n d).len = 1) : ∀ k, WVGoal fid cap cb ob g st k := by
  apply F.rec_kids
  intro k ih x s d hg hk hko hd w hcb hinv
  have hl1 : ∀ (y : Cc) (ky : F) (s : σ) (d : Nat), (w1 g st d y ky s).1.len = 1 := fun y ky s d => wv_len hlen _ _ _ _ _
  have one : ∀ (y : Cc) (ky : F) (s : σ) (d : Nat), ∃ R q, pvT (w1 g st d y ky s).1 = .iface R q := fun y ky s d => pvT_iface (hl1 y ky s d)
  obtain ⟨xk, xn⟩ := x
  have hin := good_ar hg
  simp only [inB, Bool.and_eq_true, decide_eq_true_eq] at hin
  have hx : xk = 1 ∨ xk = 2 ∨ xk = 3 ∨ xk = 4 ∨ xk = 5 ∨ xk = 6 ∨ xk = 7 := by omega
  rcases hx with h | h | h | h | h | h | h
  · subst h
    rw [w1_var]
    have hn : 0 ≤ xn ∧ xn ≤ 99 := by simpa [goodC, inB] using hg
    exact with_var fid cap cb ob g st hfn hch hlen s d (by omega) xn hn.1 hn.2 w hcb hinv
  · subst h
    have hk0 : k = .nil := F.len_0 (by rw [hk]; rfl)
    subst hk0
    rw [w1_other _ _ _ _ _ _ (by simp)]
    exact with_num fid cap cb ob s d xn w hcb hinv
  · subst h
    obtain ⟨y0, k0, rfl⟩ := F.len_1 (show k.len = 1 by rw [hk]; rfl)
    obtain ⟨g0, l0, o0, r0⟩ := ok_cons hko
    have i0 := ih.1
    have hfl : d + ((1 + k0.flat.length)) ≤ 1048576 := by simp [F.flat] at hd; omega
    obtain ⟨R0, q0, e0⟩ := one y0 k0 s (d + 1)
    have c0 := i0 y0 s (d + 1) g0 l0 o0 (by omega)
    have f0 := hl1 y0 k0 s (d + 1)
    obtain ⟨T0, u0, v0⟩ := pv_iface y0.k y0.n (pvs k0)
    unfold WVC at c0
    rw [e0, v0] at c0
    rw [show ((d + 1 : Nat) : Int) = (d : Int) + 1 from rfl] at c0
    rw [w1_other _ _ _ _ _ _ (by simp)]
    have hp : pv 3 xn (pvs (F.cons y0 k0 (.nil))) = .iface 100 (.agg #[.iface T0 u0]) := by
      show pv 3 xn [pv y0.k y0.n (pvs k0)] = _
      rw [v0]
      rfl
    have hw : wv g st 3 d 0 (F.cons y0 k0 (.nil)) s = ((w1 g st (d + 1) y0 k0 s).1.app (.nil), (w1 g st (d + 1) y0 k0 s).2) := by simp [wv_step, wv_nil, binds]
    have hr : pvT (.cons ⟨3, xn⟩ ((w1 g st (d + 1) y0 k0 s).1.app (.nil)) .nil) = .iface 100 (.agg #[.iface R0 q0]) := by
      show pv 3 xn (pvs ((w1 g st (d + 1) y0 k0 s).1.app (.nil))) = _
      simp only [pvs_app, pvs_one f0, pvs]
      simp [pv, e0]
    rw [hw]
    simp only
    rw [hr, hp]
    exact with_lam fid cap cb ob s d (by omega) T0 u0 R0 q0 _ c0 w hcb hinv
  · subst h
    obtain ⟨y0, k0, y1, k1, rfl⟩ := F.len_2 (show k.len = 2 by rw [hk]; rfl)
    obtain ⟨g0, l0, o0, r0⟩ := ok_cons hko
    obtain ⟨g1, l1, o1, r1⟩ := ok_cons r0
    have i0 := ih.1
    have i1 := ih.2.1
    have hfl : d + ((1 + k0.flat.length) + (1 + k1.flat.length)) ≤ 1048576 := by simp [F.flat] at hd; omega
    obtain ⟨R0, q0, e0⟩ := one y0 k0 s d
    have c0 := i0 y0 s d g0 l0 o0 (by omega)
    have f0 := hl1 y0 k0 s d
    obtain ⟨R1, q1, e1⟩ := one y1 k1 (w1 g st d y0 k0 s).2 d
    have c1 := i1 y1 (w1 g st d y0 k0 s).2 d g1 l1 o1 (by omega)
    have f1 := hl1 y1 k1 (w1 g st d y0 k0 s).2 d
    obtain ⟨T0, u0, v0⟩ := pv_iface y0.k y0.n (pvs k0)
    unfold WVC at c0
    rw [e0, v0] at c0
    obtain ⟨T1, u1, v1⟩ := pv_iface y1.k y1.n (pvs k1)
    unfold WVC at c1
    rw [e1, v1] at c1
    rw [w1_other _ _ _ _ _ _ (by simp)]
    have hp : pv 4 xn (pvs (F.cons y0 k0 (F.cons y1 k1 (.nil)))) = .iface 102 (.agg #[.iface T0 u0, .iface T1 u1]) := by
      show pv 4 xn [pv y0.k y0.n (pvs k0), pv y1.k y1.n (pvs k1)] = _
      rw [v0, v1]
      rfl
    have hw : wv g st 4 d 0 (F.cons y0 k0 (F.cons y1 k1 (.nil))) s = ((w1 g st d y0 k0 s).1.app ((w1 g st d y1 k1 (w1 g st d y0 k0 s).2).1.app (.nil)), (w1 g st d y1 k1 (w1 g st d y0 k0 s).2).2) := by simp [wv_step, wv_nil, binds]
    have hr : pvT (.cons ⟨4, xn⟩ ((w1 g st d y0 k0 s).1.app ((w1 g st d y1 k1 (w1 g st d y0 k0 s).2).1.app (.nil))) .nil) = .iface 102 (.agg #[.iface R0 q0, .iface R1 q1]) := by
      show pv 4 xn (pvs ((w1 g st d y0 k0 s).1.app ((w1 g st d y1 k1 (w1 g st d y0 k0 s).2).1.app (.nil)))) = _
      simp only [pvs_app, pvs_one f0, pvs_one f1, pvs]
      simp [pv, e0, e1]
    rw [hw]
    simp only
    rw [hr, hp]
    exact with_app fid cap cb ob s d (by omega) T0 u0 R0 q0 _ T1 u1 R1 q1 _ c0 c1 w hcb hinv
  · subst h
    obtain ⟨y0, k0, y1, k1, rfl⟩ := F.len_2 (show k.len = 2 by rw [hk]; rfl)
    obtain ⟨g0, l0, o0, r0⟩ := ok_cons hko
    obtain ⟨g1, l1, o1, r1⟩ := ok_cons r0
    have i0 := ih.1
    have i1 := ih.2.1
    have hfl : d + ((1 + k0.flat.length) + (1 + k1.flat.length)) ≤ 1048576 := by simp [F.flat] at hd; omega
    obtain ⟨R0, q0, e0⟩ := one y0 k0 s d
    have c0 := i0 y0 s d g0 l0 o0 (by omega)
    have f0 := hl1 y0 k0 s d
    obtain ⟨R1, q1, e1⟩ := one y1 k1 (w1 g st d y0 k0 s).2 d
    have c1 := i1 y1 (w1 g st d y0 k0 s).2 d g1 l1 o1 (by omega)
    have f1 := hl1 y1 k1 (w1 g st d y0 k0 s).2 d
    obtain ⟨T0, u0, v0⟩ := pv_iface y0.k y0.n (pvs k0)
    unfold WVC at c0
    rw [e0, v0] at c0
    obtain ⟨T1, u1, v1⟩ := pv_iface y1.k y1.n (pvs k1)
    unfold WVC at c1
    rw [e1, v1] at c1
    rw [w1_other _ _ _ _ _ _ (by simp)]
    have hp : pv 5 xn (pvs (F.cons y0 k0 (F.cons y1 k1 (.nil)))) = .iface 104 (.agg #[.iface T0 u0, .iface T1 u1]) := by
      show pv 5 xn [pv y0.k y0.n (pvs k0), pv y1.k y1.n (pvs k1)] = _
      rw [v0, v1]
      rfl
    have hw : wv g st 5 d 0 (F.cons y0 k0 (F.cons y1 k1 (.nil))) s = ((w1 g st d y0 k0 s).1.app ((w1 g st d y1 k1 (w1 g st d y0 k0 s).2).1.app (.nil)), (w1 g st d y1 k1 (w1 g st d y0 k0 s).2).2) := by simp [wv_step, wv_nil, binds]
    have hr : pvT (.cons ⟨5, xn⟩ ((w1 g st d y0 k0 s).1.app ((w1 g st d y1 k1 (w1 g st d y0 k0 s).2).1.app (.nil))) .nil) = .iface 104 (.agg #[.iface R0 q0, .iface R1 q1]) := by
      show pv 5 xn (pvs ((w1 g st d y0 k0 s).1.app ((w1 g st d y1 k1 (w1 g st d y0 k0 s).2).1.app (.nil)))) = _
      simp only [pvs_app, pvs_one f0, pvs_one f1, pvs]
      simp [pv, e0, e1]
    rw [hw]
    simp only
    rw [hr, hp]
    exact with_add fid cap cb ob s d (by omega) T0 u0 R0 q0 _ T1 u1 R1 q1 _ c0 c1 w hcb hinv
  · subst h
    obtain ⟨y0, k0, y1, k1, y2, k2, rfl⟩ := F.len_3 (show k.len = 3 by rw [hk]; rfl)
    obtain ⟨g0, l0, o0, r0⟩ := ok_cons hko
    obtain ⟨g1, l1, o1, r1⟩ := ok_cons r0
    obtain ⟨g2, l2, o2, r2⟩ := ok_cons r1
    have i0 := ih.1
    have i1 := ih.2.1
    have i2 := ih.2.2.1
    have hfl : d + ((1 + k0.flat.length) + (1 + k1.flat.length) + (1 + k2.flat.length)) ≤ 1048576 := by simp [F.flat] at hd; omega
    obtain ⟨R0, q0, e0⟩ := one y0 k0 s d
    have c0 := i0 y0 s d g0 l0 o0 (by omega)
    have f0 := hl1 y0 k0 s d
    obtain ⟨R1, q1, e1⟩ := one y1 k1 (w1 g st d y0 k0 s).2 d
    have c1 := i1 y1 (w1 g st d y0 k0 s).2 d g1 l1 o1 (by omega)
    have f1 := hl1 y1 k1 (w1 g st d y0 k0 s).2 d
    obtain ⟨R2, q2, e2⟩ := one y2 k2 (w1 g st d y1 k1 (w1 g st d y0 k0 s).2).2 d
    have c2 := i2 y2 (w1 g st d y1 k1 (w1 g st d y0 k0 s).2).2 d g2 l2 o2 (by omega)
    have f2 := hl1 y2 k2 (w1 g st d y1 k1 (w1 g st d y0 k0 s).2).2 d
    obtain ⟨T0, u0, v0⟩ := pv_iface y0.k y0.n (pvs k0)
    unfold WVC at c0
    rw [e0, v0] at c0
    obtain ⟨T1, u1, v1⟩ := pv_iface y1.k y1.n (pvs k1)
    unfold WVC at c1
    rw [e1, v1] at c1
    obtain ⟨T2, u2, v2⟩ := pv_iface y2.k y2.n (pvs k2)
    unfold WVC at c2
    rw [e2, v2] at c2
    rw [w1_other _ _ _ _ _ _ (by simp)]
    have hp : pv 6 xn (pvs (F.cons y0 k0 (F.cons y1 k1 (F.cons y2 k2 (.nil))))) = .iface 106 (.agg #[.iface T0 u0, .iface T1 u1, .iface T2 u2]) := by
      show pv 6 xn [pv y0.k y0.n (pvs k0), pv y1.k y1.n (pvs k1), pv y2.k y2.n (pvs k2)] = _
      rw [v0, v1, v2]
      rfl
    have hw : wv g st 6 d 0 (F.cons y0 k0 (F.cons y1 k1 (F.cons y2 k2 (.nil)))) s = ((w1 g st d y0 k0 s).1.app ((w1 g st d y1 k1 (w1 g st d y0 k0 s).2).1.app ((w1 g st d y2 k2 (w1 g st d y1 k1 (w1 g st d y0 k0 s).2).2).1.app (.nil))), (w1 g st d y2 k2 (w1 g st d y1 k1 (w1 g st d y0 k0 s).2).2).2) := by simp [wv_step, wv_nil, binds]
    have hr : pvT (.cons ⟨6, xn⟩ ((w1 g st d y0 k0 s).1.app ((w1 g st d y1 k1 (w1 g st d y0 k0 s).2).1.app ((w1 g st d y2 k2 (w1 g st d y1 k1 (w1 g st d y0 k0 s).2).2).1.app (.nil)))) .nil) = .iface 106 (.agg #[.iface R0 q0, .iface R1 q1, .iface R2 q2]) := by
      show pv 6 xn (pvs ((w1 g st d y0 k0 s).1.app ((w1 g st d y1 k1 (w1 g st d y0 k0 s).2).1.app ((w1 g st d y2 k2 (w1 g st d y1 k1 (w1 g st d y0 k0 s).2).2).1.app (.nil))))) = _
      simp only [pvs_app, pvs_one f0, pvs_one f1, pvs_one f2, pvs]
      simp [pv, e0, e1, e2]
    rw [hw]
    simp only
    rw [hr, hp]
    exact with_if fid cap cb ob s d (by omega) T0 u0 R0 q0 _ T1 u1 R1 q1 _ T2 u2 R2 q2 _ c0 c1 c2 w hcb hinv
  · subst h
    obtain ⟨y0, k0, y1, k1, rfl⟩ := F.len_2 (show k.len = 2 by rw [hk]; rfl)
    obtain ⟨g0, l0, o0, r0⟩ := ok_cons hko
    obtain ⟨g1, l1, o1, r1⟩ := ok_cons r0
    have i0 := ih.1
    have i1 := ih.2.1
    have hfl : d + ((1 + k0.flat.length) + (1 + k1.flat.length)) ≤ 1048576 := by simp [F.flat] at hd; omega
    obtain ⟨R0, q0, e0⟩ := one y0 k0 s d
    have c0 := i0 y0 s d g0 l0 o0 (by omega)
    have f0 := hl1 y0 k0 s d
    obtain ⟨R1, q1, e1⟩ := one y1 k1 (w1 g st d y0 k0 s).2 (d + 1)
    have c1 := i1 y1 (w1 g st d y0 k0 s).2 (d + 1) g1 l1 o1 (by omega)
    have f1 := hl1 y1 k1 (w1 g st d y0 k0 s).2 (d + 1)
    obtain ⟨T0, u0, v0⟩ := pv_iface y0.k y0.n (pvs k0)
    unfold WVC at c0
    rw [e0, v0] at c0
    obtain ⟨T1, u1, v1⟩ := pv_iface y1.k y1.n (pvs k1)
    unfold WVC at c1
    rw [e1, v1] at c1
    rw [show ((d + 1 : Nat) : Int) = (d : Int) + 1 from rfl] at c1
    rw [w1_other _ _ _ _ _ _ (by simp)]
    have hp : pv 7 xn (pvs (F.cons y0 k0 (F.cons y1 k1 (.nil)))) = .iface 108 (.agg #[.iface T0 u0, .iface T1 u1]) := by
      show pv 7 xn [pv y0.k y0.n (pvs k0), pv y1.k y1.n (pvs k1)] = _
      rw [v0, v1]
      rfl
    have hw : wv g st 7 d 0 (F.cons y0 k0 (F.cons y1 k1 (.nil))) s = ((w1 g st d y0 k0 s).1.app ((w1 g st (d + 1) y1 k1 (w1 g st d y0 k0 s).2).1.app (.nil)), (w1 g st (d + 1) y1 k1 (w1 g st d y0 k0 s).2).2) := by simp [wv_step, wv_nil, binds]
    have hr : pvT (.cons ⟨7, xn⟩ ((w1 g st d y0 k0 s).1.app ((w1 g st (d + 1) y1 k1 (w1 g st d y0 k0 s).2).1.app (.nil))) .nil) = .iface 108 (.agg #[.iface R0 q0, .iface R1 q1]) := by
      show pv 7 xn (pvs ((w1 g st d y0 k0 s).1.app ((w1 g st (d + 1) y1 k1 (w1 g st d y0 k0 s).2).1.app (.nil)))) = _
      simp only [pvs_app, pvs_one f0, pvs_one f1, pvs]
      simp [pv, e0, e1]
    rw [hw]
    simp only
    rw [hr, hp]
    exact with_let fid cap cb ob s d (by omega) T0 u0 R0 q0 _ T1 u1 R1 q1 _ c0 c1 w hcb hinv
end
end Go.Proofs.Ytjmgnljjeogdlaa.W

/-
  The variables that are bound nowhere, by the specification: contracts of l1Put, l3Binds, l3Free and FreeIn. Conditions: at most 1048576 cells.
-/
namespace Go.Proofs.Ytjmgnljjeogdlaa.W
open Go.ChangeShapes Go.WideShapes Go.ChangeAt Go.RowKit
set_option linter.unusedVariables false

/-- A slice of numbers that fills its block from the front, or none. -/
def IS (w : World) (s : Value) (l : List Int) : Prop :=
  (s = .slice none 0 0 ∧ l = []) ∨ ∃ g c, s = .slice (some ⟨g, 0, none⟩) l.length c ∧ l.length ≤ c ∧ g < w.heap.size ∧ ∀ i (h : i < l.length), w.cell? ⟨g, i, none⟩ = some (.int .i64 l[i])
theorem IS.below {w w' : World} {s : Value} {l : List Int} (h : IS w s l) (hb : Below w.heap.size w w') : IS w' s l := by
  rcases h with h | ⟨g, c, h1, h2, h3, h4⟩
  · exact .inl h
  · exact .inr ⟨g, c, h1, h2, Nat.lt_of_lt_of_le h3 hb.size, fun i hi => (hb.cell (p := ⟨g, i, none⟩) h3).trans (h4 i hi)⟩
theorem IS.form {w : World} {s : Value} {l : List Int} (h : IS w s l) : ∃ ad c, s = .slice ad l.length c := by
  rcases h with ⟨h1, h2⟩ | ⟨g, c, h1, _⟩
  · exact ⟨none, 0, by rw [h1, h2]; rfl⟩
  · exact ⟨_, _, h1⟩

/-- Where a number goes in a rising list. -/
def putAt (l : List Int) (n : Int) : Nat := (l.takeWhile (· < n)).length
/-- A number put into a rising list. -/
def put (l : List Int) (n : Int) : List Int := if l[putAt l n]? = some n then l else l.take (putAt l n) ++ n :: l.drop (putAt l n)
theorem putAt_le (l : List Int) (n : Int) : putAt l n ≤ l.length := (List.takeWhile_sublist _).length_le
theorem putAt_lt (l : List Int) (n : Int) (i : Nat) (h : i < putAt l n) : l[i]'(Nat.lt_of_lt_of_le h (putAt_le l n)) < n := by
  have h1 : (l.takeWhile (· < n))[i]'h = l[i]'(Nat.lt_of_lt_of_le h (putAt_le l n)) := (List.takeWhile_prefix (p := (· < n)) (l := l)).getElem h
  have h2 : ∀ (l : List Int) x, x ∈ l.takeWhile (· < n) → x < n := by
    intro l
    induction l with
    | nil => intro x hx; cases hx
    | cons y l ih =>
      intro x hx
      by_cases hy : y < n
      · simp only [List.takeWhile_cons, hy, decide_true, if_true, List.mem_cons] at hx
        rcases hx with rfl | hx
        · exact hy
        · exact ih x hx
      · simp [hy] at hx
  have h3 := h2 l _ (List.getElem_mem (l := l.takeWhile (· < n)) h)
  rw [h1] at h3
  simpa using h3
theorem putAt_ge (l : List Int) (n : Int) (h : putAt l n < l.length) : ¬ l[putAt l n] < n := by
  unfold putAt at h ⊢
  induction l with
  | nil => simp at h
  | cons x l ih =>
    by_cases hx : x < n
    · simp only [List.takeWhile_cons, hx, decide_true, if_true, List.length_cons, List.getElem_cons_succ] at h ⊢
      exact ih (by omega)
    · simp [hx]
theorem putAt_is {l : List Int} {n : Int} {k : Nat} (hk : k ≤ l.length) (h1 : ∀ i (h : i < l.length), i < k → l[i] < n) (h2 : ∀ h : k < l.length, ¬ l[k] < n) : putAt l n = k := by
  rcases Nat.lt_trichotomy (putAt l n) k with h | h | h
  · exact absurd (h1 _ (by omega) h) (putAt_ge l n (by omega))
  · exact h
  · exact absurd (putAt_lt l n k h) (h2 (by have := putAt_le l n; omega))

theorem iOwn_form {w : World} {base n size : Nat} {e : TypeId} {v : Value} {xs : List Value} (h : w.ownsRow base e size v n xs) : ∃ ad c, v = .slice ad n c := by
  rcases h.2 with ⟨h1, h2⟩ | ⟨g, cap, cur, hv, _⟩
  · exact ⟨none, 0, by rw [h1, h2]⟩
  · exact ⟨_, _, hv⟩
theorem iAdd (g o j : Nat) : (⟨g, o, none⟩ : Addr).add j = ⟨g, o + j, none⟩ := by unfold Addr.add; split <;> simp_all
theorem iOne (l : List Int) : ∀ u ∈ l.map (Value.int .i64), u.oneCell' = true := by
  intro u hu
  obtain ⟨n, -, rfl⟩ := List.mem_map.1 hu
  rfl
theorem iOneT (l : List Int) (k : Nat) : ∀ u ∈ (l.map (Value.int .i64)).take k, u.oneCell' = true := fun u hu => iOne l u (List.mem_of_mem_take hu)
theorem iOneD (l : List Int) (k : Nat) : ∀ u ∈ (l.map (Value.int .i64)).drop k, u.oneCell' = true := fun u hu => iOne l u (List.mem_of_mem_drop hu)
theorem IS.ofOwn {w : World} {base : Nat} {e : TypeId} {v : Value} {l : List Int} (h : w.ownsRow base e 1 v l.length (l.map (Value.int .i64))) : IS w v l := by
  rcases h.2 with ⟨h1, h2⟩ | ⟨g, cap, cur, hv, hg, hh, h1, h2, h3, h4⟩
  · exact .inl ⟨h1, List.eq_nil_of_length_eq_zero h2⟩
  · refine .inr ⟨g, cap, hv, h1, (Array.getElem?_eq_some_iff.1 hh).1, fun i hi => ?_⟩
    have h5 : (cur.toList.take (l.length * 1))[i]? = some (.int .i64 l[i]) := by rw [h4]; simp [hi]
    rw [cell_of_blk hh, List.getElem?_take_of_lt (by omega)] at *
    simpa using h5

theorem infoInt : (Try.prog.info? 3).map (fun i => (i.zero, i.size, i.bytes)) = some (some (.int .i64 0), 1, 8) := by kernel_rfl

set_option maxHeartbeats 400000 in
theorem l3Binds_any (k : Int) (i : Nat) (w : World) :
    Calls Try.prog 80 #[.int .i64 k, .int .i64 (i : Int)] w fun e w' => e = .returned (.int .i64 (binds k i : Int)) ∧ w' = w := by
  go_enter Try.func80, Try.ntmps80
  go_wp2
  all_goals
    go_ret
    refine ⟨ret_int ?_, rfl⟩
    simp_all [binds]
  all_goals (try (split <;> omega))
end Go.Proofs.Ytjmgnljjeogdlaa.W

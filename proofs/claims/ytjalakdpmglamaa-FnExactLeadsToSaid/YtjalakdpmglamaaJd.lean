/-
  Some texts of this proof in one: TeZ, TeV.
-/
import Derived.Test.YtjalakdpmglamaaJc
import Derived.Test.YtjalakdpmglamaaJb
import Derived.Laws.AppendOwn
import Derived.ScopeJumps
import Derived.Outline
/-
  How many cells a term has: contracts of l3Size and of both SizeAt. Conditions: at most 1048576 cells.
-/
namespace Go.Proofs.Ytjalakdpmglamaa.W
open Go.ChangeShapes Go.WideShapes Go.ChangeAt Go.RowKit
set_option linter.unusedVariables false

/-- What holds of each kid's kids. -/
def F.all (Q : F → Prop) : F → Prop
  | .nil => True
  | .cons _ k r => Q k ∧ r.all Q
theorem F.all_app {Q : F → Prop} : ∀ {a b : F}, (a.app b).all Q ↔ a.all Q ∧ b.all Q
  | .nil, b => by simp [F.app, F.all]
  | .cons _ k r, b => by simp [F.app, F.all, F.all_app (a := r), and_assoc]
theorem F.all_of {Q : F → Prop} (h : ∀ a : F, a.all Q → Q a) : ∀ a : F, a.all Q
  | .nil => trivial
  | .cons _ k r => ⟨h k (F.all_of h k), F.all_of h r⟩
/-- A term from its kids on. -/
theorem F.rec_kids {Q : F → Prop} (h : ∀ a : F, a.all Q → Q a) (a : F) : Q a := h a (F.all_of h a)
theorem F.all_at {Q : F → Prop} {a k r : F} {x : Cc} (h : (a.app (.cons x k r)).all Q) : Q k := (F.all_app.1 h).2.1
theorem F.app_snoc (a k r : F) (x : Cc) : a.app (.cons x k r) = (a.app (.cons x k .nil)).app r := by rw [F.app_assoc]; rfl

def L3SGoal (k : F) : Prop := ∀ (x : Cc) (s : Value) (P : Nat → Prop) (w : World), k.flat.length ≤ 1048576 → KidT w P k s →
    Calls Try.prog 18 #[.agg #[.int .i64 x.k, .int .i64 x.n, s]] w fun e w' => e = .returned (.int .i64 ((k.flat.length + 1 : Nat) : Int)) ∧ Below w.heap.size w w'

set_option maxRecDepth 20000 in
set_option maxHeartbeats 2000000 in
theorem l3Size_any : ∀ k, L3SGoal k := by
  apply F.rec_kids
  intro k ih x s P w hfl hT
  have IH := hide ih
  have HT := hide hT
  obtain ⟨sad, sc, rfl⟩ := hT.form
  clear ih hT
  have hkl := F.len_flat k
  obtain ⟨KL, hKL⟩ : ∃ KL, KL = k.len := ⟨_, rfl⟩
  rw [← hKL] at HT hkl ⊢
  have HKL := hide hKL
  clear hKL
  go_enter Try.func18, Try.ntmps18
  go_wp2_with fail
  go_loopw [3, 9] (fun n3 i w' => ∃ d r : F, k = d.app r ∧ i = .int .i64 (d.len : Int) ∧ n3 = .int .i64 ((d.flat.length + 1 : Nat) : Int) ∧ Below w.heap.size w w') (fun _ i _ => KL - (intOf i).toNat)
  case atStart => exact ⟨.nil, k, rfl, rfl, rfl, (Below.refl _ _).alloc (Nat.le_refl _) _⟩
  case round =>
    obtain ⟨d, r, hk, rfl, rfl, hB⟩ := hrel
    cases r with
    | nil =>
      rw [F.app_nil] at hk
      subst hk
      have hKL := HKL.out
      rw [← hKL]
      clear hKL
      go_wp2_with fail
      go_ret
      exact ⟨rfl, hB⟩
    | cons y ky r =>
      have hkl2 : KL = d.len + (r.len + 1) := by rw [HKL.out, hk, F.app_len]; rfl
      have hlt' : (d.len : Int) < (KL : Int) := by omega
      have hfk : k.flat.length = d.flat.length + (1 + ky.flat.length + r.flat.length) := by rw [hk, F.app_flat]; simp [F.flat]; omega
      have hK := HT.out
      have hI := IH.out
      rw [hk] at hK hI
      obtain ⟨g, cap, sy, he, hP, hg, hTy, p0, p1, p2⟩ := hK.kid
      simp only [Value.slice.injEq] at he
      obtain ⟨rfl, -, rfl⟩ := he
      have q0 := (hB.cell (p := ⟨g, d.len * 3, none⟩) hg).trans p0
      have q1 := (hB.cell (p := ⟨g, d.len * 3 + 1, none⟩) hg).trans p1
      have q2 := (hB.cell (p := ⟨g, d.len * 3 + 2, none⟩) hg).trans p2
      have HC := hide (fun (w' : World) (hw' : Below w.heap.size w w') => F.all_at hI y sy P w' (by omega) (hTy.below hw'))
      obtain ⟨yad, yc, rfl⟩ := hTy.form
      have hsn := F.app_snoc d ky r y
      have hdl : (d.app (.cons y ky .nil)).len = d.len + 1 := by rw [F.app_len]; rfl
      have hdf : (d.app (.cons y ky .nil)).flat.length = d.flat.length + (ky.flat.length + 1) := by rw [F.app_flat]; simp [F.flat]
      have HSn := hide (hk.trans hsn)
      have HDl := hide hdl
      have HDf := hide hdf
      have Hk := hide hk
      clear p0 p1 p2 hTy hK hI hsn hdl hdf hk
      obtain ⟨dl, hdl⟩ : ∃ dl, dl = d.len := ⟨_, rfl⟩
      obtain ⟨df, hdf⟩ : ∃ df, df = d.flat.length := ⟨_, rfl⟩
      obtain ⟨kf, hkf⟩ : ∃ kf, kf = ky.flat.length := ⟨_, rfl⟩
      obtain ⟨kn, hkn⟩ : ∃ kn, kn = ky.len := ⟨_, rfl⟩
      rw [← hdl] at hlt' q0 q1 q2 HDl hkl2 ⊢
      rw [← hdf] at HDf hfk ⊢
      rw [← hkf] at HDf HC hfk
      rw [← hkn] at HC q2
      have HKl2 := hide hkl2
      clear hdl hdf hkf hkn hkl2
      have hfk2 : df + 1 + (kf + 1) ≤ 1048577 := by omega
      have HFk := hide hfk
      clear hfk
      go_wp2_with fail
      refine Calls.mono (HC.out _ (hB.alloc hB.size _)) ?_
      rintro e w2 ⟨rfl, hb2⟩
      have hB2 : Below w.heap.size w w2 := (hB.alloc hB.size _).trans (hb2.mono (by have := hB.size; simp; omega))
      clear hb2 HC q0 q1 q2
      go_wp2_with fail
      have hkl2 := HKl2.out
      exact ⟨⟨d.app (.cons y ky .nil), r, HSn.out, by rw [HDl.out]; go_num, by rw [HDf.out]; go_num, hB2⟩, by simp [intOf]; omega⟩

/-- How many cells the term at a place has. -/
def szT (l : List Cc) (p : Int) : Option Nat := if goodT l = true ∧ 0 ≤ p ∧ p < l.length then sz (l.drop p.toNat) 1 0 else none

theorem szT_within {l : List Cc} (hg : goodT l = true) {q : Nat} (hq : q < l.length) : ∃ x k r, rt 1 (l.drop q) = some (.cons x k .nil, r) ∧ szT l (q : Int) = some (k.flat.length + 1) ∧ k.flat.length < l.length := by
  unfold goodT at hg
  cases ht : treeT l with
  | none => rw [ht] at hg; cases hg
  | some a =>
    obtain ⟨h1, h2, h3, h4, h5⟩ := treeT_flat ht
    obtain ⟨b, r, hr⟩ := rt_within a [] q h2 (by rw [← h1]; exact hq)
    rw [List.append_nil, ← h1] at hr
    obtain ⟨e, o, n⟩ := rt_flat hr
    obtain ⟨x, k, rfl⟩ := F.len_1 n
    refine ⟨x, k, r, hr, ?_, ?_⟩
    · unfold szT
      rw [if_pos ⟨by unfold goodT; rw [ht]; rfl, by omega, by omega⟩, Int.toNat_natCast, sz_rd, hr]
      simp [F.flat]
    · have := congrArg List.length e
      simp [F.flat] at this
      omega
end Go.Proofs.Ytjalakdpmglamaa.W

/-
  Terms as the program's parts: values behind an interface. Contracts of partAhead and partOf. Conditions: at most 1048576 cells.
-/
namespace Go.Proofs.Ytjalakdpmglamaa.W
open Go.ChangeShapes Go.WideShapes Go.ChangeAt Go.RowKit
set_option linter.unusedVariables false

def pv (k n : Int) (vs : List Value) : Value :=
  if k = 1 then .iface 84 (.agg #[.int .i64 n])
  else if k = 3 then .iface 90 (.agg #[vs.getD 0 .nilIface])
  else if k = 4 then .iface 92 (.agg #[vs.getD 0 .nilIface, vs.getD 1 .nilIface])
  else if k = 5 then .iface 94 (.agg #[vs.getD 0 .nilIface, vs.getD 1 .nilIface])
  else if k = 6 then .iface 96 (.agg #[vs.getD 0 .nilIface, vs.getD 1 .nilIface, vs.getD 2 .nilIface])
  else if k = 7 then .iface 98 (.agg #[vs.getD 0 .nilIface, vs.getD 1 .nilIface])
  else .iface 101 (.agg #[.int .i64 n])
/-- Terms as parts. -/
def pvs : F → List Value
  | .nil => []
  | .cons x k r => pv x.k x.n (pvs k) :: pvs r

/-- A row of cells that lies in block b, or none. -/
def CRowB (w : World) (b : Nat) (ad : Option Addr) (l : List Cc) : Prop := l = [] ∨ ∃ o, ad = some ⟨b, o, none⟩ ∧ CRowAt w b o l
theorem CRowB.row {w : World} {b : Nat} {ad : Option Addr} {l : List Cc} (h : CRowB w b ad l) : CRow w ad l := by
  rcases h with h | ⟨o, h1, h2⟩
  · exact .inl h
  · exact .inr ⟨b, o, h1, h2⟩
theorem CRowB.turn {w w' : World} {b : Nat} {ad : Option Addr} {l : List Cc} (h : CRowB w b ad l) (he : w'.heap[b]? = w.heap[b]?) : CRowB w' b ad l := by
  rcases h with h | ⟨o, h1, h2, h3⟩
  · exact .inl h
  · refine .inr ⟨o, h1, ?_, fun i hi => ?_⟩
    · rw [Array.getElem?_eq_getElem h2] at he
      exact (Array.getElem?_eq_some_iff.1 he).1
    · obtain ⟨c0, c1⟩ := h3 i hi
      exact ⟨(World.cell?_of_block (a := ⟨b, o + i * 2, none⟩) he).trans c0, (World.cell?_of_block (a := ⟨b, o + i * 2 + 1, none⟩) he).trans c1⟩
theorem CRowB.of {w : World} {ad : Option Addr} {l : List Cc} (h : CRow w ad l) : ∃ b, CRowB w b ad l := by
  rcases h with h | ⟨b, o, h1, h2⟩
  · exact ⟨0, .inl h⟩
  · exact ⟨b, .inr ⟨o, h1, h2⟩⟩

theorem len_two {l : List Value} (h : l.length = 2) : ∃ a b, l = [a, b] := by
  match l, h with
  | [a, b], _ => exact ⟨a, b, rfl⟩
theorem len_three {l : List Value} (h : l.length = 3) : ∃ a b c, l = [a, b, c] := by
  match l, h with
  | [a, b, c], _ => exact ⟨a, b, c, rfl⟩

def PAGoal (k : F) : Prop := ∀ (x : Cc) (r : List Cc) (b : Nat) (ad : Option Addr) (c : Nat) (w : World), goodC x = true → k.len = ar x.k → k.ok → (x :: (k.flat ++ r)).length ≤ 1048576 → (x :: (k.flat ++ r)).length ≤ c → CRowB w b ad (x :: (k.flat ++ r)) →
    Calls Try.prog 52 #[.slice ad (x :: (k.flat ++ r)).length c] w fun e w' => ∃ ad' c', e = .returned (.tuple #[pv x.k x.n (pvs k), .slice ad' r.length c']) ∧ r.length ≤ c' ∧ CRowB w' b ad' r ∧ Below w.heap.size w w'

theorem pv_iface (k n : Int) (vs : List Value) : ∃ T v, pv k n vs = .iface T v := by
  unfold pv
  repeat (first | exact ⟨_, _, rfl⟩ | split)
theorem pvs_len : ∀ a : F, (pvs a).length = a.len
  | .nil => rfl
  | .cons _ _ r => by simp [pvs, F.len, pvs_len r]
theorem pvs_app : ∀ a b : F, pvs (a.app b) = pvs a ++ pvs b
  | .nil, b => rfl
  | .cons _ _ r, b => by simp [pvs, F.app, pvs_app r b]
theorem pvs_iface : ∀ (a : F), ∀ v ∈ pvs a, ∃ T u, v = .iface T u
  | .nil, v, h => by cases h
  | .cons x k r, v, h => by
    rcases List.mem_cons.1 h with rfl | h
    · exact pv_iface _ _ _
    · exact pvs_iface r v h
/-- The first values of an array of parts. -/
def Fst (cur : Array Value) (vs : List Value) : Prop := cur.size = 3 ∧ (∀ (j : Nat) v, vs[j]? = some v → cur[j]? = some v) ∧ ∀ (j : Nat) v, cur[j]? = some v → v = .nilIface ∨ ∃ T u, v = .iface T u
theorem Fst.snoc {cur : Array Value} {vs : List Value} {T : TypeId} {u : Value} (h : Fst cur vs) (hl : vs.length < 3) : Fst (cur.setIfInBounds vs.length (.iface T u)) (vs ++ [.iface T u]) := by
  refine ⟨by simp [h.1], fun j v hj => ?_, fun j v hj => ?_⟩
  · rw [Array.getElem?_setIfInBounds]
    by_cases e : vs.length = j
    · subst e
      rw [if_pos rfl, if_pos (by rw [h.1]; exact hl)]
      simpa using hj
    · rw [if_neg e]
      refine h.2.1 j v ?_
      by_cases hj2 : j < vs.length
      · rw [List.getElem?_append_left hj2] at hj; exact hj
      · rw [List.getElem?_append_right (by omega)] at hj
        have : ([Value.iface T u] : List Value)[j - vs.length]? = none := by
          rw [List.getElem?_eq_none]; simp; omega
        rw [this] at hj; cases hj
  · rw [Array.getElem?_setIfInBounds] at hj
    by_cases e : vs.length = j
    · subst e
      rw [if_pos rfl] at hj
      split at hj
      · simp only [Option.some.injEq] at hj; exact .inr ⟨T, u, hj.symm⟩
      · cases hj
    · rw [if_neg e] at hj; exact h.2.2 j v hj
theorem Fst.get {cur : Array Value} {vs : List Value} (h : Fst cur vs) {j : Nat} (hj : j < 3) : ∃ v, cur[j]? = some v ∧ (v = .nilIface ∨ ∃ T u, v = .iface T u) := by
  obtain ⟨v, hv⟩ : ∃ v, cur[j]? = some v := ⟨_, Array.getElem?_eq_getElem (by rw [h.1]; exact hj)⟩
  exact ⟨v, hv, h.2.2 j v hv⟩

set_option maxRecDepth 20000 in
set_option maxHeartbeats 2000000 in
theorem partAhead_any : ∀ k, PAGoal k := by
  apply F.rec_kids
  intro k ih x r b ad c w hg hk hko hl hc hR
  have IH := hide ih
  have HR := hide hR
  have HKO := hide hko
  clear ih hko
  obtain ⟨o, rfl, hb, hrow⟩ : ∃ o, ad = some ⟨b, o, none⟩ ∧ CRowAt w b o (x :: (k.flat ++ r)) := by
    rcases hR with h | h
    · cases h
    · exact h
  obtain ⟨p0, p1⟩ := hrow 0 (by simp)
  have HR0 : Hid (CRowAt w b o (x :: (k.flat ++ r))) := hide ⟨hb, hrow⟩
  clear hrow
  simp only [Nat.zero_mul, Nat.add_zero, List.getElem_cons_zero] at p0 p1
  obtain ⟨L, hL⟩ : ∃ L, L = (x :: (k.flat ++ r)).length := ⟨_, rfl⟩
  rw [← hL] at hl hc ⊢
  have hL1 : (1 : Int) ≤ (L : Int) := by simp at hL; omega
  have hLc : (L : Int) ≤ (c : Int) := by omega
  have h0L : (0 : Int) < (L : Int) := by omega
  have h1c : (1 : Int) ≤ (c : Int) := by omega
  have HL := hide hL
  clear hL hR
  have hak := ar_le x.k
  have hrow1 : ∃ ad1, ((c = 1 ∧ ad1 = some ⟨b, o, none⟩) ∨ (c ≠ 1 ∧ ad1 = some ⟨b, o + 2, none⟩)) ∧ CRowB w b ad1 (k.flat ++ r) := by
    by_cases h1 : c = 1
    · refine ⟨_, .inl ⟨h1, rfl⟩, .inl ?_⟩
      have h2 := HL.out
      rw [List.length_cons] at h2
      exact List.eq_nil_of_length_eq_zero (by omega)
    · refine ⟨_, .inr ⟨h1, rfl⟩, ?_⟩
      exact .inr ⟨_, rfl, by simpa using HR0.out.drop 1⟩
  obtain ⟨ad1, had1, hrow1⟩ := hrow1
  have HRow1 := hide hrow1
  clear hrow1
  have hLk : L = k.flat.length + r.length + 1 := by rw [HL.out]; simp
  have HLk := hide hLk
  clear hLk
  have HG := hide hg
  have HK := hide hk
  clear hg
  obtain ⟨A0, hA0⟩ : ∃ A0, A0 = ar x.k := ⟨_, rfl⟩
  rw [← hA0] at hak hk
  have HA := hide hA0
  clear hA0
  obtain ⟨xk, xn⟩ := x
  simp only at *
  rcases had1 with ⟨hc1, had1⟩ | ⟨hc1, had1⟩
  · subst hc1 had1
    have hL0 := HLk.out
    have hr0 : r = [] := List.eq_nil_of_length_eq_zero (by omega)
    have hk0 : k = .nil := F.len_0 (by have := F.len_flat k; omega)
    have hL1' : L = 1 := by omega
    have hA0 : A0 = 0 := by rw [← hk, hk0]; rfl
    have hA := HA.out
    have hin := good_ar HG.out
    simp only [inB, Bool.and_eq_true, decide_eq_true_eq] at hin
    have hx : xk = 1 ∨ xk = 2 := by
      rw [hA0] at hA
      have hx : xk = 1 ∨ xk = 2 ∨ xk = 3 ∨ xk = 4 ∨ xk = 5 ∨ xk = 6 ∨ xk = 7 := by omega
      rcases hx with h | h | h | h | h | h | h
      · exact .inl h
      · exact .inr h
      all_goals (rw [h] at hA; simp [ar] at hA)
    have HC := hide (termsBehind_any xk)
    rw [← HA.out, hA0] at HC
    clear hA hL0 HL HLk HRow1
    subst hr0 hk0 hL1'
    go_enter Try.func52, Try.ntmps52
    go_wp2_with fail
    refine (HC.out _).mono ?_
    rintro e w1 ⟨rfl, hw1⟩
    have hB1 : Below w.heap.size w w1 := by rw [hw1]; exact (Below.refl _ _).alloc (Nat.le_refl _) _
    have q0 := (hB1.cell (p := ⟨b, o, none⟩) hb).trans p0
    have q1 := (hB1.cell (p := ⟨b, o + 1, none⟩) hb).trans p1
    clear hw1 p0 p1 HC
    go_wp2_with fail
    go_loopw [5, 14] (fun r5 i w' => r5 = .slice (some ⟨b, o, none⟩) 0 0 ∧ i = .int .i64 0 ∧ w' = w1) (fun _ _ _ => 0)
    case atStart => exact ⟨rfl, rfl, rfl⟩
    case round =>
      obtain ⟨rfl, rfl, rfl⟩ := hrel
      rcases hx with h | h
      · subst h
        go_wp2_with fail
        exact bodyPost_ret (v := .tuple #[.iface 84 (.agg #[.int .i64 xn]), .slice (some ⟨b, o, none⟩) 0 0]) (by simp [results, Try.results52, go_sem]) rfl ⟨some ⟨b, o, none⟩, 0, rfl, Nat.le_refl _, .inl rfl, hB1⟩
      · subst h
        go_wp2_with fail
        exact bodyPost_ret (v := .tuple #[.iface 101 (.agg #[.int .i64 xn]), .slice (some ⟨b, o, none⟩) 0 0]) (by simp [results, Try.results52, go_sem]) rfl ⟨some ⟨b, o, none⟩, 0, rfl, Nat.le_refl _, .inl rfl, hB1⟩
  · have hc1' : ¬ (c : Int) - 1 = 0 := by omega
    have hc1'' : ¬ c - 1 = 0 := by omega
    have hkr : k.flat.length + r.length = (k.flat ++ r).length := by simp
    have HC := hide (termsBehind_any xk)
    rw [← HA.out] at HC
    go_enter Try.func52, Try.ntmps52
    go_wp2_with fail
    rw [← had1]
    have HAd := hide had1
    clear had1
    refine (HC.out _).mono ?_
    rintro e w1 ⟨rfl, hw1⟩
    have hB1 : Below w.heap.size w w1 := by rw [hw1]; exact (Below.refl _ _).alloc (Nat.le_refl _) _
    have HP1 : Hid (w1.heap[w.heap.size]? = some (.cells #[.nilIface, .nilIface, .nilIface] 99)) := by rw [hw1]; exact heap_alloc_new _ _
    have HQ0 := hide p0
    have HQ1 := hide p1
    clear hw1 p0 p1 HC
    go_wp2_with fail
    go_loopw [5, 14] (fun r5 i w' => ∃ d s : F, k = d.app s ∧ i = .int .i64 (d.len : Int) ∧ (∃ ad' c', r5 = .slice ad' (s.flat ++ r).length c' ∧ (s.flat ++ r).length ≤ c' ∧ CRowB w b ad' (s.flat ++ r)) ∧ Below w.heap.size w w' ∧ ∃ cur : Array Value, w'.heap[w.heap.size]? = some (.cells cur 99 (0, 0)) ∧ Fst cur (pvs d)) (fun _ i _ => A0 - (intOf i).toNat)
    case atStart =>
      refine ⟨.nil, k, rfl, rfl, ⟨ad1, c - 1, ?_, ?_, HRow1.out⟩, hB1, _, HP1.out, rfl, by simp [pvs], fun j v hv => ?_⟩
      · have := HLk.out
        congr 1
        simp; omega
      · have := HLk.out
        simp; omega
      · rcases j with _ | _ | _ | j <;> simp at hv <;> exact .inl hv.symm
    case round =>
      obtain ⟨d, s, hks, rfl, ⟨ad', c', rfl, hc', hrow'⟩, hB, cur, hcur, hF⟩ := hrel
      clear HP1 hB1
      have HRow' := hide hrow'
      have HCur := hide hcur
      have HF := hide hF
      clear hrow' hcur hF
      cases s with
      | nil =>
        rw [F.app_nil] at hks
        subst hks
        have q0 := (hB.cell (p := ⟨b, o, none⟩) hb).trans HQ0.out
        have q1 := (hB.cell (p := ⟨b, o + 1, none⟩) hb).trans HQ1.out
        have hpl := pvs_len k
        have hdone : ¬ (k.len : Int) < (A0 : Int) := by omega
        have hin := good_ar HG.out
        simp only [inB, Bool.and_eq_true, decide_eq_true_eq] at hin
        have hA := HA.out
        rw [F.flat, List.nil_append] at hc' HRow' ⊢
        have HRow2 := hide (HRow'.out.turn (hB.block b hb))
        obtain ⟨RL, hRL⟩ : ∃ RL, RL = r.length := ⟨_, rfl⟩
        obtain ⟨ks, hks⟩ : ∃ ks, ks = k.len := ⟨_, rfl⟩
        rw [← hks] at hdone hk ⊢
        clear hks
        have hx : xk = 1 ∨ xk = 2 ∨ xk = 3 ∨ xk = 4 ∨ xk = 5 ∨ xk = 6 ∨ xk = 7 := by omega
        rcases hx with h | h | h | h | h | h | h
        · subst h
          have HPv : Hid (pv 1 xn (pvs k) = .iface 84 (.agg #[.int .i64 xn])) := hide rfl
          go_wp2_with fail
          exact bodyPost_ret (v := .tuple #[.iface 84 (.agg #[.int .i64 xn]), .slice ad' r.length c']) (by simp [results, Try.results52, go_sem]) rfl ⟨ad', c', by rw [HPv.out], hc', HRow2.out, hB⟩
        · subst h
          have HPv : Hid (pv 2 xn (pvs k) = .iface 101 (.agg #[.int .i64 xn])) := hide rfl
          go_wp2_with fail
          exact bodyPost_ret (v := .tuple #[.iface 101 (.agg #[.int .i64 xn]), .slice ad' r.length c']) (by simp [results, Try.results52, go_sem]) rfl ⟨ad', c', by rw [HPv.out], hc', HRow2.out, hB⟩
        · subst h
          obtain ⟨v0, hv⟩ := List.length_eq_one_iff.1 (show (pvs k).length = 1 by rw [hpl, HK.out]; rfl)
          obtain ⟨T0, u0, rfl⟩ := pvs_iface k v0 (by rw [hv]; simp)
          have c0 := (cell_of_blk HCur.out 0).trans (HF.out.2.1 0 _ (by rw [hv]; rfl))
          have HPv : Hid (pv 3 xn (pvs k) = .iface 90 (.agg #[.iface T0 u0])) := hide (by rw [hv]; rfl)
          clear hv
          go_wp2_with fail
          exact bodyPost_ret (v := .tuple #[.iface 90 (.agg #[.iface T0 u0]), .slice ad' r.length c']) (by simp [results, Try.results52, go_sem]) rfl ⟨ad', c', by rw [HPv.out], hc', HRow2.out, hB⟩
        · subst h
          obtain ⟨v0, v1, hv⟩ := len_two (show (pvs k).length = 2 by rw [hpl, HK.out]; rfl)
          obtain ⟨T0, u0, rfl⟩ := pvs_iface k v0 (by rw [hv]; simp)
          obtain ⟨T1, u1, rfl⟩ := pvs_iface k v1 (by rw [hv]; simp)
          have c0 := (cell_of_blk HCur.out 0).trans (HF.out.2.1 0 _ (by rw [hv]; rfl))
          have c1 := (cell_of_blk HCur.out 1).trans (HF.out.2.1 1 _ (by rw [hv]; rfl))
          have HPv : Hid (pv 4 xn (pvs k) = .iface 92 (.agg #[.iface T0 u0, .iface T1 u1])) := hide (by rw [hv]; rfl)
          clear hv
          go_wp2_with fail
          exact bodyPost_ret (v := .tuple #[.iface 92 (.agg #[.iface T0 u0, .iface T1 u1]), .slice ad' r.length c']) (by simp [results, Try.results52, go_sem]) rfl ⟨ad', c', by rw [HPv.out], hc', HRow2.out, hB⟩
        · subst h
          obtain ⟨v0, v1, hv⟩ := len_two (show (pvs k).length = 2 by rw [hpl, HK.out]; rfl)
          obtain ⟨T0, u0, rfl⟩ := pvs_iface k v0 (by rw [hv]; simp)
          obtain ⟨T1, u1, rfl⟩ := pvs_iface k v1 (by rw [hv]; simp)
          have c0 := (cell_of_blk HCur.out 0).trans (HF.out.2.1 0 _ (by rw [hv]; rfl))
          have c1 := (cell_of_blk HCur.out 1).trans (HF.out.2.1 1 _ (by rw [hv]; rfl))
          have HPv : Hid (pv 5 xn (pvs k) = .iface 94 (.agg #[.iface T0 u0, .iface T1 u1])) := hide (by rw [hv]; rfl)
          clear hv
          go_wp2_with fail
          exact bodyPost_ret (v := .tuple #[.iface 94 (.agg #[.iface T0 u0, .iface T1 u1]), .slice ad' r.length c']) (by simp [results, Try.results52, go_sem]) rfl ⟨ad', c', by rw [HPv.out], hc', HRow2.out, hB⟩
        · subst h
          obtain ⟨v0, v1, v2, hv⟩ := len_three (show (pvs k).length = 3 by rw [hpl, HK.out]; rfl)
          obtain ⟨T0, u0, rfl⟩ := pvs_iface k v0 (by rw [hv]; simp)
          obtain ⟨T1, u1, rfl⟩ := pvs_iface k v1 (by rw [hv]; simp)
          obtain ⟨T2, u2, rfl⟩ := pvs_iface k v2 (by rw [hv]; simp)
          have c0 := (cell_of_blk HCur.out 0).trans (HF.out.2.1 0 _ (by rw [hv]; rfl))
          have c1 := (cell_of_blk HCur.out 1).trans (HF.out.2.1 1 _ (by rw [hv]; rfl))
          have c2 := (cell_of_blk HCur.out 2).trans (HF.out.2.1 2 _ (by rw [hv]; rfl))
          have HPv : Hid (pv 6 xn (pvs k) = .iface 96 (.agg #[.iface T0 u0, .iface T1 u1, .iface T2 u2])) := hide (by rw [hv]; rfl)
          clear hv
          go_wp2_with fail
          exact bodyPost_ret (v := .tuple #[.iface 96 (.agg #[.iface T0 u0, .iface T1 u1, .iface T2 u2]), .slice ad' r.length c']) (by simp [results, Try.results52, go_sem]) rfl ⟨ad', c', by rw [HPv.out], hc', HRow2.out, hB⟩
        · subst h
          obtain ⟨v0, v1, hv⟩ := len_two (show (pvs k).length = 2 by rw [hpl, HK.out]; rfl)
          obtain ⟨T0, u0, rfl⟩ := pvs_iface k v0 (by rw [hv]; simp)
          obtain ⟨T1, u1, rfl⟩ := pvs_iface k v1 (by rw [hv]; simp)
          have c0 := (cell_of_blk HCur.out 0).trans (HF.out.2.1 0 _ (by rw [hv]; rfl))
          have c1 := (cell_of_blk HCur.out 1).trans (HF.out.2.1 1 _ (by rw [hv]; rfl))
          have HPv : Hid (pv 7 xn (pvs k) = .iface 98 (.agg #[.iface T0 u0, .iface T1 u1])) := hide (by rw [hv]; rfl)
          clear hv
          go_wp2_with fail
          exact bodyPost_ret (v := .tuple #[.iface 98 (.agg #[.iface T0 u0, .iface T1 u1]), .slice ad' r.length c']) (by simp [results, Try.results52, go_sem]) rfl ⟨ad', c', by rw [HPv.out], hc', HRow2.out, hB⟩
      | cons y ky s =>
        have hkl : k.len = d.len + (s.len + 1) := by rw [hks, F.app_len]; rfl
        have hlt' : (d.len : Int) < (A0 : Int) := by omega
        have hfl : (F.cons y ky s).flat ++ r = y :: (ky.flat ++ (s.flat ++ r)) := by simp [F.flat]
        rw [hfl] at hc' HRow' ⊢
        have hIH := IH.out
        have hKO := HKO.out
        rw [hks] at hIH hKO
        have hko := (F.app_ok _ _).1 hKO |>.2
        obtain ⟨k1, k2, k3, k4⟩ := hko
        have hlr : (y :: (ky.flat ++ (s.flat ++ r))).length ≤ 1048576 := by
          have h1 := HLk.out
          have h2 : k.flat.length = d.flat.length + (F.cons y ky s).flat.length := by rw [hks, F.app_flat]; simp
          have h3 := congrArg List.length hfl
          simp only [List.length_append] at h3
          omega
        have HCall := hide (F.all_at hIH y (s.flat ++ r) b ad' c' wr k1 k2 k3 hlr hc' (HRow'.out.turn (hB.block b hb)))
        obtain ⟨T, u, hV⟩ := pv_iface y.k y.n (pvs ky)
        rw [hV] at HCall
        have HKs := hide (hks.trans (F.app_snoc d ky s y))
        have HDl : Hid ((d.app (.cons y ky .nil)).len = d.len + 1) := hide (by rw [F.app_len]; rfl)
        have HPd : Hid (pvs (d.app (.cons y ky .nil)) = pvs d ++ [.iface T u]) := hide (by rw [pvs_app]; simp [pvs, hV])
        have HPl := hide (pvs_len d)
        have hd3 : (d.len : Int) < 3 := by omega
        have hd3' : d.len < 3 := by omega
        obtain ⟨LL, hLL⟩ : ∃ LL, LL = (y :: (ky.flat ++ (s.flat ++ r))).length := ⟨_, rfl⟩
        rw [← hLL] at HCall ⊢
        clear hfl hIH hKO k1 k2 k3 k4 hlr hV hks hLL hc'
        obtain ⟨dl, hdl⟩ : ∃ dl, dl = d.len := ⟨_, rfl⟩
        rw [← hdl] at hlt' hd3 hd3' HDl HPl hkl ⊢
        have HKl := hide hkl
        clear hdl hkl
        go_wp2_with fail
        refine Calls.mono HCall.out ?_
        rintro e w2 ⟨ad2, c2, rfl, hc2, hrow2, hb2⟩
        have hB2 : Below w.heap.size w w2 := hB.trans (hb2.mono hB.size)
        have HCur2 := hide ((hb2.block w.heap.size (Array.getElem?_eq_some_iff.1 HCur.out).1).trans HCur.out)
        obtain ⟨v0, hv0, -⟩ := HF.out.get hd3'
        have y0 := (cell_of_blk HCur2.out dl).trans hv0
        have fy := unfrozen_of_blk HCur2.out dl
        have HRow2 := hide hrow2
        clear hb2 HCall hv0 hrow2
        obtain ⟨RL, hRL⟩ : ∃ RL, RL = (s.flat ++ r).length := ⟨_, rfl⟩
        rw [← hRL]
        have HRL := hide hRL
        clear hRL
        go_wp2_with fail
        have hB3 : Below w.heap.size w (w2.setCell ⟨w.heap.size, dl, none⟩ (.iface T u)) := hB2.setCell (p := ⟨w.heap.size, dl, none⟩) (Nat.le_refl _) _
        refine ⟨⟨d.app (.cons y ky .nil), s, HKs.out, by rw [HDl.out]; go_num, ⟨ad2, c2, by rw [HRL.out], hc2, ?_⟩, hB3, _, blk_setCell HCur2.out _, ?_⟩, by simp [intOf]; omega⟩
        · exact HRow2.out.turn (hB2.block b hb).symm
        · rw [HPd.out, ← HPl.out]
          have h3 := HF.out.snoc (T := T) (u := u) (by rw [HPl.out]; exact hd3')
          exact h3

/-- A term as a part. -/
def pvT : F → Value
  | .nil => .nilIface
  | .cons x k _ => pv x.k x.n (pvs k)

set_option maxHeartbeats 1000000 in
theorem partOf_any (a : F) (ad : Option Addr) (c : Nat) (w : World) (ho : a.ok) (h1 : a.len = 1) (hl : a.flat.length ≤ 1048576) (hc : a.flat.length ≤ c) (hR : CRow w ad a.flat) :
    Calls Try.prog 48 #[.slice ad a.flat.length c] w fun e w' => e = .returned (pvT a) ∧ Below w.heap.size w w' := by
  obtain ⟨x, k, rfl⟩ := F.len_1 h1
  obtain ⟨o1, o2, o3, -⟩ := ho
  obtain ⟨b, hRB⟩ := CRowB.of hR
  have hf : (F.cons x k .nil).flat = x :: (k.flat ++ []) := rfl
  rw [hf] at hl hc hRB ⊢
  have HC := hide (partAhead_any k x [] b ad c w o1 o2 o3 hl hc hRB)
  show Calls _ _ _ _ fun e w' => e = .returned (pv x.k x.n (pvs k)) ∧ _
  obtain ⟨T, u, hV⟩ := pv_iface x.k x.n (pvs k)
  rw [hV] at HC ⊢
  obtain ⟨L, hL⟩ : ∃ L, L = (x :: (k.flat ++ [])).length := ⟨_, rfl⟩
  rw [← hL] at HC ⊢
  clear hL hf hl hc hRB hR hV
  go_enter Try.func48, Try.ntmps48
  go_wp2_with fail
  refine Calls.mono HC.out ?_
  rintro e w1 ⟨ad', c', rfl, -, -, hb1⟩
  go_wp2_with fail
  go_ret
  exact ⟨rfl, hb1⟩
end Go.Proofs.Ytjalakdpmglamaa.W

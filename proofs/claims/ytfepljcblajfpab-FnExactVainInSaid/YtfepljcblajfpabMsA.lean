/-
  Rows of patterns by the program: contracts of namesAny and withoutFirst. Conditions: rows that are not empty.
-/
import Derived.Test.YtfepljcblajfpabMsM
import Derived.Test.YtfepljcblajfpabQvL
import Derived.Deep.RegionHeld3
import Derived.Deep.RegionLaw
import Derived.Deep.AppendLies
import Derived.Deep.CutRange
import Derived.BigQuiet
namespace Go.Proofs.Ytfepljcblajfpab.W
open Go.ChangeShapes Go.WideShapes Go.ChangeAt Go.RowKit
set_option linter.unusedVariables false
set_option linter.unusedSimpArgs false

def namL : List Pt → Bool
  | [] => false
  | x :: _ => decide (x.kd = 2)
theorem namL_flat (b : F) : namL b.flat = nam1 b := by cases b <;> rfl
theorem any_flat (R : List F) : (R.map F.flat).any namL = R.any nam1 := by
  induction R with
  | nil => rfl
  | cons b R ih => rw [List.map_cons, List.any_cons, List.any_cons, ih, namL_flat]

/-- The first cell of a slice that is not empty. -/
theorem PV.head {w w' : World} {v : Value} {x : Pt} {l : List Pt} (h : PV w v (x :: l)) (hb : Below w.heap.size w w') : ∃ b o c, v = .slice (some ⟨b, o, none⟩) (l.length + 1) c ∧ b < w.heap.size ∧ l.length + 1 ≤ c ∧ w'.cell? ⟨b, o, none⟩ = some (.int .i64 x.kd) ∧ w'.cell? ⟨b, o + 1, none⟩ = some (.int .i64 x.con) := by
  obtain ⟨ad, c, rfl, hr, hc⟩ := h
  obtain ⟨b, o, rfl, hb', p0, p1⟩ := PtRow.tok hr hb (i := 0) (by simp)
  refine ⟨b, o, c, rfl, hb', hc, ?_, ?_⟩
  · simpa using p0
  · simpa using p1
/-- What is behind the first cell. -/
theorem PV.tail {w : World} {x : Pt} {l : List Pt} {b o c : Nat} (h : PV w (.slice (some ⟨b, o, none⟩) (l.length + 1) c) (x :: l)) (q : Nat) (hq : c = 1 ∨ q = o + 2) : PV w (.slice (some ⟨b, q, none⟩) l.length (c - 1)) l := by
  obtain ⟨ad, c', e, hr, hc⟩ := h
  simp only [Value.slice.injEq] at e
  obtain ⟨rfl, -, rfl⟩ := e
  simp only [List.length_cons] at hc
  refine ⟨_, _, rfl, ?_, by omega⟩
  by_cases hl : l = []
  · exact .inl hl
  · have hlp : 0 < l.length := List.length_pos_iff.2 hl
    obtain rfl : q = o + 2 := by omega
    rcases hr with hr | ⟨b1, o1, e1, hr⟩
    · simp at hr
    · simp only [Option.some.injEq, Addr.mk.injEq] at e1
      obtain ⟨rfl, rfl, -⟩ := e1
      refine .inr ⟨b, o + 2, rfl, hr.1, fun i hi r hrr => ?_⟩
      have := hr.2 (i + 1) (by simp; omega) r hrr
      rw [List.getElem_cons_succ] at this
      rw [← this]
      congr 2
      omega

set_option maxHeartbeats 1000000 in
theorem names1_any (v : Value) (x : Pt) (l : List Pt) (w : World) (h : PV w v (x :: l)) :
    Calls Try.prog 57 #[v] w fun e w' => e = .returned (.bool (namL (x :: l))) ∧ w' = w := by
  obtain ⟨b, o, c, rfl, hb, hc, p0, p1⟩ := h.head (Below.refl _ _)
  clear h
  have hpos : 0 < l.length + 1 := by omega
  have hpos' : (0 : Int) < ((l.length + 1 : Nat) : Int) := by omega
  obtain ⟨N, hN⟩ : ∃ N, N = l.length + 1 := ⟨_, rfl⟩
  rw [← hN] at hpos hpos' ⊢
  clear hN hc
  go_enter Try.func57, Try.ntmps57
  go_wp2_with fail
  go_ret
  refine ⟨ret_bool ?_, rfl⟩
  rw [Bool.eq_iff_iff]; simp [namL]

theorem any_at {L : List (List Pt)} {j : Nat} (h : j < L.length) : (L.drop j).any namL = (namL L[j] || (L.drop (j + 1)).any namL) := by
  rw [List.drop_eq_getElem_cons h]; rfl

set_option maxRecDepth 20000 in
set_option maxHeartbeats 2000000 in
theorem indexNames_any (v : Value) (L : List (List Pt)) (w : World) (hv : QV w v L) (hne : ∀ l ∈ L, l ≠ []) :
    Calls Try.prog 61 #[v, .func (.func 57) #[] #[]] w fun e w' => ∃ r : Int, e = .returned (.int .i64 r) ∧ L.any namL = decide (0 ≤ r) ∧ Below w.heap.size w w' := by
  obtain ⟨ad, c, rfl, hR, hs, hc⟩ := hv
  have HR := hide hR
  have HNe := hide hne
  have hl := hs.1
  clear hR hne hs
  go_enter Try.func61, Try.ntmps61
  go_wp2_with fail
  go_loopw [8] (fun i w' => ∃ j : Nat, j ≤ L.length ∧ i = .int .i64 j ∧ L.any namL = (L.drop j).any namL ∧ Below w.heap.size w w') (fun i _ => L.length - (intOf i).toNat)
  case atStart => exact ⟨0, by omega, rfl, rfl, Below.refl _ _⟩
  case round =>
    obtain ⟨j, hj, rfl, hG, hB⟩ := hrel
    have HG := hide hG
    clear hG
    by_cases hlt : j < L.length
    · have hlt' : (j : Int) < (L.length : Int) := by omega
      have HAt := hide (any_at hlt)
      obtain ⟨b, o, lv, rfl, hb, p0, pv⟩ := QRow.at HR.out hB hlt
      have hne := HNe.out L[j] (List.getElem_mem hlt)
      obtain ⟨x, l, hxl⟩ : ∃ x l, L[j] = x :: l := by
        cases h : L[j] with
        | nil => exact absurd h hne
        | cons x l => exact ⟨x, l, rfl⟩
      rw [hxl] at pv HAt
      have HC := hide (names1_any lv x l wr pv)
      obtain ⟨b1, o1, c1, rfl, -⟩ := pv.head (Below.refl _ _)
      obtain ⟨NL, hNL⟩ : ∃ NL, NL = namL (x :: l) := ⟨_, rfl⟩
      rw [← hNL] at HC HAt
      clear hNL hxl pv
      go_wp2_with fail
      refine Calls.mono HC.out ?_
      rintro e w2 ⟨rfl, hw⟩
      obtain rfl := hw.symm
      clear HC p0
      cases NL with
      | true =>
        have hg := hide (show L.any namL = true by rw [HG.out, HAt.out]; rfl)
        clear HG HAt
        go_wp2_with fail
        go_ret
        exact ⟨_, rfl, by rw [hg.out]; simp, hB⟩
      | false =>
        have hg := hide (show L.any namL = (L.drop (j + 1)).any namL by rw [HG.out, HAt.out]; rfl)
        clear HG HAt
        go_wp2_with fail
        exact ⟨⟨j + 1, by omega, by go_num, hg.out, hB⟩, by simp [intOf]; omega⟩
    · obtain rfl : j = L.length := by omega
      have hg := hide (show L.any namL = false by rw [HG.out, List.drop_length]; rfl)
      clear HG
      go_wp2_with fail
      go_ret
      exact ⟨_, rfl, by rw [hg.out]; rfl, hB⟩

set_option maxHeartbeats 1000000 in
theorem containsNames_any (v : Value) (L : List (List Pt)) (w : World) (hv : QV w v L) (hne : ∀ l ∈ L, l ≠ []) :
    Calls Try.prog 56 #[v, .func (.func 57) #[] #[]] w fun e w' => e = .returned (.bool (L.any namL)) ∧ Below w.heap.size w w' := by
  have HC := hide (indexNames_any v L w hv hne)
  obtain ⟨ad, c, rfl, -, -, -⟩ := hv
  obtain ⟨G, hG⟩ : ∃ G, G = L.any namL := ⟨_, rfl⟩
  rw [← hG] at HC ⊢
  clear hne hG
  go_enter Try.func56, Try.ntmps56
  go_wp2_with fail
  refine Calls.mono HC.out ?_
  rintro e w1 ⟨r, rfl, hr, hb⟩
  have Hr := hide hr
  clear hr HC
  go_wp2_with fail
  go_ret
  exact ⟨ret_bool (by rw [Hr.out]), hb⟩

set_option maxHeartbeats 1000000 in
theorem namesAny_any (v : Value) (L : List (List Pt)) (w : World) (hv : QV w v L) (hne : ∀ l ∈ L, l ≠ []) :
    Calls Try.prog 44 #[v] w fun e w' => e = .returned (.bool (L.any namL)) ∧ Below w.heap.size w w' := by
  have HC := hide (containsNames_any v L w hv hne)
  obtain ⟨ad, c, rfl, -, -, -⟩ := hv
  obtain ⟨G, hG⟩ : ∃ G, G = L.any namL := ⟨_, rfl⟩
  rw [← hG] at HC ⊢
  clear hne hG
  go_enter Try.func44, Try.ntmps44
  go_wp2_with fail
  refine Calls.mono HC.out ?_
  rintro e w1 ⟨rfl, hb⟩
  clear HC
  go_wp2_with fail
  go_ret
  exact ⟨rfl, hb⟩

set_option maxRecDepth 20000 in
set_option maxHeartbeats 4000000 in
theorem withoutFirst_any (v : Value) (L : List (List Pt)) (w : World) (hv : QV w v L) (hne : ∀ l ∈ L, l ≠ []) :
    Calls Try.prog 45 #[v] w fun e w' => ∃ v', e = .returned v' ∧ QV w' v' (L.map List.tail) ∧ Below w.heap.size w w' := by
  obtain ⟨ad, c, rfl, hR, hs, hc⟩ := hv
  have HR := hide hR
  have HNe := hide hne
  have HS := hide hs.2
  have hl := hs.1
  clear hR hne hs
  have hmk := mk_PtSS L.length hl
  go_enter Try.func45, Try.ntmps45
  go_wp2_with fail
  go_loopw [11] (fun i w' => ∃ (j : Nat) (cur : Array Value), j ≤ L.length ∧ i = .int .i64 j ∧ w'.heap[w.heap.size]? = some (.cells cur 28 (0, 0)) ∧ cur.size = L.length ∧ (∀ q (h : q < L.length), q < j → ∃ x, cur[q]? = some x ∧ PV w x L[q].tail) ∧ Below w.heap.size w w') (fun i _ => L.length - (intOf i).toNat)
  case atStart =>
    clear hmk
    exact ⟨0, _, by omega, rfl, heap_alloc_new w _, by simp [madeCells], by intros; omega, (Below.refl _ _).alloc (Nat.le_refl _) _⟩
  case round =>
    clear hmk
    obtain ⟨j, cur, hj, rfl, hh, hsz, hF, hB⟩ := hrel
    have HF := hide hF
    have HH := hide hh
    clear hF hh
    by_cases hlt : j < L.length
    · have hlt' : (j : Int) < (L.length : Int) := by omega
      have hj0 : (0 : Int) ≤ (j : Int) := by omega
      obtain ⟨b, o, lv, rfl, hb, p0, -⟩ := QRow.at HR.out hB hlt
      obtain ⟨b', o', lv', e1, -, p0', pv⟩ := QRow.at HR.out (Below.refl _ _) hlt
      simp only [Option.some.injEq, Addr.mk.injEq] at e1
      obtain ⟨rfl, rfl, -⟩ := e1
      have hvv : lv' = lv := by
        have := (hB.cell (p := ⟨b, o + j, none⟩) hb).trans p0'
        rw [p0] at this
        exact (Option.some.inj this).symm
      subst hvv
      have hne := HNe.out L[j] (List.getElem_mem hlt)
      obtain ⟨x, l, hxl⟩ : ∃ x l, L[j] = x :: l := by
        cases h : L[j] with
        | nil => exact absurd h hne
        | cons x l => exact ⟨x, l, rfl⟩
      rw [hxl] at pv
      obtain ⟨b1, o1, c1, rfl, hb1, hc1, -, -⟩ := pv.head (Below.refl _ _)
      have HPt := hide (fun q hq => pv.tail q hq)
      have HXl := hide (show L[j].tail = l by rw [hxl]; rfl)
      have fz : ∀ i, wr.frozen? ⟨w.heap.size, i, none⟩ = false := fun i => unfrozen_of_blk HH.out i
      obtain ⟨y0, hy0⟩ : ∃ x, wr.cell? ⟨w.heap.size, j, none⟩ = some x := by
        rw [cell_of_blk HH.out, Array.getElem?_eq_getElem (by omega)]; exact ⟨_, rfl⟩
      obtain ⟨N, hN⟩ : ∃ N, N = l.length + 1 := ⟨_, rfl⟩
      have hlN : l.length = N - 1 := by omega
      rw [← hN] at hc1 p0
      have HlN := hide hlN
      have h1 : (1 : Int) ≤ (N : Int) := by omega
      have h2 : (N : Int) ≤ (c1 : Int) := by omega
      have h3 : (1 : Int) ≤ (c1 : Int) := by omega
      clear hN hlN pv hxl hne p0'
      have hfin : ∀ (xv : Value), PV w xv l → (∀ q (h : q < L.length), q < j + 1 → ∃ x, (cur.setIfInBounds j xv)[q]? = some x ∧ PV w x L[q].tail) := by
        intro xv hpv q hq hqj
        rw [Array.getElem?_setIfInBounds]
        by_cases e : j = q
        · subst e
          rw [if_pos rfl, if_pos (by omega)]
          exact ⟨_, rfl, by rw [HXl.out]; exact hpv⟩
        · rw [if_neg e]
          exact HF.out q hq (by omega)
      have HFin := hide hfin
      clear hfin
      by_cases hcc : c1 = 1
      · subst hcc
        obtain rfl : N = 1 := by omega
        go_wp2_with fail
        refine ⟨⟨j + 1, _, by omega, by go_num, blk_setCell HH.out _, by simp [hsz], HFin.out _ ?_, hB.setCell (p := ⟨w.heap.size, j, none⟩) (Nat.le_refl _) _⟩, by simp [intOf]; omega⟩
        have := HPt.out o1 (.inl rfl)
        rw [HlN.out] at this
        simpa using this
      · go_wp2_with fail
        refine ⟨⟨j + 1, _, by omega, by go_num, blk_setCell HH.out _, by simp [hsz], HFin.out _ ?_, hB.setCell (p := ⟨w.heap.size, j, none⟩) (Nat.le_refl _) _⟩, by simp [intOf]; omega⟩
        have := HPt.out (o1 + 2) (.inr rfl)
        rw [HlN.out] at this
        exact this
    · obtain rfl : j = L.length := by omega
      go_wp2_with fail
      go_ret
      refine ⟨.slice (some ⟨w.heap.size, 0, none⟩) L.length L.length, rfl, ⟨some ⟨w.heap.size, 0, none⟩, L.length, by rw [List.length_map], .inr ⟨w.heap.size, 0, rfl, (Array.getElem?_eq_some_iff.1 HH.out).1, fun i hi => ?_⟩, ⟨by simpa using hl, fun l hl' => ?_⟩, by simp⟩, hB⟩
      · have hi' : i < L.length := by simpa using hi
        obtain ⟨x, h1, h2⟩ := HF.out i hi' hi'
        refine ⟨x, by rw [cell_of_blk HH.out, Nat.zero_add]; exact h1, ?_⟩
        rw [List.getElem_map]
        exact h2.below hB
      · obtain ⟨l0, h0, rfl⟩ := List.mem_map.1 hl'
        have := HS.out l0 h0
        simp; omega
end Go.Proofs.Ytfepljcblajfpab.W

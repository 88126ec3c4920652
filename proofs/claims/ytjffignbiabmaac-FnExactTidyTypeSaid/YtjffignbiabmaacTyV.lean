/-
  A type's variables as they come, by the specification: contracts of l1Has and l5Vars. Conditions: as the theorems state.
-/
import Derived.Test.YtjffignbiabmaacTyS
import Derived.Test.YtjffignbiabmaacTyT
import Derived.Deep.RegionLaw
namespace Go.Proofs.Ytjffignbiabmaac.Y
open Go.Proofs.Ytjffignbiabmaac.W
open Go.ChangeShapes Go.WideShapes Go.ChangeAt Go.RowKit
set_option linter.unusedVariables false

set_option maxHeartbeats 1000000 in
theorem l1Has_any (s : Value) (l : List Int) (n : Int) (w : World) (hl : l.length ≤ 1048576) (h : IS w s l) :
    Calls Try.prog 50 #[s, .int .i64 n] w fun e w' => e = .returned (.bool (decide (n ∈ l))) ∧ w' = w := by
  have H1 := hide h
  obtain ⟨a1, c1, rfl⟩ := h.form
  clear h
  obtain ⟨R, hR⟩ : ∃ R, R = decide (n ∈ l) := ⟨_, rfl⟩
  rw [← hR]
  have HRR := hide hR
  clear hR
  go_enter Try.func50, Try.ntmps50
  go_wp2_with fail
  go_loopw [9] (fun i w' => ∃ j : Nat, j ≤ l.length ∧ i = .int .i64 j ∧ (∀ q (h : q < l.length), q < j → l[q] ≠ n) ∧ w' = w) (fun i _ => l.length - (intOf i).toNat)
  case atStart => exact ⟨0, by omega, rfl, by intros; omega, rfl⟩
  case round =>
    obtain ⟨j, hj, rfl, hall, rfl⟩ := hrel
    have HA := hide hall
    clear hall
    by_cases hlt : j < l.length
    · have hlt' : (j : Int) < (l.length : Int) := by omega
      have c1 : ∃ g, a1 = some ⟨g, 0, none⟩ ∧ wr.cell? ⟨g, j, none⟩ = some (.int .i64 l[j]) := by
        rcases H1.out with ⟨h1, h2⟩ | ⟨g, c, h1, h2, h3, h4⟩
        · rw [h2] at hlt; simp at hlt
        · simp only [Value.slice.injEq] at h1
          exact ⟨g, h1.1, h4 j hlt⟩
      obtain ⟨g1, rfl, p1⟩ := c1
      have hmem := List.getElem_mem hlt
      have HM := hide hmem
      clear hmem
      by_cases hx : l[j] = n
      · have hr : R = true := by rw [HRR.out, decide_eq_true_eq]; exact hx ▸ HM.out
        rw [hx] at p1
        go_wp2_with fail
        go_ret
        exact ⟨ret_bool hr.symm, rfl⟩
      · have hA2 : ∀ q (h : q < l.length), q < j + 1 → l[q] ≠ n := fun q h hq => by
          by_cases e : q = j
          · subst e; exact hx
          · exact HA.out q h (by omega)
        have HA2 := hide hA2
        obtain ⟨x, hxx⟩ : ∃ x, x = l[j] := ⟨_, rfl⟩
        rw [← hxx] at p1 hx
        have hxb : (x == n) = false := by simpa using hx
        clear hxx hA2 HM
        go_wp2_with fail
        exact ⟨⟨j + 1, by omega, by go_num, HA2.out, trivial⟩, by simp [intOf]; omega⟩
    · have hr : R = false := by
        rw [HRR.out, decide_eq_false_iff_not]
        intro hm
        obtain ⟨q, hq, e⟩ := List.getElem_of_mem hm
        exact HA.out q hq (by omega) e
      go_wp2_with fail
      go_ret
      exact ⟨ret_bool hr.symm, rfl⟩

/-- A slice of numbers: no block where there are none. -/
def JS (w : World) (s : Value) (l : List Int) : Prop := IS w s l ∧ (l = [] → s = .slice none 0 0)
theorem JS.below {w w' : World} {s : Value} {l : List Int} (h : JS w s l) (hb : Below w.heap.size w w') : JS w' s l := ⟨h.1.below hb, h.2⟩

theorem ownI0 {W : World} {B E : Nat} (h : W.heap[E]? = some (.cells #[] 3 (0, 0))) (hE : B ≤ E) : W.ownsRow B 3 1 (.slice (some ⟨E, 0, none⟩) 0 0) 0 [] := ⟨rfl, .inr ⟨E, 0, #[], rfl, hE, h, Nat.le_refl _, by unfold maxLen; omega, rfl, rfl⟩⟩
theorem blk_new1 (w0 : World) (o1 o2 : Obj) : ((w0.alloc o1).alloc o2).drew.heap[w0.heap.size + 1]? = some o2 := by
  have := heap_alloc_new (w0.alloc o1) o2
  rw [World.size_alloc] at this
  exact this
theorem blk_old1 (w0 : World) (o1 o2 : Obj) : ((w0.alloc o1).alloc o2).drew.heap[w0.heap.size]? = some o1 := (heap_alloc_old (w0.alloc o1) o2 (by simp)).trans (heap_alloc_new w0 o1)
theorem newsI {w W : World} {g : Nat} {ck : List Int} (hg : g < w.heap.size) (h : ∀ i (h : i < ck.length), w.cell? ⟨g, i, none⟩ = some (.int .i64 ck[i])) (hb : Below w.heap.size w W) : ∀ j u, (ck.map (Value.int .i64))[j]? = some u → W.cell? ((⟨g, 0, none⟩ : Addr).add j) = some u := fun j u hu => by
  rw [List.getElem?_map] at hu
  obtain ⟨y, hy, rfl⟩ := Option.map_eq_some_iff.1 hu
  obtain ⟨hi, rfl⟩ := List.getElem?_eq_some_iff.1 hy
  rw [iAdd, Nat.zero_add, hb.cell hg]; exact h j hi
theorem newsB {W : World} {g : Nat} {n : Int} (h : W.heap[g]? = some (.cells #[.int .i64 n] 3 (0, 0))) : ∀ j u, [Value.int .i64 n][j]? = some u → W.cell? ((⟨g, 0, none⟩ : Addr).add j) = some u := fun j u hu => by
  rw [iAdd, Nat.zero_add, cell_of_blk h, ← hu]; simp
theorem app_none (g : Nat) (w : World) : (Builtin.append_ #[65, 65] 65 #[.slice (some ⟨g, 0, none⟩) 0 0, .slice none 0 0]).run Try.prog w = .ok (.slice (some ⟨g, 0, none⟩) 0 0) w := by
  obtain ⟨i0, hi0, hz0, hz1, hz2⟩ := infoPartsT infoInt
  simp [Builtin.append_, run_underlying Try.underlying65, sizeOf, typeInfo, hi0, Builtin.lenOf, Builtin.firstCells, storeCells]

def L5VGoal (k : F) : Prop := ∀ (x : Cc) (s so : Value) (o : List Int) (P : Nat → Prop) (w : World), goodC x = true → k.len = ar x.k → k.ok → o.length + k.flat.length + 1 ≤ 1000 → KidT w P k s → JS w so o →
    Calls Try.prog 34 #[.agg #[.int .i64 x.k, .int .i64 x.n, s], so] w fun e w' => ∃ s', e = .returned s' ∧ JS w' s' (av o (x :: k.flat)) ∧ Below w.heap.size w w'

set_option maxRecDepth 20000 in
set_option maxHeartbeats 4000000 in
theorem l5Vars_new (x : Cc) (s so : Value) (o : List Int) (P : Nat → Prop) (w : World) (hx : x.k = 1) (hno : x.n ∉ o) (hl : o.length + 1 ≤ 1000) (hT : KidT w P .nil s) (hJ : JS w so o) :
    Calls Try.prog 34 #[.agg #[.int .i64 x.k, .int .i64 x.n, s], so] w fun e w' => ∃ s', e = .returned s' ∧ JS w' s' (o ++ [x.n]) ∧ Below w.heap.size w w' := by
  obtain ⟨sad, sc, rfl⟩ := hT.form
  clear hT
  obtain ⟨xk, xn⟩ := x
  simp only at *
  subst hx
  obtain ⟨i0, hi0, hz0, hz1, hz2⟩ := infoPartsT infoInt
  have Hi := hide hi0
  clear hi0
  have HH := hide (fun w' (hb : Below w.heap.size w w') => l1Has_any so o xn w' (by omega) (hJ.1.below hb))
  rw [decide_eq_false hno] at HH
  rcases hJ.1 with ⟨rfl, rfl⟩ | ⟨g, c, rfl, hc, hg, hcs⟩
  · clear hJ hno
    have hap := app_none
    go_enter Try.func34, Try.ntmps34
    go_wp2_with fail
    refine (HH.out _ ((Below.refl _ _).alloc (Nat.le_refl _) _)).mono ?_
    rintro e w' ⟨rfl, rfl⟩
    go_wp2_with fail
    obtain ⟨w0, hw0⟩ : ∃ w0, w0 = w.alloc (.cells #[.int .i64 1, .int .i64 xn, .slice sad F.nil.len sc] 41) := ⟨_, rfl⟩
    rw [← hw0]
    have hB0 : Below w.heap.size w w0 := by rw [hw0]; exact (Below.refl _ _).alloc (Nat.le_refl _) _
    have e1 : w0.cell? ⟨w.heap.size, 1, none⟩ = some (.int .i64 xn) := by rw [hw0, cell_of_blk (heap_alloc_new w _)]; rfl
    have hsz0 : w.heap.size < w0.heap.size := by rw [hw0]; simp
    have HB0 := hide hB0
    clear hw0 hB0
    go_region_law
      (first
        | (refine step_append_lies _ rfl _ _ 65 rfl w.heap.size 3 i0 (.int .i64 0) 1 8 Try.underlying65 Hi.out hz0 hz1 hz2 rfl (by decide) _ 0 [] rfl (ownI0 (by first | exact blk_old1 w0 _ _ | exact blk_new1 w0 _ _) (by omega)) _ 1 1 [.int .i64 xn] rfl rfl (newsB (by first | exact blk_new1 w0 _ _ | exact blk_old1 w0 _ _)) (iOne [xn]) (by omega) (by unfold maxLen; omega) (by omega) (by show w.heap.size ≤ ((w0.alloc _).alloc _).heap.size; simp; omega) _ rfl ?_; intro g7 cap7 w7 hown7 hgrow7 hat7 hlt7; (first | change World.grownBy _ _ (some w0.heap.size) at hgrow7 | change World.grownBy _ _ (some (w0.heap.size + 1)) at hgrow7); have hB7 : Below w.heap.size w w7 := (Below.grown (belowDrew ((HB0.out.alloc (by omega) _).alloc (by simp; omega) _)) hgrow7 (by show w.heap.size ≤ ((w0.alloc _).alloc _).heap.size; simp; omega) (fun k hk => by simp at hk; omega)); have HO7 := hide hown7; have HB7 := hide hB7; clear hown7 hgrow7 hat7 hB7)
        | (go_simp; go_wp2_with fail))
    all_goals
      go_wp2_with fail
      go_ret
      refine ⟨_, rfl, ⟨IS.ofOwn (base := w.heap.size) (e := 3) HO7.out, fun h => by simp at h⟩, HB7.out⟩
  · have hol : 0 < o.length := by
      cases o with
      | nil => have := hJ.2 rfl; simp at this
      | cons y o => simp
    clear hJ hno
    have HCs := hide hcs
    clear hcs
    go_enter Try.func34, Try.ntmps34
    go_wp2_with fail
    refine (HH.out _ ((Below.refl _ _).alloc (Nat.le_refl _) _)).mono ?_
    rintro e w' ⟨rfl, rfl⟩
    go_wp2_with fail
    obtain ⟨w0, hw0⟩ : ∃ w0, w0 = w.alloc (.cells #[.int .i64 1, .int .i64 xn, .slice sad F.nil.len sc] 41) := ⟨_, rfl⟩
    rw [← hw0]
    have hB0 : Below w.heap.size w w0 := by rw [hw0]; exact (Below.refl _ _).alloc (Nat.le_refl _) _
    have e1 : w0.cell? ⟨w.heap.size, 1, none⟩ = some (.int .i64 xn) := by rw [hw0, cell_of_blk (heap_alloc_new w _)]; rfl
    have hsz0 : w.heap.size < w0.heap.size := by rw [hw0]; simp
    have HB0 := hide hB0
    have HLen : Hid ((o.map (Value.int .i64)).length = o.length * 1) := hide (by simp)
    clear hw0 hB0
    go_region_law
      (first
        | (refine step_append_lies _ rfl _ _ 65 rfl w.heap.size 3 i0 (.int .i64 0) 1 8 Try.underlying65 Hi.out hz0 hz1 hz2 rfl (by decide) _ 0 [] rfl (ownI0 (by first | exact heap_alloc_new w0 _ | exact blk_old1 w0 _ _ | exact blk_new1 w0 _ _) (by omega)) ⟨g, 0, none⟩ o.length c (o.map (Value.int .i64)) rfl HLen.out (newsI hg HCs.out (by first | exact belowDrew (HB0.out.alloc (by omega) _) | exact belowDrew ((HB0.out.alloc (by omega) _).alloc (by simp; omega) _))) (iOne o) hol (by unfold maxLen; omega) (by omega) (by first | (show w.heap.size ≤ (w0.alloc _).heap.size; simp; omega) | (show w.heap.size ≤ ((w0.alloc _).alloc _).heap.size; simp; omega)) _ rfl ?_; intro g6 cap6 w6 hown6 hgrow6 hat6 hlt6; (first | change World.grownBy _ _ (some w0.heap.size) at hgrow6 | change World.grownBy _ _ (some (w0.heap.size + 1)) at hgrow6); have hB6 : Below w0.heap.size w0 w6 := Below.grown (by first | exact belowDrew ((Below.refl _ w0).alloc (Nat.le_refl _) _) | exact belowDrew (((Below.refl _ w0).alloc (Nat.le_refl _) _).alloc (by simp) _)) hgrow6 (by first | (show w0.heap.size ≤ (w0.alloc _).heap.size; simp) | (show w0.heap.size ≤ ((w0.alloc _).alloc _).heap.size; simp; omega)) (fun k hk => by simp at hk; omega); have f1 := (hB6.cell (p := ⟨w.heap.size, 1, none⟩) hsz0).trans e1; have hsz6 := hB6.size; rw [Nat.zero_add, List.nil_append] at hown6; have HO6 := hide hown6; have HB6 := hide (HB0.out.trans (hB6.mono HB0.out.size)); (try (have hBk : w6.heap[w0.heap.size]? = some (.cells #[.int .i64 xn] 3) := (hgrow6.block _ (by show w0.heap.size < ((w0.alloc _).alloc _).heap.size; simp; omega) (by simp)).trans (blk_old1 w0 _ _); have HBk := hide hBk; clear hBk)); (try (have hBk : w6.heap[w0.heap.size + 1]? = some (.cells #[.int .i64 xn] 3) := (hgrow6.block _ (by show w0.heap.size + 1 < ((w0.alloc _).alloc _).heap.size; simp) (by simp)).trans (blk_new1 w0 _ _); have HBk := hide hBk; clear hBk)); clear hown6 hgrow6 hat6 hB6)
        | (refine step_append_lies _ rfl _ _ 65 rfl w.heap.size 3 i0 (.int .i64 0) 1 8 Try.underlying65 Hi.out hz0 hz1 hz2 rfl (by decide) _ o.length (o.map (Value.int .i64)) rfl (by first | exact HO6.out | exact HO6.out.alloc _) _ 1 1 [.int .i64 xn] rfl rfl (newsB (by first | exact HBk.out | exact heap_alloc_new w6 _)) (iOne [xn]) (by omega) (by unfold maxLen; omega) (by omega) (by first | (show w.heap.size ≤ w6.heap.size; omega) | (show w.heap.size ≤ (w6.alloc _).heap.size; simp; omega)) _ rfl ?_; intro g7 cap7 w7 hown7 hgrow7 hat7 hlt7; change World.grownBy _ _ (some g6) at hgrow7; have hg6l := (HO6.out.lt g6 rfl).1; have hB7 : Below w.heap.size w w7 := (Below.grown (by first | exact HB6.out | exact HB6.out.alloc (by omega) _ | exact belowDrew HB6.out | exact belowDrew (HB6.out.alloc (by omega) _)) hgrow7 (by first | (show w.heap.size ≤ w6.heap.size; omega) | (show w.heap.size ≤ (w6.alloc _).heap.size; simp; omega)) (fun k hk => by simp at hk; omega)); have HO7 := hide hown7; have HB7 := hide hB7; clear hown7 hgrow7 hat7 hB7)
        | (go_simp; go_wp2_with fail))
    all_goals
      go_wp2_with fail
      go_ret
      refine ⟨.slice (some ⟨g7, 0, none⟩) (o.length + 1) cap7, rfl, ⟨IS.ofOwn (base := w.heap.size) (e := 3) ?_, fun h => by simp at h⟩, HB7.out⟩
      rw [List.length_append, List.map_append]
      exact HO7.out
end Go.Proofs.Ytjffignbiabmaac.Y

/-
  Rows of numbers that are read, and that are one's own: contracts of l1Has and l1Put. Conditions: at most 1000 numbers.
-/
import Derived.Test.YtaniiolphghhiabGrQ
import Derived.Test.YtaniiolphghhiabPaX
import Derived.Test.YtaniiolphghhiabApS
import Derived.Laws.OwnMore
namespace Go.Proofs.Ytaniiolphghhiab.W
open Go.ChangeShapes Go.WideShapes Go.ChangeAt Go.RowKit Go.Joins
set_option linter.unusedVariables false

/-- Numbers as cells. -/
def ic (l : List Int) : List Value := l.map (Value.int .i64)
theorem ic_len (l : List Int) : (ic l).length = l.length := by simp [ic]
theorem ic_one (l : List Int) : ∀ u ∈ ic l, u.oneCell' = true := by
  intro u hu
  obtain ⟨x, -, rfl⟩ := List.mem_map.1 hu
  rfl
theorem ic_rcells (l : List Int) : rcells 1 iC l = ic l := by
  induction l with
  | nil => rfl
  | cons x l ih => simp only [rcells, ih]; rfl
theorem ic_app (a b : List Int) : ic (a ++ b) = ic a ++ ic b := by simp [ic]
theorem ic_at (l : List Int) (i : Nat) (h : i < l.length) : (ic l)[i]? = some (.int .i64 l[i]) := by simp [ic, h]

/-- v is a slice of these numbers: nil, or cells that lie somewhere. -/
def NV (w : World) (v : Value) (l : List Int) : Prop :=
  (v = .slice none 0 0 ∧ l = []) ∨ ∃ g o c, v = .slice (some ⟨g, o, none⟩) l.length c ∧ l.length ≤ c ∧ g < w.heap.size ∧ ∀ i (h : i < l.length), w.cell? ⟨g, o + i, none⟩ = some (.int .i64 l[i])
theorem NV.below {w w' : World} {v : Value} {l : List Int} (h : NV w v l) (hb : Below w.heap.size w w') : NV w' v l := by
  rcases h with h | ⟨g, o, c, h1, h2, h3, h4⟩
  · exact .inl h
  · exact .inr ⟨g, o, c, h1, h2, Nat.lt_of_lt_of_le h3 hb.size, fun i hi => (hb.cell (p := ⟨g, o + i, none⟩) h3).trans (h4 i hi)⟩
theorem NV.pv {w : World} {v : Value} {l : List Int} (h : NV w v l) : PV w v l := by
  rcases h with ⟨rfl, rfl⟩ | ⟨g, o, c, h1, h2, h3, h4⟩
  · exact ⟨none, 0, rfl, .inl rfl, Nat.le_refl _⟩
  · refine ⟨_, c, h1, .inr ⟨g, o, rfl, h3, fun i hi r hr => ?_⟩, h2⟩
    obtain rfl : r = 0 := by omega
    rw [Nat.mul_one, Nat.add_zero]
    exact h4 i hi
theorem NV.iv {w : World} {v : Value} {l : List Int} (h : NV w v l) (hl : l.length ≤ 1048576) : IV w v l := by
  obtain ⟨ad, c, h1, h2, -⟩ := h.pv
  exact ⟨ad, c, h1, h2, hl⟩
theorem NV.form {w : World} {v : Value} {l : List Int} (h : NV w v l) : ∃ ad c, v = .slice ad l.length c ∧ l.length ≤ c := by
  obtain ⟨ad, c, h1, -, h3⟩ := h.pv
  exact ⟨ad, c, h1, h3⟩
theorem NV.at {w w' : World} {ad : Option Addr} {c : Nat} {l : List Int} (h : NV w (.slice ad l.length c) l) (hb : Below w.heap.size w w') {i : Nat} (hi : i < l.length) :
    ∃ b o, ad = some ⟨b, o, none⟩ ∧ w'.cell? ⟨b, o + i, none⟩ = some (.int .i64 l[i]) := by
  rcases h with ⟨h1, h2⟩ | ⟨g, o, c, h1, h2, h3, h4⟩
  · rw [h2] at hi; simp at hi
  · simp only [Value.slice.injEq] at h1
    exact ⟨g, o, h1.1, (hb.cell (p := ⟨g, o + i, none⟩) h3).trans (h4 i hi)⟩
theorem NV.ofOwn {w : World} {base n : Nat} {v : Value} {l : List Int} (h : w.ownsRow base 3 1 v n (ic l)) (hn : n = l.length) : NV w v l := by
  subst hn
  rcases h.2 with ⟨h1, h2⟩ | ⟨g, cap, cur, h1, hg, hh, h2, h3, h4, h5⟩
  · exact .inl ⟨h1, List.eq_nil_of_length_eq_zero h2⟩
  · refine .inr ⟨g, 0, cap, h1, h2, (Array.getElem?_eq_some_iff.1 hh).1, fun i hi => ?_⟩
    have := ic_at l i hi
    rw [← h5] at this
    rw [cell_of_blk hh, Nat.zero_add]
    rw [List.getElem?_take_of_lt (by omega)] at this
    simpa using this
theorem grown_below {w w' : World} {row : Option Nat} {B : Nat} (h : w.grownBy w' row) (hB : B ≤ w.heap.size) (hr : ∀ k, row = some k → B ≤ k) : Below B w w' :=
  ⟨h.os, h.tape, h.output, h.size, fun k hk => h.block k (by omega) (fun e => by have := hr k e.symm; omega)⟩
theorem own_ge {w : World} {base n : Nat} {T : TypeId} {z : Nat} {v : Value} {xs : List Value} (h : w.ownsRow base T z v n xs) : ∀ k, v.ownBlock = some k → base ≤ k := by
  intro k hk
  rcases h.2 with ⟨h1, h2⟩ | ⟨g, cap, cur, h1, hg, hh⟩
  · rw [h1] at hk; cases hk
  · rw [h1] at hk
    cases hk
    exact hg

/-- What is put behind others: nothing, or cells that lie somewhere. -/
def PtI (w : World) (u : Value) (m : Nat) (vs : List Value) : Prop :=
  (u = .slice none 0 0 ∧ m = 0 ∧ vs = []) ∨ ∃ ad c, u = .slice (some ad) m c ∧ vs.length = m * 1 ∧ (∀ j x, vs[j]? = some x → w.cell? (ad.add j) = some x) ∧ (∀ x ∈ vs, x.oneCell' = true)
theorem wpList_append_i {w : World} {ops : Array Oper} {rest : List Oper} {o : Oper} {a : Act} {Q : Exit → Act → World → Prop} (hgd : o.guard = none) (s x : Operand)
    (ho : o.op = .call { callee := .builtin .append, args := #[s, x], argTypes := #[45, 45] })
    (base : Nat) (v : Value) (n : Nat) (xs : List Value) (hs : a.eval s = v) (hown : w.ownsRow base 3 1 v n xs) (u : Value) (m : Nat) (vs : List Value) (hx : a.eval x = u) (hu : PtI w u m vs) (hnm : n + m ≤ 1048576) (hbase : base ≤ w.heap.size)
    (h : ∀ v' w', w'.ownsRow base 3 1 v' (n + m) (xs ++ vs) → w.grownBy w' v.ownBlock → wpList Try.prog ops Q rest (a.put o.dst v') w') : wpList Try.prog ops Q (o :: rest) a w := by
  obtain ⟨i0, hi0, hzz⟩ := Option.map_eq_some_iff.1 infoInt1
  simp only [Prod.mk.injEq] at hzz
  obtain ⟨hz0, hz1, hz2⟩ := hzz
  refine wpList_plain hgd fun K hK => ?_
  rcases hu with ⟨rfl, rfl, rfl⟩ | ⟨ad, c, rfl, h2, h3, h4⟩
  · have hr := run_append_owned_none (P := Try.prog) (w := w) base 45 o.type 3 i0 1 Try.underlying45 hi0 v n xs hown
    unfold Oper.wp execOp
    simp only [ho, resolve, invoke, builtin, Sem.run_bind, Sem.run_pure, Result.andThen_ok, List.map_toArray, List.map_cons, List.map_nil, hs, hx, hr]
    exact hK _ _ (h v w (by simpa using hown) (World.grownBy.refl _ _))
  · obtain ⟨v', w', hr, g2, g3, -⟩ := run_append_sep (P := Try.prog) w base 45 o.type 3 i0 (.int .i64 0) 1 8 Try.underlying45 hi0 hz0 hz1 hz2 (by simp [Value.cells]) (by decide) v n xs hown ad m c vs h2 h3 h4 (by unfold maxLen; omega) (by omega) hbase
    unfold Oper.wp execOp
    simp only [ho, resolve, invoke, builtin, Sem.run_bind, Sem.run_pure, Result.andThen_ok, List.map_toArray, List.map_cons, List.map_nil, hs, hx, hr]
    exact hK _ _ (h v' w' g2 g3)

set_option maxHeartbeats 1000000 in
theorem l1Has_v (v : Value) (l : List Int) (n : Int) (w : World) (h : NV w v l) (hl : l.length ≤ 1048576) :
    Calls Try.prog 57 #[v, .int .i64 n] w fun e w' => e = .returned (.bool (decide (n ∈ l))) ∧ w' = w := by
  obtain ⟨a1, c1, rfl, -⟩ := h.form
  have H1 := hide h
  clear h
  obtain ⟨R, hR⟩ : ∃ R, R = decide (n ∈ l) := ⟨_, rfl⟩
  rw [← hR]
  have HRR := hide hR
  clear hR
  go_enter Try.func57, Try.ntmps57
  go_wp2_with fail
  go_loopw [9] (fun i w' => ∃ j : Nat, j ≤ l.length ∧ i = .int .i64 j ∧ (∀ q (h : q < l.length), q < j → l[q] ≠ n) ∧ w' = w) (fun i _ => l.length - (intOf i).toNat)
  case atStart => exact ⟨0, by omega, rfl, by intros; omega, rfl⟩
  case round =>
    obtain ⟨j, hj, rfl, hall, rfl⟩ := hrel
    have HA := hide hall
    clear hall
    by_cases hlt : j < l.length
    · have hlt' : (j : Int) < (l.length : Int) := by omega
      obtain ⟨g1, o1, rfl, p1⟩ := NV.at H1.out (Below.refl _ _) hlt
      have hmem := List.getElem_mem hlt
      have HM := hide hmem
      clear hmem
      by_cases hx : l[j] = n
      · have hr : R = true := by rw [HRR.out, decide_eq_true_eq]; exact hx ▸ HM.out
        rw [hx] at p1
        go_wp2_with fail
        go_ret
        exact ⟨ret_bool hr.symm, rfl⟩
      · have hA2 : ∀ q (h : q < l.length), q < j + 1 → l[q] ≠ n := fun q h hq => by
          by_cases e : q = j
          · subst e; exact hx
          · exact HA.out q h (by omega)
        have HA2 := hide hA2
        obtain ⟨x, hxx⟩ : ∃ x, x = l[j] := ⟨_, rfl⟩
        rw [← hxx] at p1 hx
        have hxb : (x == n) = false := by simpa using hx
        clear hxx hA2 HM
        go_wp2_with fail
        exact ⟨⟨j + 1, by omega, by go_num, HA2.out, trivial⟩, by simp [intOf]; omega⟩
    · have hr : R = false := by
        rw [HRR.out, decide_eq_false_iff_not]
        intro hm
        obtain ⟨q, hq, e⟩ := List.getElem_of_mem hm
        exact HA.out q hq (by omega) e
      go_wp2_with fail
      go_ret
      exact ⟨ret_bool hr.symm, rfl⟩

/-- A number put to its place in a rising row, once. -/
def putL : List Int → Int → List Int
  | [], n => [n]
  | x :: r, n => if x < n then x :: putL r n else if x = n then x :: r else n :: x :: r
theorem putL_take (n : Int) : ∀ (l : List Int) (k : Nat), k ≤ l.length → (∀ i (h : i < l.length), i < k → l[i] < n) → putL l n = l.take k ++ putL (l.drop k) n
  | l, 0, _, _ => by simp
  | [], k + 1, h, _ => by simp at h
  | x :: r, k + 1, h, ha => by
    have h0 : x < n := ha 0 (by simp) (by omega)
    have := putL_take n r k (by simpa using h) (fun i hi hk => by have := ha (i + 1) (by simpa using hi) (by omega); simpa using this)
    simp [putL, h0, this]
theorem putL_there (n : Int) (l : List Int) (k : Nat) (h : k < l.length) (ha : ∀ i (h : i < l.length), i < k → l[i] < n) (he : l[k] = n) : putL l n = l := by
  rw [putL_take n l k (by omega) ha, List.drop_eq_getElem_cons h, he]
  simp only [putL, Int.lt_irrefl, if_false, if_true]
  conv => rhs; rw [← List.take_append_drop k l, List.drop_eq_getElem_cons h, he]
theorem putL_new (n : Int) (l : List Int) (k : Nat) (h : k ≤ l.length) (ha : ∀ i (h : i < l.length), i < k → l[i] < n) (hk : ∀ h : k < l.length, n < l[k]) : putL l n = l.take k ++ ([n] ++ l.drop k) := by
  rw [putL_take n l k h ha]
  by_cases hl : k < l.length
  · rw [List.drop_eq_getElem_cons hl]
    have := hk hl
    simp only [putL]
    rw [if_neg (by omega), if_neg (by omega)]
    simp
  · rw [List.drop_eq_nil_of_le (by omega)]
    simp [putL]
end Go.Proofs.Ytaniiolphghhiab.W

/-
  The variables that are bound nowhere, by the specification: contracts of l1Put, l3Binds, l3Free and FreeIn. Conditions: at most 1048576 cells.
-/
import Derived.Test.YtjalakdpmglamaaJe
import Derived.Laws.AppendOwnNone
namespace Go.Proofs.Ytjalakdpmglamaa.W
open Go.ChangeShapes Go.WideShapes Go.ChangeAt Go.RowKit
set_option linter.unusedVariables false

/-- A slice of numbers that fills its block from the front, or none. -/
def IS (w : World) (s : Value) (l : List Int) : Prop :=
  (s = .slice none 0 0 ∧ l = []) ∨ ∃ g c, s = .slice (some ⟨g, 0, none⟩) l.length c ∧ l.length ≤ c ∧ g < w.heap.size ∧ ∀ i (h : i < l.length), w.cell? ⟨g, i, none⟩ = some (.int .i64 l[i])
theorem IS.below {w w' : World} {s : Value} {l : List Int} (h : IS w s l) (hb : Below w.heap.size w w') : IS w' s l := by
  rcases h with h | ⟨g, c, h1, h2, h3, h4⟩
  · exact .inl h
  · exact .inr ⟨g, c, h1, h2, Nat.lt_of_lt_of_le h3 hb.size, fun i hi => (hb.cell (p := ⟨g, i, none⟩) h3).trans (h4 i hi)⟩
theorem IS.form {w : World} {s : Value} {l : List Int} (h : IS w s l) : ∃ ad c, s = .slice ad l.length c := by
  rcases h with ⟨h1, h2⟩ | ⟨g, c, h1, _⟩
  · exact ⟨none, 0, by rw [h1, h2]; rfl⟩
  · exact ⟨_, _, h1⟩

/-- Where a number goes in a rising list. -/
def putAt (l : List Int) (n : Int) : Nat := (l.takeWhile (· < n)).length
/-- A number put into a rising list. -/
def put (l : List Int) (n : Int) : List Int := if l[putAt l n]? = some n then l else l.take (putAt l n) ++ n :: l.drop (putAt l n)
theorem putAt_le (l : List Int) (n : Int) : putAt l n ≤ l.length := (List.takeWhile_sublist _).length_le
theorem putAt_lt (l : List Int) (n : Int) (i : Nat) (h : i < putAt l n) : l[i]'(Nat.lt_of_lt_of_le h (putAt_le l n)) < n := by
  have h1 : (l.takeWhile (· < n))[i]'h = l[i]'(Nat.lt_of_lt_of_le h (putAt_le l n)) := (List.takeWhile_prefix (p := (· < n)) (l := l)).getElem h
  have h2 : ∀ (l : List Int) x, x ∈ l.takeWhile (· < n) → x < n := by
    intro l
    induction l with
    | nil => intro x hx; cases hx
    | cons y l ih =>
      intro x hx
      by_cases hy : y < n
      · simp only [List.takeWhile_cons, hy, decide_true, if_true, List.mem_cons] at hx
        rcases hx with rfl | hx
        · exact hy
        · exact ih x hx
      · simp [hy] at hx
  have h3 := h2 l _ (List.getElem_mem (l := l.takeWhile (· < n)) h)
  rw [h1] at h3
  simpa using h3
theorem putAt_ge (l : List Int) (n : Int) (h : putAt l n < l.length) : ¬ l[putAt l n] < n := by
  unfold putAt at h ⊢
  induction l with
  | nil => simp at h
  | cons x l ih =>
    by_cases hx : x < n
    · simp only [List.takeWhile_cons, hx, decide_true, if_true, List.length_cons, List.getElem_cons_succ] at h ⊢
      exact ih (by omega)
    · simp [hx]
theorem putAt_is {l : List Int} {n : Int} {k : Nat} (hk : k ≤ l.length) (h1 : ∀ i (h : i < l.length), i < k → l[i] < n) (h2 : ∀ h : k < l.length, ¬ l[k] < n) : putAt l n = k := by
  rcases Nat.lt_trichotomy (putAt l n) k with h | h | h
  · exact absurd (h1 _ (by omega) h) (putAt_ge l n (by omega))
  · exact h
  · exact absurd (putAt_lt l n k h) (h2 (by have := putAt_le l n; omega))

theorem iOwn_form {w : World} {base n size : Nat} {e : TypeId} {v : Value} {xs : List Value} (h : w.ownsRow base e size v n xs) : ∃ ad c, v = .slice ad n c := by
  rcases h.2 with ⟨h1, h2⟩ | ⟨g, cap, cur, hv, _⟩
  · exact ⟨none, 0, by rw [h1, h2]⟩
  · exact ⟨_, _, hv⟩
theorem iAdd (g o j : Nat) : (⟨g, o, none⟩ : Addr).add j = ⟨g, o + j, none⟩ := by unfold Addr.add; split <;> simp_all
theorem iOne (l : List Int) : ∀ u ∈ l.map (Value.int .i64), u.oneCell' = true := by
  intro u hu
  obtain ⟨n, -, rfl⟩ := List.mem_map.1 hu
  rfl
theorem iOneT (l : List Int) (k : Nat) : ∀ u ∈ (l.map (Value.int .i64)).take k, u.oneCell' = true := fun u hu => iOne l u (List.mem_of_mem_take hu)
theorem iOneD (l : List Int) (k : Nat) : ∀ u ∈ (l.map (Value.int .i64)).drop k, u.oneCell' = true := fun u hu => iOne l u (List.mem_of_mem_drop hu)
theorem IS.ofOwn {w : World} {base : Nat} {e : TypeId} {v : Value} {l : List Int} (h : w.ownsRow base e 1 v l.length (l.map (Value.int .i64))) : IS w v l := by
  rcases h.2 with ⟨h1, h2⟩ | ⟨g, cap, cur, hv, hg, hh, h1, h2, h3, h4⟩
  · exact .inl ⟨h1, List.eq_nil_of_length_eq_zero h2⟩
  · refine .inr ⟨g, cap, hv, h1, (Array.getElem?_eq_some_iff.1 hh).1, fun i hi => ?_⟩
    have h5 : (cur.toList.take (l.length * 1))[i]? = some (.int .i64 l[i]) := by rw [h4]; simp [hi]
    rw [cell_of_blk hh, List.getElem?_take_of_lt (by omega)] at *
    simpa using h5

theorem infoInt : (Try.prog.info? 3).map (fun i => (i.zero, i.size, i.bytes)) = some (some (.int .i64 0), 1, 8) := by kernel_rfl

set_option maxHeartbeats 400000 in
theorem l3Binds_any (k : Int) (i : Nat) (w : World) :
    Calls Try.prog 46 #[.int .i64 k, .int .i64 (i : Int)] w fun e w' => e = .returned (.int .i64 (binds k i : Int)) ∧ w' = w := by
  go_enter Try.func46, Try.ntmps46
  go_wp2
  all_goals
    go_ret
    refine ⟨ret_int ?_, rfl⟩
    simp_all [binds]
  all_goals (try (split <;> omega))
end Go.Proofs.Ytjalakdpmglamaa.W

/-
  A tree's kids: in a row of parts, and in the memory of the specification's trees. No program here.
-/
import Derived.Test.YtjffignbiabmaaaDoorTree2
namespace Go.Proofs.YtjffignbiabmaaaDoor.W
open Go.ChangeShapes Go.WideShapes Go.ChangeAt Go.RowKit

def E.kids : E → List E
  | .leaf _ => []
  | .one _ a => [a]
  | .two _ a b => [a, b]
def fl (ks : List E) : List Xx := ks.flatMap E.flat
theorem fl_cons (k : E) (ks : List E) : fl (k :: ks) = k.flat ++ fl ks := by simp [fl]
theorem fl_snoc (k : E) (ks : List E) : fl (ks ++ [k]) = fl ks ++ k.flat := by simp [fl]
theorem E.flat_kids (e : E) : e.flat = e.head :: fl e.kids := by cases e <;> simp [E.flat, E.head, E.kids, fl]
theorem E.kids_len {e : E} (h : e.ok) : behind e.head = e.kids.length := by
  cases e with
  | leaf x => exact h.2
  | one x a => exact h.2.1
  | two x a b => exact h.2.1
theorem E.kids_ok {e : E} (h : e.ok) : ∀ k ∈ e.kids, k.ok := by
  cases e with
  | leaf x => intro k hk; cases hk
  | one x a => intro k hk; simp only [E.kids, List.mem_cons, List.not_mem_nil, or_false] at hk; rw [hk]; exact h.2.2
  | two x a b =>
    intro k hk
    simp only [E.kids, List.mem_cons, List.not_mem_nil, or_false] at hk
    rcases hk with rfl | rfl
    · exact h.2.2.1
    · exact h.2.2.2
theorem E.head_good {e : E} (h : e.ok) : goodX e.head = true := by cases e <;> exact h.1
theorem E.kids_le (e : E) : e.kids.length ≤ 2 := by cases e <;> simp [E.kids]
/-- A tree from its kids on. -/
theorem E.rec_kids {P : E → Prop} (h : ∀ e : E, (∀ k ∈ e.kids, P k) → P e) : ∀ e, P e
  | .leaf x => h _ (fun k hk => by cases hk)
  | .one x a => h _ (fun k hk => by
      simp only [E.kids, List.mem_cons, List.not_mem_nil, or_false] at hk; rw [hk]; exact E.rec_kids h a)
  | .two x a b => h _ (fun k hk => by
      simp only [E.kids, List.mem_cons, List.not_mem_nil, or_false] at hk
      have ha := E.rec_kids h a
      have hb := E.rec_kids h b
      rcases hk with e | e
      · rw [e]; exact ha
      · rw [e]; exact hb)
/-- Behind the first kids of a row the others follow. -/
theorem kid_at {l : List Xx} {p : Nat} {x : Xx} {ks : List E} {r : List Xx} (h : l.drop p = x :: (fl ks ++ r)) {j : Nat} (hj : j < ks.length) :
    l.drop (p + 1 + (fl (ks.take j)).length) = (ks[j]).flat ++ (fl (ks.drop (j + 1)) ++ r) := by
  have h1 : l.drop (p + 1) = fl ks ++ r := by rw [← List.drop_drop, h]; rfl
  have h2 : fl ks = fl (ks.take j) ++ fl (ks.drop j) := by
    unfold fl
    rw [← List.flatMap_append, List.take_append_drop]
  rw [← List.drop_drop, h1, h2, List.append_assoc, List.drop_left, List.drop_eq_getElem_cons hj, fl_cons, List.append_assoc]
theorem fl_take_succ {ks : List E} {j : Nat} (hj : j < ks.length) : fl (ks.take (j + 1)) = fl (ks.take j) ++ (ks[j]).flat := by
  rw [List.take_succ_eq_append_getElem hj, fl_snoc]
theorem drop_lt {l : List Xx} {p : Nat} {x : Xx} {r : List Xx} (h : l.drop p = x :: r) : ∃ hp : p < l.length, l[p] = x := by
  have hp : p < l.length := by
    by_cases hp : p < l.length
    · exact hp
    · rw [List.drop_eq_nil_of_le (by omega)] at h; cases h
  refine ⟨hp, ?_⟩
  rw [List.drop_eq_getElem_cons hp] at h
  exact (List.cons.inj h).1
theorem drop_len {l : List Xx} {p : Nat} {a r : List Xx} (h : l.drop p = a ++ r) (ha : 0 < a.length) : p + a.length + r.length = l.length := by
  have : (l.drop p).length = a.length + r.length := by rw [h]; simp
  rw [List.length_drop] at this
  omega

/-- The kids of a tree in memory. -/
theorem TrK.kid {w : World} {lo : Nat} {e : E} {s : Value} (h : TrK w lo e s) : ∃ ad cap, s = .slice ad e.kids.length cap ∧ ∀ i (hi : i < e.kids.length), ∃ g si, ad = some ⟨g, 0, none⟩ ∧ g < w.heap.size ∧ TrK w lo (e.kids[i]) si ∧
    w.cell? ⟨g, i * 4, none⟩ = some (.int .i64 (e.kids[i]).head.k) ∧ w.cell? ⟨g, i * 4 + 1, none⟩ = some (.int .i64 (e.kids[i]).head.n) ∧ w.cell? ⟨g, i * 4 + 2, none⟩ = some (.string (e.kids[i]).head.t) ∧ w.cell? ⟨g, i * 4 + 3, none⟩ = some si := by
  cases e with
  | leaf x => exact ⟨none, 0, h, fun i hi => absurd hi (by simp [E.kids])⟩
  | one x a =>
    obtain ⟨sa, h1, g, cap, h2, h3, h4, h5⟩ := h
    refine ⟨_, cap, h2, fun i hi => ⟨g, sa, rfl, h4, ?_⟩⟩
    have hi' : i < 1 := hi
    obtain rfl : i = 0 := by omega
    exact ⟨h1, h5 0 _ rfl, h5 1 _ rfl, h5 2 _ rfl, h5 3 _ rfl⟩
  | two x a b =>
    obtain ⟨sa, sb, h1, h1b, g, cap, h2, h3, h4, h5⟩ := h
    refine ⟨_, cap, h2, fun i hi => ?_⟩
    have hi' : i < 2 := hi
    have hc : i = 0 ∨ i = 1 := by omega
    rcases hc with rfl | rfl
    · exact ⟨g, sa, rfl, h4, h1, h5 0 _ rfl, h5 1 _ rfl, h5 2 _ rfl, h5 3 _ rfl⟩
    · exact ⟨g, sb, rfl, h4, h1b, h5 4 _ rfl, h5 5 _ rfl, h5 6 _ rfl, h5 7 _ rfl⟩
end Go.Proofs.YtjffignbiabmaaaDoor.W

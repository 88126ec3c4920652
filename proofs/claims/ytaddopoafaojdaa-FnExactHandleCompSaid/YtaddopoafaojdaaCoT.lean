/-
  Computations as trees of two kinds, a number told or an operation with two computations behind it: their cells, and the specification's trees in memory. No program here but l9Tree's contract said of them.
-/
import Derived.Test.YtaddopoafaojdaaCoS
import Derived.Test.YtaddopoafaojdaaCoB
namespace Go.Proofs.Ytaddopoafaojdaa.C
open Go.Proofs.Ytaddopoafaojdaa.W
open Go.ChangeShapes Go.WideShapes Go.ChangeAt Go.RowKit
set_option linter.unusedVariables false

inductive Tr where
  | ret (n : Int)
  | ask (n : Int) (a b : Tr)
def Tr.x : Tr → Cc
  | .ret n => ⟨1, n⟩
  | .ask n _ _ => ⟨2, n⟩
def Tr.flat : Tr → List Cc
  | .ret n => [⟨1, n⟩]
  | .ask n a b => ⟨2, n⟩ :: (a.flat ++ b.flat)
def Tr.k : Tr → F
  | .ret _ => .nil
  | .ask _ a b => .cons a.x a.k (.cons b.x b.k .nil)
def Tr.ok : Tr → Prop
  | .ret n => inB n 0 99 = true
  | .ask n a b => inB n 0 2 = true ∧ a.ok ∧ b.ok
def toFs : List Tr → F
  | [] => .nil
  | t :: ts => .cons t.x t.k (toFs ts)
theorem toFs_len : ∀ ts : List Tr, (toFs ts).len = ts.length
  | [] => rfl
  | t :: ts => by simp [toFs, F.len, toFs_len ts]
theorem Tr.flat_x : ∀ t : Tr, t.x :: t.k.flat = t.flat
  | .ret n => rfl
  | .ask n a b => by
    have ha := Tr.flat_x a
    have hb := Tr.flat_x b
    show (⟨2, n⟩ : Cc) :: (a.x :: (a.k.flat ++ (b.x :: (b.k.flat ++ [])))) = ⟨2, n⟩ :: (a.flat ++ b.flat)
    rw [← ha, ← hb]; simp
theorem Tr.flat_pos (t : Tr) : 0 < t.flat.length := by cases t <;> simp [Tr.flat]
theorem Tr.fok : ∀ t : Tr, t.ok → goodC t.x = true ∧ t.k.len = ar t.x.k ∧ t.k.ok
  | .ret n, h => ⟨by simpa [goodC, Tr.x, Tr.ok] using h, rfl, trivial⟩
  | .ask n a b, ⟨h, ha, hb⟩ => by
    obtain ⟨a1, a2, a3⟩ := Tr.fok a ha
    obtain ⟨b1, b2, b3⟩ := Tr.fok b hb
    exact ⟨by simp [goodC, Tr.x, h], rfl, a1, a2, a3, b1, b2, b3, trivial⟩
/-- Good terms are such trees. -/
theorem F.trees : ∀ a : F, a.ok → ∃ ts : List Tr, a = toFs ts ∧ ∀ t ∈ ts, t.ok
  | .nil, _ => ⟨[], rfl, by simp⟩
  | .cons x k r, ⟨h1, h2, h3, h4⟩ => by
    obtain ⟨ks, rfl, hk⟩ := F.trees k h3
    obtain ⟨rs, rfl, hr⟩ := F.trees r h4
    rw [toFs_len] at h2
    obtain ⟨xk, xn⟩ := x
    rcases good_kinds h1 with e | e
    · simp only at e
      subst e
      obtain rfl : ks = [] := List.eq_nil_of_length_eq_zero h2
      refine ⟨.ret xn :: rs, rfl, ?_⟩
      intro t ht
      rcases List.mem_cons.1 ht with rfl | ht
      · simpa [goodC, Tr.ok] using h1
      · exact hr t ht
    · simp only at e
      subst e
      match ks, h2 with
      | [a, b], _ =>
        refine ⟨.ask xn a b :: rs, rfl, ?_⟩
        intro t ht
        rcases List.mem_cons.1 ht with rfl | ht
        · exact ⟨by simpa [goodC] using h1, hk a (by simp), hk b (by simp)⟩
        · exact hr t ht
theorem treeT_tr {l : List Cc} {a : F} (h : treeT l = some a) : ∃ t : Tr, a = .cons t.x t.k .nil ∧ t.ok ∧ l = t.flat ∧ l.length ≤ 60 := by
  obtain ⟨h1, h2, h3, h4, -⟩ := treeT_flat h
  obtain ⟨ts, rfl, ht⟩ := F.trees a h2
  rw [toFs_len] at h3
  match ts, h3 with
  | [t], _ =>
    refine ⟨t, rfl, ht t (by simp), ?_, h4⟩
    rw [h1, ← Tr.flat_x t]; simp [toFs, F.flat]
theorem good_tr {l : List Cc} (h : goodT l = true) : ∃ t : Tr, t.ok ∧ l = t.flat ∧ l.length ≤ 60 ∧ treeT l = some (.cons t.x t.k .nil) := by
  unfold goodT at h
  obtain ⟨a, ha⟩ := Option.isSome_iff_exists.1 h
  obtain ⟨t, rfl, h1, h2, h3⟩ := treeT_tr ha
  exact ⟨t, h1, h2, h3, ha⟩
theorem Tr.tree {t : Tr} (h : t.ok) (hl : t.flat.length ≤ 60) : treeT t.flat = some (.cons t.x t.k .nil) := by
  obtain ⟨h1, h2, h3⟩ := t.fok h
  have := treeT_back (a := .cons t.x t.k .nil) ⟨h1, h2, h3, trivial⟩ rfl
  simp only [F.flat, List.append_nil, Tr.flat_x] at this
  exact this hl
theorem Tr.good {t : Tr} (h : t.ok) (hl : t.flat.length ≤ 60) : goodT t.flat = true := by unfold goodT; rw [Tr.tree h hl]; rfl
theorem good_long {l : List Cc} (hl : ¬ l.length ≤ 60) : goodT l = false := by unfold goodT treeT; rw [if_neg hl]; rfl
theorem none_of_bad {l : List Cc} (h : goodT l = false) : treeT l = none := by unfold goodT at h; simpa using h

/-- A tree as the specification's value. -/
def CV (w : World) (P : Nat → Prop) : Tr → Value → Prop
  | .ret n, v => v = .agg #[.bool false, .int .i64 n, .slice none 0 0]
  | .ask n a b, v => ∃ (g cap : Nat) (ba : Bool) (na : Int) (sa : Value) (bb : Bool) (nb : Int) (sb : Value), v = .agg #[.bool true, .int .i64 n, .slice (some ⟨g, 0, none⟩) 2 cap] ∧ P g ∧ g < w.heap.size ∧
      w.cell? ⟨g, 0, none⟩ = some (.bool ba) ∧ w.cell? ⟨g, 1, none⟩ = some (.int .i64 na) ∧ w.cell? ⟨g, 2, none⟩ = some sa ∧
      w.cell? ⟨g, 3, none⟩ = some (.bool bb) ∧ w.cell? ⟨g, 4, none⟩ = some (.int .i64 nb) ∧ w.cell? ⟨g, 5, none⟩ = some sb ∧
      CV w P a (.agg #[.bool ba, .int .i64 na, sa]) ∧ CV w P b (.agg #[.bool bb, .int .i64 nb, sb])
theorem CV.keep {w w' : World} {P P' : Nat → Prop} (hs : w.heap.size ≤ w'.heap.size) (hk : ∀ k, P k → k < w.heap.size → w'.heap[k]? = w.heap[k]? ∧ P' k) : ∀ {t : Tr} {v : Value}, CV w P t v → CV w' P' t v
  | .ret n, v, h => h
  | .ask n a b, v, ⟨g, cap, ba, na, sa, bb, nb, sb, e, hP, hg, c0, c1, c2, c3, c4, c5, h1, h2⟩ => by
    obtain ⟨e1, e2⟩ := hk g hP hg
    have hc : ∀ o, w'.cell? ⟨g, o, none⟩ = w.cell? ⟨g, o, none⟩ := fun o => World.cell?_of_block (w := w) e1
    exact ⟨g, cap, ba, na, sa, bb, nb, sb, e, e2, Nat.lt_of_lt_of_le hg hs, (hc 0).trans c0, (hc 1).trans c1, (hc 2).trans c2, (hc 3).trans c3, (hc 4).trans c4, (hc 5).trans c5, CV.keep hs hk h1, CV.keep hs hk h2⟩
theorem CV.below {w w' : World} {P : Nat → Prop} {t : Tr} {v : Value} (h : CV w P t v) (hb : Below w.heap.size w w') : CV w' P t v := h.keep hb.size (fun k hp hk => ⟨hb.block k hk, hp⟩)
theorem CV.weak {w : World} {P P' : Nat → Prop} {t : Tr} {v : Value} (h : CV w P t v) (hp : ∀ k, P k → k < w.heap.size → P' k) : CV w P' t v := h.keep (Nat.le_refl _) (fun k h1 h2 => ⟨rfl, hp k h1 h2⟩)
theorem CV.grown {w w' : World} {P : Nat → Prop} {t : Tr} {v : Value} {row : Option Nat} (h : CV w P t v) (hg : w.grownBy w' row) (hn : ∀ k, P k → row ≠ some k) : CV w' P t v := h.keep hg.size (fun k hp hk => ⟨hg.block k hk (fun e => hn k hp e.symm), hp⟩)
theorem CV.form {w : World} {P : Nat → Prop} {t : Tr} {v : Value} (h : CV w P t v) : ∃ (b : Bool) (n : Int) (ad : Option Addr) (l c : Nat), v = .agg #[.bool b, .int .i64 n, .slice ad l c] := by
  cases t with
  | ret n => exact ⟨_, _, _, _, _, h⟩
  | ask n a b => obtain ⟨g, cap, ba, na, sa, bb, nb, sb, e, -⟩ := h; exact ⟨_, _, _, _, _, e⟩
theorem CV.drew {w : World} {P : Nat → Prop} {t : Tr} {v : Value} (h : CV w P t v) : CV w.drew P t v := h.keep (w := w) (w' := w.drew) (Nat.le_refl _) (fun k hp hk => ⟨rfl, hp⟩)
theorem KidT.cv {w : World} {P : Nat → Prop} : ∀ {t : Tr} {s : Value}, KidT w P t.k s → CV w P t (.agg #[.bool (akB t.x), .int .i64 t.x.n, s])
  | .ret n, s, ⟨ck, _, .inl ⟨_, e⟩⟩ => by rw [e]; rfl
  | .ret n, s, ⟨ck, _, .inr ⟨h, _⟩⟩ => by simp [Tr.k, F.len] at h
  | .ask n a b, s, h => by
    obtain ⟨g, cap, sx, e, hP, hg, hk, c0, c1, c2⟩ := KidT.kid (a := .nil) (k := a.k) (r := .cons b.x b.k .nil) (x := a.x) h
    obtain ⟨g', cap', sy, e', hP', hg', hk', c3, c4, c5⟩ := KidT.kid (a := .cons a.x a.k .nil) (k := b.k) (r := .nil) (x := b.x) h
    have he := e.symm.trans e'
    simp only [Value.slice.injEq, Option.some.injEq, Addr.mk.injEq, and_true] at he
    obtain ⟨rfl, -, rfl⟩ := he
    simp only [F.len, Nat.zero_mul, Nat.zero_add, Nat.one_mul] at c0 c1 c2 c3 c4 c5
    exact ⟨g, cap, _, _, sx, _, _, sy, by rw [e]; rfl, hP, hg, c0, c1, c2, c3, c4, c5, KidT.cv hk, KidT.cv hk'⟩

/-- What l9Tree tells, said of trees. -/
theorem l9Tree_tr (ad : Option Addr) (c : Nat) (l : List Cc) (w : World) (hl : l.length ≤ 1048576) (h : CRow w ad l) (t : Tr) (ht : treeT l = some (.cons t.x t.k .nil)) :
    Calls Try.prog 16 #[.slice ad l.length c] w fun e w' => Below w.heap.size w w' ∧ ∃ v, e = .returned (.tuple #[v, .bool true]) ∧ CV w' (fun g => w.heap.size ≤ g) t v := by
  refine (l9Tree_any ad c l w hl h).mono ?_
  rintro e w' ⟨hb, ho⟩
  rw [ht] at ho
  obtain ⟨x, k, s, he, rfl, hk⟩ := ho
  simp only [F.cons.injEq, and_true] at he
  obtain ⟨rfl, rfl⟩ := he
  exact ⟨hb, _, rfl, hk.cv⟩
theorem l9Tree_bad (ad : Option Addr) (c : Nat) (l : List Cc) (w : World) (hl : l.length ≤ 1048576) (h : CRow w ad l) (ht : goodT l = false) :
    Calls Try.prog 16 #[.slice ad l.length c] w fun e w' => Below w.heap.size w w' ∧ ∃ (k : Bool) (n : Int) (sad : Option Addr) (sn sc : Nat), e = .returned (.tuple #[.agg #[.bool k, .int .i64 n, .slice sad sn sc], .bool false]) := by
  refine (l9Tree_any ad c l w hl h).mono ?_
  rintro e w' ⟨hb, ho⟩
  rw [none_of_bad ht] at ho
  exact ⟨hb, ho⟩
end Go.Proofs.Ytaddopoafaojdaa.C

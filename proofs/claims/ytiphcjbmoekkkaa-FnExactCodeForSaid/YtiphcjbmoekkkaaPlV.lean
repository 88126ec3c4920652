/-
  Trees of chapter 13 as trees of two kinds, what they come to, how few places they need, and their code. No program here but the rows of code.
-/
import Derived.Test.YtiphcjbmoekkkaaPlP
import Derived.Test.YtiphcjbmoekkkaaRwK
namespace Go.Proofs.Ytiphcjbmoekkkaa.L
open Go.Proofs.Ytiphcjbmoekkkaa.W
set_option linter.unusedVariables false

inductive Tr where
  | ld (n : Int)
  | op (o : Int) (a b : Tr)
def Tr.x : Tr → Cc
  | .ld n => ⟨1, n⟩
  | .op o _ _ => ⟨o, 0⟩
def Tr.flat : Tr → List Cc
  | .ld n => [⟨1, n⟩]
  | .op o a b => ⟨o, 0⟩ :: (a.flat ++ b.flat)
def Tr.k : Tr → F
  | .ld _ => .nil
  | .op _ a b => .cons a.x a.k (.cons b.x b.k .nil)
def Tr.ok : Tr → Prop
  | .ld n => inB n (-1000) 1000 = true
  | .op o a b => inB o 2 4 = true ∧ a.ok ∧ b.ok
def toFs : List Tr → F
  | [] => .nil
  | t :: ts => .cons t.x t.k (toFs ts)
theorem toFs_len : ∀ ts : List Tr, (toFs ts).len = ts.length
  | [] => rfl
  | t :: ts => by simp [toFs, F.len, toFs_len ts]
theorem Tr.flat_x : ∀ t : Tr, t.x :: t.k.flat = t.flat
  | .ld n => rfl
  | .op o a b => by
    have ha := Tr.flat_x a
    have hb := Tr.flat_x b
    show (⟨o, 0⟩ : Cc) :: (a.x :: (a.k.flat ++ (b.x :: (b.k.flat ++ [])))) = ⟨o, 0⟩ :: (a.flat ++ b.flat)
    rw [← ha, ← hb]; simp
theorem Tr.flat_pos (t : Tr) : 0 < t.flat.length := by cases t <;> simp [Tr.flat]
theorem Tr.k_len (t : Tr) : t.k.flat.length + 1 = t.flat.length := by rw [← t.flat_x]; simp
theorem op_ne {o : Int} (h : inB o 2 4 = true) : o ≠ 1 := by unfold inB at h; simp at h; omega
theorem Tr.fok : ∀ t : Tr, t.ok → goodC t.x = true ∧ t.k.len = ar t.x.k ∧ t.k.ok
  | .ld n, h => ⟨by simpa [goodC, Tr.x, Tr.ok] using h, rfl, trivial⟩
  | .op o a b, ⟨h, ha, hb⟩ => by
    obtain ⟨a1, a2, a3⟩ := Tr.fok a ha
    obtain ⟨b1, b2, b3⟩ := Tr.fok b hb
    have ho := op_ne h
    exact ⟨by simp [goodC, Tr.x, h, ho], by simp [Tr.k, F.len, ar, Tr.x, ho], a1, a2, a3, b1, b2, b3, trivial⟩
/-- Good terms are such trees. -/
theorem F.trees : ∀ a : F, a.ok → ∃ ts : List Tr, a = toFs ts ∧ ∀ t ∈ ts, t.ok
  | .nil, _ => ⟨[], rfl, by simp⟩
  | .cons x k r, ⟨h1, h2, h3, h4⟩ => by
    obtain ⟨ks, rfl, hk⟩ := F.trees k h3
    obtain ⟨rs, rfl, hr⟩ := F.trees r h4
    rw [toFs_len] at h2
    obtain ⟨xk, xn⟩ := x
    by_cases e : xk = 1
    · subst e
      obtain rfl : ks = [] := List.eq_nil_of_length_eq_zero h2
      refine ⟨.ld xn :: rs, rfl, ?_⟩
      intro t ht
      rcases List.mem_cons.1 ht with rfl | ht
      · simpa [goodC, Tr.ok] using h1
      · exact hr t ht
    · simp only [ar, if_neg e] at h2
      simp only [goodC, if_neg e, Bool.and_eq_true, decide_eq_true_eq] at h1
      obtain ⟨h1, rfl⟩ := h1
      match ks, h2 with
      | [a, b], _ =>
        refine ⟨.op xk a b :: rs, rfl, ?_⟩
        intro t ht
        rcases List.mem_cons.1 ht with rfl | ht
        · exact ⟨h1, hk a (by simp), hk b (by simp)⟩
        · exact hr t ht
theorem treeT_tr {l : List Cc} {a : F} (h : treeT l = some a) : ∃ t : Tr, a = .cons t.x t.k .nil ∧ t.ok ∧ l = t.flat ∧ l.length ≤ 40 := by
  obtain ⟨h1, h2, h3, h4, -⟩ := treeT_flat h
  obtain ⟨ts, rfl, ht⟩ := F.trees a h2
  rw [toFs_len] at h3
  match ts, h3 with
  | [t], _ =>
    refine ⟨t, rfl, ht t (by simp), ?_, h4⟩
    rw [h1, ← Tr.flat_x t]; simp [toFs, F.flat]
theorem good_tr {l : List Cc} (h : goodT l = true) : ∃ t : Tr, t.ok ∧ l = t.flat ∧ l.length ≤ 40 ∧ treeT l = some (.cons t.x t.k .nil) := by
  unfold goodT at h
  obtain ⟨a, ha⟩ := Option.isSome_iff_exists.1 h
  obtain ⟨t, rfl, h1, h2, h3⟩ := treeT_tr ha
  exact ⟨t, h1, h2, h3, ha⟩
theorem none_of_bad {l : List Cc} (h : goodT l = false) : treeT l = none := by unfold goodT at h; simpa using h
theorem Tr.rt1 {t : Tr} (h : t.ok) (r : List Cc) : rt 1 (t.flat ++ r) = some (.cons t.x t.k .nil, r) := by
  obtain ⟨h1, h2, h3⟩ := t.fok h
  have := rt_back (.cons t.x t.k .nil) r ⟨h1, h2, h3, trivial⟩
  simpa [F.flat, F.len, Tr.flat_x] using this
theorem Tr.x_inj : ∀ {s t : Tr}, s.ok → t.ok → s.x = t.x → s.k = t.k → s = t
  | .ld n, .ld m, _, _, h, _ => by simp [Tr.x] at h; rw [h]
  | .ld n, .op o a b, _, ht, h, _ => by simp [Tr.x] at h; exact absurd h.1.symm (op_ne ht.1)
  | .op o a b, .ld n, hs, _, h, _ => by simp [Tr.x] at h; exact absurd h.1 (op_ne hs.1)
  | .op o a b, .op o' a' b', hs, ht, h, h2 => by
    simp [Tr.x] at h
    simp only [Tr.k, F.cons.injEq, and_true] at h2
    rw [h, Tr.x_inj hs.2.1 ht.2.1 h2.1 h2.2.1, Tr.x_inj hs.2.2 ht.2.2 h2.2.2.1 h2.2.2.2]
/-- One tree alone begins a row. -/
theorem Tr.front {s t : Tr} (hs : s.ok) (ht : t.ok) {r q : List Cc} (h : s.flat ++ r = t.flat ++ q) : s = t ∧ r = q := by
  have h1 := Tr.rt1 hs r
  rw [h, Tr.rt1 ht q] at h1
  simp only [Option.some.injEq, Prod.mk.injEq, F.cons.injEq, and_true] at h1
  obtain ⟨⟨h2, h3⟩, h4⟩ := h1
  exact ⟨Tr.x_inj hs ht h2.symm h3.symm, h4.symm⟩
/-- At each place of a good row a tree begins. -/
theorem Tr.at_ {t : Tr} (h : t.ok) {i : Nat} (hi : i < t.flat.length) : ∃ (s : Tr) (r : List Cc), s.ok ∧ t.flat.drop i = s.flat ++ r := by
  obtain ⟨h1, h2, h3⟩ := t.fok h
  have hf : (F.cons t.x t.k .nil).flat = t.flat := by simp [F.flat, Tr.flat_x]
  obtain ⟨b, r', hb⟩ := rt_within (.cons t.x t.k .nil) [] i ⟨h1, h2, h3, trivial⟩ (by rw [hf]; exact hi)
  rw [hf, List.append_nil] at hb
  obtain ⟨e, o, n⟩ := rt_flat hb
  obtain ⟨ts, rfl, ht⟩ := F.trees b o
  rw [toFs_len] at n
  match ts, n with
  | [s], _ => exact ⟨s, r', ht s (by simp), by rw [e]; simp [toFs, F.flat, Tr.flat_x]⟩
/-- The tree that begins at a place of a row. -/
def Sub (l : List Cc) (i : Nat) (s : Tr) : Prop := s.ok ∧ ∃ r, l.drop i = s.flat ++ r
theorem Sub.eq {l : List Cc} {i : Nat} {s t : Tr} (h1 : Sub l i s) (h2 : Sub l i t) : s = t := by
  obtain ⟨o1, r1, e1⟩ := h1
  obtain ⟨o2, r2, e2⟩ := h2
  exact (Tr.front o1 o2 (e1.symm.trans e2)).1
theorem Sub.lt {l : List Cc} {i : Nat} {s : Tr} (h : Sub l i s) : i + s.flat.length ≤ l.length := by
  obtain ⟨o, r, e⟩ := h
  have := congrArg List.length e
  have hp := s.flat_pos
  simp only [List.length_drop, List.length_append] at this
  omega
theorem Sub.lt' {l : List Cc} {i : Nat} {s : Tr} (h : Sub l i s) : i < l.length := by have := h.lt; have := s.flat_pos; omega
theorem Sub.cell {l : List Cc} {i : Nat} {s : Tr} (h : Sub l i s) (hi : i < l.length) : l[i] = s.x := by
  obtain ⟨o, r, e⟩ := h
  rw [List.drop_eq_getElem_cons hi, ← Tr.flat_x, List.cons_append] at e
  exact (List.cons.inj e).1
theorem Sub.kids {l : List Cc} {i : Nat} {o : Int} {a b : Tr} (h : Sub l i (.op o a b)) : Sub l (i + 1) a ∧ Sub l (i + 1 + a.flat.length) b := by
  obtain ⟨ok, r, e⟩ := h
  have e1 : l.drop (i + 1) = a.flat ++ (b.flat ++ r) := by
    rw [← List.drop_drop, e]; simp [Tr.flat]
  refine ⟨⟨ok.2.1, _, e1⟩, ok.2.2, r, ?_⟩
  rw [← List.drop_drop, e1]; simp
theorem Sub.root {t : Tr} (h : t.ok) : Sub t.flat 0 t := ⟨h, [], by simp⟩

/-- Modulo 1000003. -/
def nrm (z : Int) : Int := (z.tmod 1000003 + 1000003).tmod 1000003
theorem nrm_in (z : Int) : 0 ≤ nrm z ∧ nrm z < 1000003 := by
  unfold nrm
  have h1 := Int.lt_tmod_of_pos z (show (0 : Int) < 1000003 by decide)
  have h2 := Int.tmod_lt_of_pos z (show (0 : Int) < 1000003 by decide)
  have h3 : 0 ≤ z.tmod 1000003 + 1000003 := by omega
  exact ⟨Int.tmod_nonneg _ h3, Int.tmod_lt_of_pos _ (by decide)⟩
def doV (o a b : Int) : Int := if o = 2 then nrm (a + b) else if o = 3 then nrm (a - b) else nrm (a * b)
def Tr.val : Tr → Int
  | .ld n => nrm n
  | .op o a b => doV o a.val b.val
theorem doV_in (o a b : Int) : 0 ≤ doV o a b ∧ doV o a b < 1000003 := by unfold doV; split; · exact nrm_in _
                                                                         split <;> exact nrm_in _
theorem Tr.val_in : ∀ t : Tr, 0 ≤ t.val ∧ t.val < 1000003
  | .ld n => nrm_in n
  | .op o a b => doV_in _ _ _
def plN (a b : Nat) : Nat := if a = b then a + 1 else if a < b then b else a
def Tr.plc : Tr → Nat
  | .ld _ => 1
  | .op _ a b => plN a.plc b.plc
theorem Tr.plc_le : ∀ t : Tr, 1 ≤ t.plc ∧ t.plc ≤ t.flat.length
  | .ld n => ⟨Nat.le_refl _, Nat.le_refl _⟩
  | .op o a b => by
    have ha := Tr.plc_le a
    have hb := Tr.plc_le b
    simp only [Tr.plc, Tr.flat, List.length_cons, List.length_append, plN]
    split
    · omega
    · split <;> omega

/-- The code of the tree that begins at a place, from a number of a place on; R says of which trees the second part is done first. -/
def Tr.cd (R : Nat → Bool) : Tr → Nat → Nat → List Cd
  | .ld n, _, p => [⟨1, p, 0, 0, n⟩]
  | .op o a b, i, p =>
    if R i = true then b.cd R (i + 1 + a.flat.length) p ++ a.cd R (i + 1) (p + 1) ++ [⟨o, p, (p : Int) + 1, p, 0⟩]
    else a.cd R (i + 1) p ++ b.cd R (i + 1 + a.flat.length) (p + 1) ++ [⟨o, p, p, (p : Int) + 1, 0⟩]
theorem Tr.cd_len (R : Nat → Bool) : ∀ (t : Tr) (i p : Nat), (t.cd R i p).length = t.flat.length
  | .ld n, _, _ => rfl
  | .op o a b, i, p => by
    unfold Tr.cd
    split <;> simp [Tr.flat, Tr.cd_len R a, Tr.cd_len R b] <;> omega
/-- How many places it uses: the greatest number and one. -/
def Tr.us (R : Nat → Bool) : Tr → Nat → Nat → Nat
  | .ld n, _, p => p + 1
  | .op o a b, i, p => if R i = true then max (b.us R (i + 1 + a.flat.length) p) (a.us R (i + 1) (p + 1)) else max (a.us R (i + 1) p) (b.us R (i + 1 + a.flat.length) (p + 1))
theorem Tr.us_ge (R : Nat → Bool) : ∀ (t : Tr) (i p : Nat), p + 1 ≤ t.us R i p ∧ t.us R i p ≤ p + t.flat.length
  | .ld n, _, p => ⟨Nat.le_refl _, Nat.le_refl _⟩
  | .op o a b, i, p => by
    have h1 := Tr.us_ge R a (i + 1) p
    have h2 := Tr.us_ge R b (i + 1 + a.flat.length) p
    have h3 := Tr.us_ge R a (i + 1) (p + 1)
    have h4 := Tr.us_ge R b (i + 1 + a.flat.length) (p + 1)
    unfold Tr.us
    simp only [Tr.flat, List.length_cons, List.length_append]
    split <;> omega
/-- What usedBy tells of a row of steps, behind so many. -/
def usB : List Cd → Nat → Nat
  | [], u => u
  | c :: l, u => usB l (max u (c.to.toNat + 1))
theorem usB_app : ∀ (a b : List Cd) (u : Nat), usB (a ++ b) u = usB b (usB a u)
  | [], b, u => rfl
  | c :: a, b, u => usB_app a b _
theorem Tr.us_eq (R : Nat → Bool) : ∀ (t : Tr) (i p u : Nat), usB (t.cd R i p) u = max u (t.us R i p)
  | .ld n, _, p, u => by simp [Tr.cd, Tr.us, usB]
  | .op o a b, i, p, u => by
    have h1 := Tr.us_ge R a (i + 1) p
    have h2 := Tr.us_ge R b (i + 1 + a.flat.length) p
    unfold Tr.cd Tr.us
    split
    · rw [usB_app, usB_app, Tr.us_eq R b, Tr.us_eq R a]
      simp only [usB, Int.toNat_natCast]
      omega
    · rw [usB_app, usB_app, Tr.us_eq R a, Tr.us_eq R b]
      simp only [usB, Int.toNat_natCast]
      omega
/-- It hangs on what R says of the tree's own places alone. -/
theorem Tr.cd_congr {R R' : Nat → Bool} : ∀ (t : Tr) (i p : Nat), (∀ j, i ≤ j → j < i + t.flat.length → R j = R' j) → t.cd R i p = t.cd R' i p ∧ t.us R i p = t.us R' i p
  | .ld n, _, _, _ => ⟨rfl, rfl⟩
  | .op o a b, i, p, h => by
    have hl : (Tr.op o a b).flat.length = 1 + a.flat.length + b.flat.length := by simp [Tr.flat]; omega
    rw [hl] at h
    have ha : ∀ p, a.cd R (i + 1) p = a.cd R' (i + 1) p ∧ a.us R (i + 1) p = a.us R' (i + 1) p := fun p => Tr.cd_congr a (i + 1) p (fun j h1 h2 => h j (by omega) (by omega))
    have hb : ∀ p, b.cd R (i + 1 + a.flat.length) p = b.cd R' (i + 1 + a.flat.length) p ∧ b.us R (i + 1 + a.flat.length) p = b.us R' (i + 1 + a.flat.length) p := fun p => Tr.cd_congr b _ p (fun j h1 h2 => h j (by omega) (by omega))
    have hp := Tr.flat_pos a
    unfold Tr.cd Tr.us
    rw [h i (by omega) (by omega), (ha p).1, (ha p).2, (ha (p + 1)).1, (ha (p + 1)).2, (hb p).1, (hb p).2, (hb (p + 1)).1, (hb (p + 1)).2]
    exact ⟨rfl, rfl⟩
/-- Whether the second part needs more places. -/
def Tr.rg : Tr → Bool
  | .ld _ => false
  | .op _ a b => decide (a.plc < b.plc)
end Go.Proofs.Ytiphcjbmoekkkaa.L

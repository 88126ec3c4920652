/-
  A running machine of the program in memory: what is kept where fields are written and memory is made. No program here.
-/
import Derived.Test.YtdajalchdbgooaaMaT
import Derived.Test.YtdajalchdbgooaaMaK
import Derived.Deep.RegionHeld3
import Derived.Deep.RegionLaw
import Derived.Deep.AppendLies
import Derived.Deep.CutRange
namespace Go.Proofs.Ytdajalchdbgooaa.W
open Go.ChangeShapes Go.WideShapes Go.ChangeAt Go.RowKit
set_option linter.unusedVariables false

/-- A running machine in memory. -/
def RB (w : World) (rb lo : Nat) (tv : Value) (m : Mc) : Prop := ∃ sf sv sb, Bx w rb #[tv, .bool m.done, .int .i64 m.pl, .int .i64 m.env, .int .i64 m.val, sf, sv, sb] 77 ∧
  w.ownsRow lo 96 4 sf m.fs.length (rcells 4 Fm.c m.fs) ∧ w.ownsRow lo 74 4 sv m.vs.length (rcells 4 Vl.c m.vs) ∧ w.ownsRow lo 124 2 sb m.bs.length (rcells 2 Bd.c m.bs) ∧ lo ≤ rb
theorem own_bx {w : World} {rb lo n z : Nat} {cs : Array Value} {T T' : TypeId} {v : Value} {xs : List Value} (h : Bx w rb cs T) (ho : w.ownsRow lo T' z v n xs) (hT : T ≠ T') : v.ownBlock ≠ some rb := by
  intro e
  rcases ho.2 with ⟨h1, -⟩ | ⟨g, cap, cur, h1, -, hh, -⟩
  · rw [h1] at e; cases e
  · rw [h1] at e
    simp only [Value.ownBlock, Option.some.injEq] at e
    subst e
    unfold Bx at h
    rw [h] at hh
    simp only [Option.some.injEq, Obj.cells.injEq] at hh
    exact hT hh.2.1
theorem RB.lt {w : World} {rb lo : Nat} {tv : Value} {m : Mc} (h : RB w rb lo tv m) : rb < w.heap.size ∧ lo ≤ rb := by
  obtain ⟨sf, sv, sb, h1, -, -, -, h5⟩ := h
  exact ⟨h1.lt, h5⟩
/-- Only memory was made. -/
theorem RB.below {w w' : World} {rb lo : Nat} {tv : Value} {m : Mc} (h : RB w rb lo tv m) (hb : Below w.heap.size w w') : RB w' rb lo tv m := by
  obtain ⟨sf, sv, sb, h1, h2, h3, h4, h5⟩ := h
  exact ⟨sf, sv, sb, h1.below hb h1.lt, own_keep h2 (fun k _ hk => hb.block k hk), own_keep h3 (fun k _ hk => hb.block k hk), own_keep h4 (fun k _ hk => hb.block k hk), h5⟩
/-- Fields were written. -/
theorem RB.write {w w' : World} {rb lo : Nat} {tv : Value} {m : Mc} {d : Bool} {p e x : Int} (h : RB w rb lo tv m) (ho : Oth rb w w') (hx : ∀ sf sv sb, Bx w rb #[tv, .bool m.done, .int .i64 m.pl, .int .i64 m.env, .int .i64 m.val, sf, sv, sb] 77 → Bx w' rb #[tv, .bool d, .int .i64 p, .int .i64 e, .int .i64 x, sf, sv, sb] 77) : RB w' rb lo tv { m with done := d, pl := p, env := e, val := x } := by
  obtain ⟨sf, sv, sb, h1, h2, h3, h4, h5⟩ := h
  refine ⟨sf, sv, sb, hx _ _ _ h1, own_same h2 (fun k hk _ hl => ho.block k hl (fun e => own_bx h1 h2 (by decide) (e ▸ hk))), own_same h3 (fun k hk _ hl => ho.block k hl (fun e => own_bx h1 h3 (by decide) (e ▸ hk))), own_same h4 (fun k hk _ hl => ho.block k hl (fun e => own_bx h1 h4 (by decide) (e ▸ hk))), h5⟩
theorem oth_set {b : Nat} {x y : World} (h : Oth b x y) (i : Nat) (v : Value) : Oth b x (y.setCell ⟨b, i, none⟩ v) := h.setCell i v
theorem oth_alloc {b : Nat} {x y : World} (h : Oth b x y) (hb : b < x.heap.size) (o : Obj) : Oth b x (y.alloc o) := h.trans (Oth.ofBelow ((Below.refl _ _).alloc (Nat.le_refl _) _))
theorem oth_drew {b : Nat} {x y : World} (h : Oth b x y) : Oth b x y.drew := ⟨h.os, h.tape, h.output, h.size, h.block⟩

theorem rcells_drop {α : Type} (z : Nat) (f : α → Nat → Value) (l : List α) : rcells z f l.dropLast = (rcells z f l).take ((l.length - 1) * z) := by
  rcases List.eq_nil_or_concat l with rfl | ⟨a, x, rfl⟩
  · simp [rcells]
  · rw [List.concat_eq_append, List.dropLast_concat, rcells_app, List.length_append, List.take_append_of_le_length (by rw [rcells_len]; simp), List.take_of_length_le (by rw [rcells_len]; simp)]
theorem own_cut {α : Type} {w : World} {lo n z c : Nat} {f : α → Nat → Value} {T : TypeId} {ad : Option Addr} {l : List α} (h : w.ownsRow lo T z (.slice ad n c) n (rcells z f l)) (hn : n = l.length) (hp : 0 < n) : w.ownsRow lo T z (.slice ad (n - 1) c) (n - 1) (rcells z f l.dropLast) := by
  subst hn
  refine ⟨by rw [rcells_len]; simp, ?_⟩
  rcases h.2 with ⟨h1, h2⟩ | ⟨g, cap, cur, h1, hg, hh, h2, h3, h4, h5⟩
  · omega
  · simp only [Value.slice.injEq] at h1
    obtain ⟨rfl, -, rfl⟩ := h1
    refine .inr ⟨g, c, cur, rfl, hg, hh, by omega, h3, h4, ?_⟩
    rw [rcells_drop, ← h5, List.take_take]
    congr 1
    exact (Nat.min_eq_left (Nat.mul_le_mul_right _ (by omega))).symm

theorem RB.slots {w : World} {rb lo : Nat} {tv : Value} {m : Mc} (h : RB w rb lo tv m) : ∃ af cf av cv ab cb, Bx w rb #[tv, .bool m.done, .int .i64 m.pl, .int .i64 m.env, .int .i64 m.val, .slice af m.fs.length cf, .slice av m.vs.length cv, .slice ab m.bs.length cb] 77 ∧
    w.ownsRow lo 96 4 (.slice af m.fs.length cf) m.fs.length (rcells 4 Fm.c m.fs) ∧ w.ownsRow lo 74 4 (.slice av m.vs.length cv) m.vs.length (rcells 4 Vl.c m.vs) ∧ w.ownsRow lo 124 2 (.slice ab m.bs.length cb) m.bs.length (rcells 2 Bd.c m.bs) ∧ m.fs.length ≤ cf ∧ m.vs.length ≤ cv ∧ m.bs.length ≤ cb ∧ cf ≤ maxLen := by
  obtain ⟨sf, sv, sb, h1, h2, h3, h4, h5⟩ := h
  obtain ⟨af, cf, rfl⟩ := own_form h2
  obtain ⟨av, cv, rfl⟩ := own_form h3
  obtain ⟨ab, cb, rfl⟩ := own_form h4
  refine ⟨af, cf, av, cv, ab, cb, h1, h2, h3, h4, own_cap h2, own_cap h3, own_cap h4, ?_⟩
  rcases h2.2 with ⟨e, -⟩ | ⟨g, cap, cur, e, -, -, -, e2, -⟩
  · simp only [Value.slice.injEq] at e; unfold maxLen; omega
  · simp only [Value.slice.injEq] at e; omega

end Go.Proofs.Ytdajalchdbgooaa.W

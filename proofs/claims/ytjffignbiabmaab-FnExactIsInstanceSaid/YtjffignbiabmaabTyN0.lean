/-
  Types in the place of a type's variables, by the program: what its map holds. No conditions.
-/
import Derived.Test.YtjffignbiabmaabTyC
import Derived.Maps.OwnSet
namespace Go.Proofs.Ytjffignbiabmaab.Y
open Go.Proofs.Ytjffignbiabmaab.W
open Go.ChangeShapes Go.WideShapes Go.ChangeAt Go.RowKit
open Go.Maps
set_option linter.unusedVariables false

/-- How a slice reads: where it lies. -/
def dS (b o n c : Nat) : DataW Unit := .agg [.lit (.int .i64 (b : Int)), .lit (.int .i64 (o : Int)), .lit (.int .i64 (n : Int)), .lit (.int .i64 (c : Int))]
def rdS (v : Value) : Option (DataW Unit × List MemPlace) :=
  match v with
  | .slice (some ⟨b, o, none⟩) n c => some (dS b o n c, [])
  | .slice none 0 0 => some (.nil, [])
  | _ => none
theorem rdS_mk (b o n c : Nat) : rdS (.slice (some ⟨b, o, none⟩) n c) = some (dS b o n c, []) := rfl
theorem rdS_inv {v : Value} {b o n c : Nat} {ps : List MemPlace} (h : rdS v = some (dS b o n c, ps)) : v = .slice (some ⟨b, o, none⟩) n c := by
  unfold rdS at h
  split at h
  · simp only [Option.some.injEq, Prod.mk.injEq, dS, DataW.agg.injEq, List.cons.injEq, DataW.lit.injEq, Lit.int.injEq, true_and, Int.ofNat_inj, and_true] at h
    obtain ⟨⟨h1, h2, h3, h4⟩, -⟩ := h
    rw [h1, h2, h3, h4]
  · simp [dS] at h
  · cases h
theorem rdS_nil {v : Value} {ps : List MemPlace} (h : rdS v = some (.nil, ps)) : v = .slice none 0 0 := by
  unfold rdS at h
  split at h
  · simp [dS] at h
  · rfl
  · cases h

theorem lawN : Keyed Try.prog 3 := int_keyed Try.underlying3
theorem zeroS (w : World) : (zeroValue 33).run Try.prog w = .ok (.slice none 0 0) w := by kernel_rfl
theorem keyN {v : Int} (h0 : 0 ≤ v) (h1 : v ≤ 30) : keyOf Try.prog 3 (.int .i64 v) = some (.int .i64 v) := keyOf_int_mk Try.underlying3 (WalkArith.wf_i64 (by omega))

theorem look_some {P : Program} {w : World} {ops : Array Oper} {rest : List Oper} {o : Oper} {a : Act} {Q : Exit → Act → World → Prop} (hg : o.guard = none) (m x : Operand) (t : TypeId) (hop : o.op = Op.lookup t m x true)
    (k e : TypeId) (K : Keyed P k) (ht : P.underlying t = some (.map k e)) (hz : (zeroValue e).run P w = .ok (.slice none 0 0) w) (b n : Nat) (D : DataW Unit)
    (hm : a.eval m = .map (some b)) (hown : w.ownsMap P k rdS b n D) (key : Value) (kl : Lit) (hx : a.eval x = key) (hkey : keyOf P k key = some kl) (b0 o0 n0 c0 : Nat) (hat : D.atKey kl .nil = dS b0 o0 n0 c0) (hh : Maps.has D kl = true)
    (hK : wpList P ops Q rest (a.put o.dst (.tuple #[.slice (some ⟨b0, o0, none⟩) n0 c0, .bool true])) w) : wpList P ops Q (o :: rest) a w :=
  wpList_lookup_own_ok w hg m x t hop k e K ht rdS hz .nil [] rfl b n D hm hown key kl hx hkey (fun v ps hv => by
    rw [hat] at hv
    rw [rdS_inv hv, hh]
    exact hK)
theorem look_none {P : Program} {w : World} {ops : Array Oper} {rest : List Oper} {o : Oper} {a : Act} {Q : Exit → Act → World → Prop} (hg : o.guard = none) (m x : Operand) (t : TypeId) (hop : o.op = Op.lookup t m x true)
    (k e : TypeId) (K : Keyed P k) (ht : P.underlying t = some (.map k e)) (hz : (zeroValue e).run P w = .ok (.slice none 0 0) w) (b n : Nat) (D : DataW Unit)
    (hm : a.eval m = .map (some b)) (hown : w.ownsMap P k rdS b n D) (key : Value) (kl : Lit) (hx : a.eval x = key) (hkey : keyOf P k key = some kl) (hh : Maps.has D kl = false)
    (hK : wpList P ops Q rest (a.put o.dst (.tuple #[.slice none 0 0, .bool false])) w) : wpList P ops Q (o :: rest) a w :=
  wpList_lookup_own_ok w hg m x t hop k e K ht rdS hz .nil [] rfl b n D hm hown key kl hx hkey (fun v ps hv => by
    rw [atKey_of_not_has hh] at hv
    rw [rdS_nil hv, hh]
    exact hK)

/-- The map tells what stands in the place of each variable, rows of block b of w0. -/
def SM (w0 w : World) (B b N : Nat) (σ : Sg) : Prop := ∃ D : DataW Unit, w.ownsMap Try.prog 3 rdS B N D ∧ IsMap D ∧ (∀ n : Int, Maps.has D (.int .i64 n) = (σ n).isSome) ∧ ∀ (n : Int) (v : List Cc), σ n = some v → ∃ o c, D.atKey (.int .i64 n) .nil = dS b o v.length c ∧ CRowAt w0 b o v ∧ v.length ≤ 60
theorem SM.made (w0 w : World) (b : Nat) : SM w0 (w.alloc (.map #[] 0)) w.heap.size b 0 noS := ⟨.map [], World.ownsMap_made _ _ _ _, isMap_empty, fun v => by simp [Maps.has, noS], fun n v h => by cases h⟩
theorem SM.kept {w0 w w' : World} {B b N : Nat} {σ : Sg} {row : Option Nat} (h : SM w0 w B b N σ) (hg : w.grownBy w' row) (hne : some B ≠ row) : SM w0 w' B b N σ := by
  obtain ⟨D, h1, h2⟩ := h
  exact ⟨D, h1.kept hg hne, h2⟩
theorem SM.more {w0 w : World} {B b N : Nat} {σ : Sg} (h : SM w0 w B b N σ) : SM w0 w B b (N + 1) σ := by
  obtain ⟨D, h1, h2⟩ := h
  exact ⟨D, h1.mono (Nat.le_succ _), h2⟩
theorem SM.put {w0 w' : World} {B b N o c : Nat} {σ : Sg} {D : DataW Unit} {n : Int} {v : List Cc} (hI : IsMap D) (h3 : ∀ n : Int, Maps.has D (.int .i64 n) = (σ n).isSome) (h4 : ∀ (n : Int) (v : List Cc), σ n = some v → ∃ o c, D.atKey (.int .i64 n) .nil = dS b o v.length c ∧ CRowAt w0 b o v ∧ v.length ≤ 60)
    (hown : w'.ownsMap Try.prog 3 rdS B (N + 1) (D.put (.int .i64 n) (dS b o v.length c))) (hR : CRowAt w0 b o v) (h60 : v.length ≤ 60) : SM w0 w' B b (N + 1) (upd σ n v) := by
  refine ⟨_, hown, hI.put _ _, fun m => ?_, fun m u hu => ?_⟩
  · by_cases hm : m = n
    · subst hm
      rw [has_put_same hI (by trivial)]; simp [upd]
    · rw [has_put_other (by simpa using hm), h3]; simp [upd, hm]
  · by_cases hm : m = n
    · subst hm
      simp only [upd, if_true, Option.some.injEq] at hu
      subst hu
      exact ⟨o, c, atKey_put_same hI (by trivial) _ _, hR, h60⟩
    · simp only [upd, hm, if_false] at hu
      obtain ⟨o', c', e1, e2⟩ := h4 m u hu
      exact ⟨o', c', by rw [atKey_put_other (by simpa using hm)]; exact e1, e2⟩

theorem rowB_tail {w : World} {b o c : Nat} {x : Cc} {l : List Cc} (h : CRowAt w b o (x :: l)) (hc : l.length + 1 ≤ c) : ∃ ad1, ((c = 1 ∧ ad1 = some ⟨b, o, none⟩) ∨ (c ≠ 1 ∧ ad1 = some ⟨b, o + 2, none⟩)) ∧ CRowB w b ad1 l := by
  by_cases h1 : c = 1
  · exact ⟨_, .inl ⟨h1, rfl⟩, .inl (List.eq_nil_of_length_eq_zero (by omega))⟩
  · exact ⟨_, .inr ⟨h1, rfl⟩, .inr ⟨_, rfl, by simpa using h.drop 1⟩⟩
theorem rowAt_front {w : World} {b o : Nat} {l r : List Cc} (h : CRowAt w b o (l ++ r)) : CRowAt w b o l := ⟨h.1, fun i hi => by
  have := h.2 i (by simp; omega)
  rw [List.getElem_append_left hi] at this
  exact this⟩

end Go.Proofs.Ytjffignbiabmaab.Y

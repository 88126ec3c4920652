/-
  How many cells a term has: contracts of l3Size and of both SizeAt. Conditions: at most 1048576 cells.
-/
import Derived.Test.YtnmkbpflbfhpnaaTeS
namespace Go.Proofs.Ytnmkbpflbfhpnaa.W
open Go.ChangeShapes Go.WideShapes Go.ChangeAt Go.RowKit
set_option linter.unusedVariables false

/-- What holds of each kid's kids. -/
def F.all (Q : F → Prop) : F → Prop
  | .nil => True
  | .cons _ k r => Q k ∧ r.all Q
theorem F.all_app {Q : F → Prop} : ∀ {a b : F}, (a.app b).all Q ↔ a.all Q ∧ b.all Q
  | .nil, b => by simp [F.app, F.all]
  | .cons _ k r, b => by simp [F.app, F.all, F.all_app (a := r), and_assoc]
theorem F.all_of {Q : F → Prop} (h : ∀ a : F, a.all Q → Q a) : ∀ a : F, a.all Q
  | .nil => trivial
  | .cons _ k r => ⟨h k (F.all_of h k), F.all_of h r⟩
/-- A term from its kids on. -/
theorem F.rec_kids {Q : F → Prop} (h : ∀ a : F, a.all Q → Q a) (a : F) : Q a := h a (F.all_of h a)
theorem F.all_at {Q : F → Prop} {a k r : F} {x : Cc} (h : (a.app (.cons x k r)).all Q) : Q k := (F.all_app.1 h).2.1
theorem F.app_snoc (a k r : F) (x : Cc) : a.app (.cons x k r) = (a.app (.cons x k .nil)).app r := by rw [F.app_assoc]; rfl

def L3SGoal (k : F) : Prop := ∀ (x : Cc) (s : Value) (P : Nat → Prop) (w : World), k.flat.length ≤ 1048576 → KidT w P k s →
    Calls Try.prog 29 #[.agg #[.int .i64 x.k, .int .i64 x.n, s]] w fun e w' => e = .returned (.int .i64 ((k.flat.length + 1 : Nat) : Int)) ∧ Below w.heap.size w w'

set_option maxRecDepth 20000 in
set_option maxHeartbeats 2000000 in
theorem l3Size_any : ∀ k, L3SGoal k := by
  apply F.rec_kids
  intro k ih x s P w hfl hT
  have IH := hide ih
  have HT := hide hT
  obtain ⟨sad, sc, rfl⟩ := hT.form
  clear ih hT
  have hkl := F.len_flat k
  obtain ⟨KL, hKL⟩ : ∃ KL, KL = k.len := ⟨_, rfl⟩
  rw [← hKL] at HT hkl ⊢
  have HKL := hide hKL
  clear hKL
  go_enter Try.func29, Try.ntmps29
  go_wp2_with fail
  go_loopw [3, 9] (fun n3 i w' => ∃ d r : F, k = d.app r ∧ i = .int .i64 (d.len : Int) ∧ n3 = .int .i64 ((d.flat.length + 1 : Nat) : Int) ∧ Below w.heap.size w w') (fun _ i _ => KL - (intOf i).toNat)
  case atStart => exact ⟨.nil, k, rfl, rfl, rfl, (Below.refl _ _).alloc (Nat.le_refl _) _⟩
  case round =>
    obtain ⟨d, r, hk, rfl, rfl, hB⟩ := hrel
    cases r with
    | nil =>
      rw [F.app_nil] at hk
      subst hk
      have hKL := HKL.out
      rw [← hKL]
      clear hKL
      go_wp2_with fail
      go_ret
      exact ⟨rfl, hB⟩
    | cons y ky r =>
      have hkl2 : KL = d.len + (r.len + 1) := by rw [HKL.out, hk, F.app_len]; rfl
      have hlt' : (d.len : Int) < (KL : Int) := by omega
      have hfk : k.flat.length = d.flat.length + (1 + ky.flat.length + r.flat.length) := by rw [hk, F.app_flat]; simp [F.flat]; omega
      have hK := HT.out
      have hI := IH.out
      rw [hk] at hK hI
      obtain ⟨g, cap, sy, he, hP, hg, hTy, p0, p1, p2⟩ := hK.kid
      simp only [Value.slice.injEq] at he
      obtain ⟨rfl, -, rfl⟩ := he
      have q0 := (hB.cell (p := ⟨g, d.len * 3, none⟩) hg).trans p0
      have q1 := (hB.cell (p := ⟨g, d.len * 3 + 1, none⟩) hg).trans p1
      have q2 := (hB.cell (p := ⟨g, d.len * 3 + 2, none⟩) hg).trans p2
      have HC := hide (fun (w' : World) (hw' : Below w.heap.size w w') => F.all_at hI y sy P w' (by omega) (hTy.below hw'))
      obtain ⟨yad, yc, rfl⟩ := hTy.form
      have hsn := F.app_snoc d ky r y
      have hdl : (d.app (.cons y ky .nil)).len = d.len + 1 := by rw [F.app_len]; rfl
      have hdf : (d.app (.cons y ky .nil)).flat.length = d.flat.length + (ky.flat.length + 1) := by rw [F.app_flat]; simp [F.flat]
      have HSn := hide (hk.trans hsn)
      have HDl := hide hdl
      have HDf := hide hdf
      have Hk := hide hk
      clear p0 p1 p2 hTy hK hI hsn hdl hdf hk
      obtain ⟨dl, hdl⟩ : ∃ dl, dl = d.len := ⟨_, rfl⟩
      obtain ⟨df, hdf⟩ : ∃ df, df = d.flat.length := ⟨_, rfl⟩
      obtain ⟨kf, hkf⟩ : ∃ kf, kf = ky.flat.length := ⟨_, rfl⟩
      obtain ⟨kn, hkn⟩ : ∃ kn, kn = ky.len := ⟨_, rfl⟩
      rw [← hdl] at hlt' q0 q1 q2 HDl hkl2 ⊢
      rw [← hdf] at HDf hfk ⊢
      rw [← hkf] at HDf HC hfk
      rw [← hkn] at HC q2
      have HKl2 := hide hkl2
      clear hdl hdf hkf hkn hkl2
      have hfk2 : df + 1 + (kf + 1) ≤ 1048577 := by omega
      have HFk := hide hfk
      clear hfk
      go_wp2_with fail
      refine Calls.mono (HC.out _ (hB.alloc hB.size _)) ?_
      rintro e w2 ⟨rfl, hb2⟩
      have hB2 : Below w.heap.size w w2 := (hB.alloc hB.size _).trans (hb2.mono (by have := hB.size; simp; omega))
      clear hb2 HC q0 q1 q2
      go_wp2_with fail
      have hkl2 := HKl2.out
      exact ⟨⟨d.app (.cons y ky .nil), r, HSn.out, by rw [HDl.out]; go_num, by rw [HDf.out]; go_num, hB2⟩, by simp [intOf]; omega⟩

/-- How many cells the term at a place has. -/
def szT (l : List Cc) (p : Int) : Option Nat := if goodT l = true ∧ 0 ≤ p ∧ p < l.length then sz (l.drop p.toNat) 1 0 else none

theorem szT_within {l : List Cc} (hg : goodT l = true) {q : Nat} (hq : q < l.length) : ∃ x k r, rt 1 (l.drop q) = some (.cons x k .nil, r) ∧ szT l (q : Int) = some (k.flat.length + 1) ∧ k.flat.length < l.length := by
  unfold goodT at hg
  cases ht : treeT l with
  | none => rw [ht] at hg; cases hg
  | some a =>
    obtain ⟨h1, h2, h3, h4, h5⟩ := treeT_flat ht
    obtain ⟨b, r, hr⟩ := rt_within a [] q h2 (by rw [← h1]; exact hq)
    rw [List.append_nil, ← h1] at hr
    obtain ⟨e, o, n⟩ := rt_flat hr
    obtain ⟨x, k, rfl⟩ := F.len_1 n
    refine ⟨x, k, r, hr, ?_, ?_⟩
    · unfold szT
      rw [if_pos ⟨by unfold goodT; rw [ht]; rfl, by omega, by omega⟩, Int.toNat_natCast, sz_rd, hr]
      simp [F.flat]
    · have := congrArg List.length e
      simp [F.flat] at this
      omega
end Go.Proofs.Ytnmkbpflbfhpnaa.W

/-
  All that a term leads to at once: the model. No program here.
-/
import Derived.Test.YtjalakdpmglamaaJj
namespace Go.Proofs.Ytjalakdpmglamaa.W
set_option linter.unusedVariables false

/-- Whether two rows are the same. -/
def sameR : List Cc → List Cc → Bool
  | [], [] => true
  | x :: l, y :: r => decide (x.k = y.k) && (decide (x.n = y.n) && sameR l r)
  | _, _ => false
theorem sameR_iff : ∀ (l r : List Cc), sameR l r = true ↔ l = r
  | [], [] => by simp [sameR]
  | [], _ :: _ => by simp [sameR]
  | _ :: _, [] => by simp [sameR]
  | x :: l, y :: r => by
    obtain ⟨a, b⟩ := x
    obtain ⟨c, d⟩ := y
    simp only [sameR, Bool.and_eq_true, decide_eq_true_eq, sameR_iff l r, List.cons.injEq, Cc.mk.injEq, and_assoc]
/-- Whether two are the same, term by term. -/
def sameF : F → F → Bool
  | .nil, .nil => true
  | .cons x k r, .cons y m q => (decide (x.k = y.k) && (decide (x.n = y.n) && sameF k m)) && sameF r q
  | .nil, .cons _ _ _ => false
  | .cons _ _ _, .nil => false
theorem sameF_iff : ∀ (a b : F), sameF a b = true ↔ a = b
  | .nil, .nil => by simp [sameF]
  | .nil, .cons _ _ _ => by simp [sameF]
  | .cons _ _ _, .nil => by simp [sameF]
  | .cons x k r, .cons y m q => by
    obtain ⟨a, b⟩ := x
    obtain ⟨c, d⟩ := y
    simp only [sameF, Bool.and_eq_true, decide_eq_true_eq, sameF_iff k m, sameF_iff r q, F.cons.injEq, Cc.mk.injEq, and_assoc]
theorem sameF_app : ∀ (a b c d : F), a.len = b.len → sameF (a.app c) (b.app d) = (sameF a b && sameF c d)
  | .nil, .nil, c, d, _ => by simp [F.app, sameF]
  | .nil, .cons _ _ _, c, d, h => by simp [F.len] at h
  | .cons _ _ _, .nil, c, d, h => by simp [F.len] at h
  | .cons x k r, .cons y m q, c, d, h => by
    simp only [F.len, Nat.add_right_cancel_iff] at h
    simp only [F.app, sameF, sameF_app r q c d h, Bool.and_assoc]
/-- Rows of which each cell tells how many are behind it are the same as trees where they are the same as rows. -/
def F.ard : F → Prop
  | .nil => True
  | .cons x k r => k.len = ar x.k ∧ k.ard ∧ r.ard
theorem flat_cut : ∀ (a b : F) (u v : List Cc), a.ard → b.ard → a.len = b.len → a.flat ++ u = b.flat ++ v → a = b ∧ u = v
  | .nil, .nil, u, v, _, _, _, h => ⟨rfl, by simpa [F.flat] using h⟩
  | .nil, .cons _ _ _, u, v, _, _, h, _ => by simp [F.len] at h
  | .cons _ _ _, .nil, u, v, _, _, h, _ => by simp [F.len] at h
  | .cons x k r, .cons y m q, u, v, ⟨a1, a2, a3⟩, ⟨b1, b2, b3⟩, h, e => by
    simp only [F.len, Nat.add_right_cancel_iff] at h
    simp only [F.flat, List.cons_append, List.cons.injEq, List.append_assoc] at e
    obtain ⟨rfl, e⟩ := e
    obtain ⟨rfl, e2⟩ := flat_cut k m _ _ a2 b2 (by rw [a1, b1]) e
    obtain ⟨rfl, e3⟩ := flat_cut r q _ _ a3 b3 h e2
    exact ⟨rfl, e3⟩
theorem flat_inj {a b : F} (ha : a.ard) (hb : b.ard) (hl : a.len = b.len) (h : a.flat = b.flat) : a = b := (flat_cut a b [] [] ha hb hl (by simpa using h)).1
theorem same_flat {a b : F} (ha : a.ard) (hb : b.ard) (hl : a.len = b.len) : sameR a.flat b.flat = sameF a b := by
  rw [Bool.eq_iff_iff, sameR_iff, sameF_iff]
  exact ⟨flat_inj ha hb hl, fun h => by rw [h]⟩
/-- A term more, once. -/
def ldA (l : List (Cc × F)) (p : Cc × F) : List (Cc × F) := if (l.any fun q => sameR (q.1 :: q.2.flat) (p.1 :: p.2.flat)) = true then l else l ++ [p]
/-- Those that redexes come to, behind others. -/
def ldC (x : Cc) : List (Cc × F) → List F → Option (List (Cc × F))
  | out, [] => some out
  | out, w :: r => match ctrO x w with
    | none => none
    | some p => ldC x (ldA out p) r
/-- The same, given up as soon as there are too many. -/
def ldE (x : Cc) : List (Cc × F) → List F → Option (List (Cc × F))
  | out, [] => some out
  | out, w :: r => match ctrO x w with
    | none => none
    | some p => if 200 < (ldA out p).length then none else ldE x (ldA out p) r
def ldX (x : Cc) (rd : Bool) (ws : List F) : Option (List (Cc × F)) :=
  if ∃ w ∈ ws, 600 < w.flat.length + 1 then none
  else if rd = true then (match ldC x (ws.map fun w => (x, w)) ws with | none => none | some out => if out.length ≤ 200 then some out else none)
  else if ws.length ≤ 200 then some (ws.map fun w => (x, w)) else none
/-- Each of the fronts with each of these behind it. -/
def ldW (ws : List F) (l : List (Cc × F)) : List F := ws.flatMap fun w => l.map fun y => w.app (.cons y.1 y.2 .nil)
def ldG : List F → F → Option (List F)
  | ws, .nil => some ws
  | ws, .cons x k r => match (match ldG [.nil] k with | none => none | some us => ldX x (redx x k) us) with
    | none => none
    | some l => if 200 < (ldW ws l).length then none else ldG (ldW ws l) r
def ldT (x : Cc) (k : F) : Option (List (Cc × F)) := match ldG [.nil] k with | none => none | some us => ldX x (redx x k) us
theorem ldG_cons (ws : List F) (x : Cc) (k r : F) : ldG ws (.cons x k r) = match ldT x k with | none => none | some l => if 200 < (ldW ws l).length then none else ldG (ldW ws l) r := by
  rw [ldG]; rfl
theorem ldG_app : ∀ (a b : F) (ws : List F), ldG ws (a.app b) = match ldG ws a with | none => none | some us => ldG us b
  | .nil, b, ws => rfl
  | .cons x k r, b, ws => by
    show ldG ws (.cons x k (r.app b)) = _
    rw [ldG_cons, ldG_cons]
    cases ldT x k with
    | none => rfl
    | some l =>
      simp only
      by_cases h : 200 < (ldW ws l).length
      · rw [if_pos h, if_pos h]
      · rw [if_neg h, if_neg h]
        exact ldG_app r b _

theorem ldA_le (l : List (Cc × F)) (p : Cc × F) : l.length ≤ (ldA l p).length := by
  unfold ldA
  split
  · exact Nat.le_refl _
  · simp
theorem ldA_le1 (l : List (Cc × F)) (p : Cc × F) : (ldA l p).length ≤ l.length + 1 := by
  unfold ldA
  split
  · omega
  · simp
theorem ldC_le (x : Cc) : ∀ (ws : List F) (out res : List (Cc × F)), ldC x out ws = some res → out.length ≤ res.length
  | [], out, res, h => by simp only [ldC, Option.some.injEq] at h; rw [h]; exact Nat.le_refl _
  | w :: r, out, res, h => by
    rw [ldC] at h
    cases hc : ctrO x w with
    | none => rw [hc] at h; cases h
    | some p =>
      rw [hc] at h
      have := ldC_le x r _ res h
      have := ldA_le out p
      omega
/-- To give up early tells the same. -/
theorem ldE_eq (x : Cc) : ∀ (ws : List F) (out : List (Cc × F)), out.length ≤ 200 → ldE x out ws = (match ldC x out ws with | none => none | some res => if res.length ≤ 200 then some res else none)
  | [], out, h => by simp only [ldE, ldC]; rw [if_pos h]
  | w :: r, out, h => by
    rw [ldE, ldC]
    cases hc : ctrO x w with
    | none => rfl
    | some p =>
      simp only
      by_cases h2 : 200 < (ldA out p).length
      · rw [if_pos h2]
        cases hr : ldC x (ldA out p) r with
        | none => rfl
        | some res =>
          have := ldC_le x r _ res hr
          simp only
          rw [if_neg (by omega)]
      · rw [if_neg h2]
        exact ldE_eq x r _ (by omega)
theorem ldW_len (l : List (Cc × F)) : ∀ ws : List F, (ldW ws l).length = ws.length * l.length
  | [] => by simp [ldW]
  | w :: r => by
    have := ldW_len l r
    unfold ldW at this ⊢
    rw [List.flatMap_cons, List.length_append, this, List.length_map, List.length_cons, Nat.succ_mul]
    omega
theorem ldX_le {x : Cc} {rd : Bool} {ws : List F} {l : List (Cc × F)} (h : ldX x rd ws = some l) : l.length ≤ 200 ∧ ws.length ≤ l.length := by
  unfold ldX at h
  split at h
  · cases h
  · split at h
    · cases hc : ldC x (ws.map fun w => (x, w)) ws with
      | none => rw [hc] at h; cases h
      | some out =>
        rw [hc] at h
        simp only at h
        split at h
        · rename_i h2
          simp only [Option.some.injEq] at h
          have := ldC_le x _ _ _ hc
          rw [List.length_map] at this
          rw [← h]
          exact ⟨h2, this⟩
        · cases h
    · split at h
      · rename_i h2
        simp only [Option.some.injEq] at h
        rw [← h, List.length_map]
        exact ⟨h2, Nat.le_refl _⟩
      · cases h
theorem ldG_pos : ∀ (a : F) (ws us : List F), 0 < ws.length → ws.length ≤ 200 → ldG ws a = some us → 0 < us.length ∧ us.length ≤ 200
  | .nil, ws, us, h0, h2, h => by simp only [ldG, Option.some.injEq] at h; rw [← h]; exact ⟨h0, h2⟩
  | .cons x k r, ws, us, h0, h2, h => by
    rw [ldG_cons] at h
    cases ht : ldT x k with
    | none => rw [ht] at h; cases h
    | some l =>
      rw [ht] at h
      simp only at h
      split at h
      · cases h
      · rename_i h3
        have hl : 0 < l.length := by
          unfold ldT at ht
          cases hg : ldG [.nil] k with
          | none => rw [hg] at ht; cases ht
          | some vs =>
            rw [hg] at ht
            have := (ldG_pos k [.nil] vs (by simp) (by simp) hg).1
            have := (ldX_le ht).2
            omega
        refine ldG_pos r _ us ?_ (by omega) h
        rw [ldW_len]
        exact Nat.mul_pos h0 hl
/-- Each of them has as many terms behind it as the one that is read. -/
theorem ldG_len : ∀ (a : F) (n : Nat) (ws us : List F), (∀ w ∈ ws, w.len = n) → ldG ws a = some us → ∀ u ∈ us, u.len = n + a.len
  | .nil, n, ws, us, h0, h, u, hu => by
    simp only [ldG, Option.some.injEq] at h
    rw [← h] at hu
    rw [h0 u hu]
    rfl
  | .cons x k r, n, ws, us, h0, h, u, hu => by
    rw [ldG_cons] at h
    cases ht : ldT x k with
    | none => rw [ht] at h; cases h
    | some l =>
      rw [ht] at h
      simp only at h
      split at h
      · cases h
      · have := ldG_len r (n + 1) (ldW ws l) us (fun w hw => by
          unfold ldW at hw
          rw [List.mem_flatMap] at hw
          obtain ⟨v, hv, hw⟩ := hw
          rw [List.mem_map] at hw
          obtain ⟨y, -, rfl⟩ := hw
          rw [F.app_len, h0 v hv]
          rfl) h u hu
        rw [this, F.len]
        omega
end Go.Proofs.Ytjalakdpmglamaa.W

/-
  Some texts of this proof in one: TeKm, TeLm.
-/
import Derived.Test.YtjmgnljjeogdlaaJj
import Derived.Test.YtjmgnljjeogdlaaJk
/-
  What redexes come to: the model. No program here.
-/
namespace Go.Proofs.Ytjmgnljjeogdlaa.W
set_option linter.unusedVariables false

/-- A term with another in the place of its first variable, where there is room. -/
def putO (b : Cc) (kb : F) (z : Cc) (kz : F) : Option (Cc × F) := if kb.flat.length + 1 + us1 0 b kb * kz.flat.length ≤ 600 then some (sbr 0 z 0 b, sbk 0 z kz 0 b kb) else none
/-- What a redex comes to, where there is room. -/
def ctrO (x : Cc) : F → Option (Cc × F)
  | .nil => none
  | .cons y ky r =>
    if x.k = 4 then (match ky, r with | .cons b kb _, .cons z kz _ => putO b kb z kz | _, _ => none)
    else if x.k = 7 then (match r with | .cons b kb _ => putO b kb y ky | .nil => none)
    else if x.k = 5 then (match r with | .cons z _ _ => some (⟨2, y.n + z.n⟩, .nil) | .nil => none)
    else (match r with | .cons z kz (.cons u ku _) => some (if y.n = 0 then (z, kz) else (u, ku)) | _ => none)

/-- A good term, by its first cell and those behind it. -/
def okT (x : Cc) (k : F) : Prop := goodC x = true ∧ k.len = ar x.k ∧ k.ok

inductive Red (x : Cc) (k : F) : Prop
  | app (y b z : Cc) (kb kz : F) (hx : x.k = 4) (hk : k = .cons y (.cons b kb .nil) (.cons z kz .nil)) (hy : y.k = 3) (hb : okT b kb) (hz : okT z kz)
  | lett (y b : Cc) (ky kb : F) (hx : x.k = 7) (hk : k = .cons y ky (.cons b kb .nil)) (hy : okT y ky) (hb : okT b kb)
  | add (y z : Cc) (hx : x.k = 5) (hk : k = .cons y .nil (.cons z .nil .nil)) (hy : y.k = 2) (hz : z.k = 2) (hyn : -1000000 ≤ y.n ∧ y.n ≤ 1000000) (hzn : -1000000 ≤ z.n ∧ z.n ≤ 1000000) (hs : inB (y.n + z.n) (-1000000) 1000000 = true)
  | iff (y z u : Cc) (kz ku : F) (hx : x.k = 6) (hk : k = .cons y .nil (.cons z kz (.cons u ku .nil))) (hy : y.k = 2) (hz : okT z kz) (hu : okT u ku)

theorem red_of {x : Cc} {k : F} (h : okT x k) (hr : redx x k = true) : Red x k := by
  obtain ⟨hg, hl, ho⟩ := h
  unfold redx at hr
  by_cases h4 : x.k = 4
  · rw [if_pos h4] at hr
    rw [h4] at hl
    obtain ⟨y, ky, z, kz, rfl⟩ := F.len_2 (show k.len = 2 by rw [hl]; rfl)
    obtain ⟨gy, ly, oy, gz, lz, oz, -⟩ := ho
    have hy : y.k = 3 := of_decide_eq_true hr
    rw [hy] at ly
    obtain ⟨b, kb, rfl⟩ := F.len_1 (show ky.len = 1 by rw [ly]; rfl)
    obtain ⟨gb, lb, ob, -⟩ := oy
    exact .app y b z kb kz h4 rfl hy ⟨gb, lb, ob⟩ ⟨gz, lz, oz⟩
  · rw [if_neg h4] at hr
    by_cases h7 : x.k = 7
    · rw [h7] at hl
      obtain ⟨y, ky, b, kb, rfl⟩ := F.len_2 (show k.len = 2 by rw [hl]; rfl)
      obtain ⟨gy, ly, oy, gb, lb, ob, -⟩ := ho
      exact .lett y b ky kb h7 rfl ⟨gy, ly, oy⟩ ⟨gb, lb, ob⟩
    · rw [if_neg h7] at hr
      by_cases h5 : x.k = 5
      · rw [if_pos h5] at hr
        rw [h5] at hl
        obtain ⟨y, ky, z, kz, rfl⟩ := F.len_2 (show k.len = 2 by rw [hl]; rfl)
        obtain ⟨gy, ly, oy, gz, lz, oz, -⟩ := ho
        rw [Bool.and_eq_true, Bool.and_eq_true] at hr
        obtain ⟨hy0, hz0, hs⟩ := hr
        have hy : y.k = 2 := of_decide_eq_true hy0
        have hz : z.k = 2 := of_decide_eq_true hz0
        have ey : ky = .nil := F.len_0 (by rw [ly, hy]; rfl)
        have ez : kz = .nil := F.len_0 (by rw [lz, hz]; rfl)
        subst ey ez
        exact .add y z h5 rfl hy hz (num_n gy hy) (num_n gz hz) hs
      · rw [if_neg h5] at hr
        by_cases h6 : x.k = 6
        · rw [if_pos h6] at hr
          rw [h6] at hl
          obtain ⟨y, ky, z, kz, u, ku, rfl⟩ := F.len_3 (show k.len = 3 by rw [hl]; rfl)
          obtain ⟨gy, ly, oy, gz, lz, oz, gu, lu, ou, -⟩ := ho
          have hy : y.k = 2 := of_decide_eq_true hr
          have ey : ky = .nil := F.len_0 (by rw [ly, hy]; rfl)
          subst ey
          exact .iff y z u kz ku h6 rfl hy ⟨gz, lz, oz⟩ ⟨gu, lu, ou⟩
        · rw [if_neg h6] at hr; cases hr

/-! ### by value -/
/-- How many of its parts a term of this kind asks to be values. -/
def pc (k : Int) : Nat := if k = 4 ∨ k = 5 then 2 else if k = 7 ∨ k = 6 then 1 else 0
/-- The place of the redex that steps by value, among terms one behind the other. -/
def cpk : F → Nat → Nat → Option (Nat × Bool)
  | .nil, _, _ => none
  | .cons y ky r, m, at_ => if m = 0 then none else if isVal y.k = true then cpk r (m - 1) (at_ + (ky.flat.length + 1)) else some (match cpk ky (pc y.k) 1 with | some q => (at_ + q.1, q.2) | none => (at_, redx y ky))
def cpl (x : Cc) (k : F) : Nat × Bool := match cpk k (pc x.k) 1 with | some q => q | none => (0, redx x k)
/-- A term whose parts may have stepped, or which is contracted. -/
def hdO (c : Option (Option F)) (y : Cc) (ky : F) : Option (Cc × F) := match c with | some (some ky') => some (y, ky') | some none => none | none => if redx y ky = true then ctrO y ky else none
/-- Terms one behind the other, of which one has stepped by value. -/
def clk : F → Nat → Option (Option F)
  | .nil, _ => none
  | .cons y ky r, m => if m = 0 then none else if isVal y.k = true then (clk r (m - 1)).map (·.map (.cons y ky ·)) else
      some ((hdO (clk ky (pc y.k)) y ky).map fun p : Cc × F => F.cons p.1 p.2 r)
def cl (x : Cc) (k : F) : Option (Cc × F) := hdO (clk k (pc x.k)) x k

/-- What a place among cells tells: a redex there, and what is made where it is contracted. -/
def Place (l : List Cc) (at_ : Nat) (r : Option (List Cc)) : Prop :=
  ∃ pre y ky post, l = pre ++ (y :: (ky.flat ++ post)) ∧ pre.length = at_ ∧ okT y ky ∧ redx y ky = true ∧ r = (ctrO y ky).map fun p => pre ++ (p.1 :: (p.2.flat ++ post))
theorem Place.app {l : List Cc} {at_ : Nat} {r : Option (List Cc)} (h : Place l at_ r) (a b : List Cc) : Place (a ++ (l ++ b)) (a.length + at_) (r.map fun m => a ++ (m ++ b)) := by
  obtain ⟨pre, y, ky, post, h1, h2, h3, h4, h5⟩ := h
  refine ⟨a ++ pre, y, ky, post ++ b, by rw [h1]; simp, by simp [h2], h3, h4, ?_⟩
  rw [h5]
  cases ctrO y ky with
  | none => rfl
  | some p => simp

/-- Both ways to tell the step by value agree. -/
theorem step_agree : ∀ (a : F) (m at_ : Nat), a.ok →
    (cpk a m at_ = none ∧ clk a m = none) ∨
    (∃ q c, cpk a m at_ = some q ∧ clk a m = some c ∧ ((q.2 = false ∧ c = none) ∨ (q.2 = true ∧ ∃ pos, q.1 = at_ + pos ∧ Place a.flat pos (c.map F.flat))))
  | .nil, m, at_, _ => .inl ⟨rfl, rfl⟩
  | .cons y ky r, m, at_, ⟨h1, h2, h3, h4⟩ => by
    by_cases hm : m = 0
    · exact .inl ⟨by rw [cpk, if_pos hm], by rw [clk, if_pos hm]⟩
    · by_cases hv : isVal y.k = true
      · have e1 : cpk (.cons y ky r) m at_ = cpk r (m - 1) (at_ + (ky.flat.length + 1)) := by rw [cpk, if_neg hm, if_pos hv]
        have e2 : clk (.cons y ky r) m = (clk r (m - 1)).map (·.map (.cons y ky ·)) := by rw [clk, if_neg hm, if_pos hv]
        rw [e1, e2]
        rcases step_agree r (m - 1) (at_ + (ky.flat.length + 1)) h4 with ⟨i1, i2⟩ | ⟨q, c, i1, i2, i3⟩
        · exact .inl ⟨i1, by rw [i2]; rfl⟩
        · refine .inr ⟨q, c.map (.cons y ky ·), i1, by rw [i2]; rfl, ?_⟩
          rcases i3 with ⟨j1, j2⟩ | ⟨j1, pos, j2, j3⟩
          · exact .inl ⟨j1, by rw [j2]; rfl⟩
          · refine .inr ⟨j1, ky.flat.length + 1 + pos, by omega, ?_⟩
            have := j3.app (y :: ky.flat) []
            simp only [List.append_nil, List.length_cons] at this
            have e3 : (F.cons y ky r).flat = (y :: ky.flat) ++ r.flat := by simp [F.flat]
            rw [e3]
            have e4 : ((c.map (F.cons y ky ·)).map F.flat) = (c.map F.flat).map fun m => (y :: ky.flat) ++ m := by cases c <;> simp [F.flat]
            rw [e4]
            exact this
      · have e1 : cpk (.cons y ky r) m at_ = some (match cpk ky (pc y.k) 1 with | some q => (at_ + q.1, q.2) | none => (at_, redx y ky)) := by rw [cpk, if_neg hm, if_neg hv]
        have e2 : clk (.cons y ky r) m = some ((hdO (clk ky (pc y.k)) y ky).map fun p : Cc × F => F.cons p.1 p.2 r) := by rw [clk, if_neg hm, if_neg hv]
        refine .inr ⟨_, _, e1, e2, ?_⟩
        have e3 : (F.cons y ky r).flat = (y :: ky.flat) ++ r.flat := by simp [F.flat]
        rcases step_agree ky (pc y.k) 1 h3 with ⟨i1, i2⟩ | ⟨q, c, i1, i2, i3⟩
        · rw [i1, i2]
          cases hr : redx y ky with
          | false => exact .inl ⟨rfl, by simp [hdO, hr]⟩
          | true =>
            refine .inr ⟨rfl, 0, rfl, ?_⟩
            refine ⟨[], y, ky, r.flat, by rw [e3]; simp, rfl, ⟨h1, h2, h3⟩, hr, ?_⟩
            have e5 : hdO none y ky = ctrO y ky := by simp [hdO, hr]
            rw [e5]
            cases ctrO y ky with
            | none => rfl
            | some p => simp [F.flat]
        · rw [i1, i2]
          rcases i3 with ⟨j1, j2⟩ | ⟨j1, pos, j2, j3⟩
          · subst j2
            exact .inl ⟨j1, rfl⟩
          · refine .inr ⟨j1, 1 + pos, by simp only; omega, ?_⟩
            have := j3.app [y] r.flat
            simp only [List.length_singleton] at this
            rw [show (F.cons y ky r).flat = [y] ++ (ky.flat ++ r.flat) by simp [F.flat]]
            have e4 : (Option.map F.flat ((hdO (some c) y ky).map fun p : Cc × F => F.cons p.1 p.2 r)) = (c.map F.flat).map fun m => [y] ++ (m ++ r.flat) := by cases c <;> simp [F.flat, hdO]
            rw [e4]
            exact this

/-- .. of one term. -/
theorem step_one {x : Cc} {k : F} (h : okT x k) : ((cpl x k).2 = false ∧ cl x k = none) ∨ ((cpl x k).2 = true ∧ Place (x :: k.flat) (cpl x k).1 ((cl x k).map fun p => p.1 :: p.2.flat)) := by
  unfold cpl cl
  rcases step_agree k (pc x.k) 1 h.2.2 with ⟨i1, i2⟩ | ⟨q, c, i1, i2, i3⟩
  · rw [i1, i2]
    cases hr : redx x k with
    | false => exact .inl ⟨rfl, by simp [hdO, hr]⟩
    | true =>
      refine .inr ⟨rfl, [], x, k, [], by simp, rfl, h, hr, ?_⟩
      have e5 : hdO none x k = ctrO x k := by simp [hdO, hr]
      rw [e5]
      cases ctrO x k with
      | none => rfl
      | some p => simp
  · rw [i1, i2]
    rcases i3 with ⟨j1, j2⟩ | ⟨j1, pos, j2, j3⟩
    · subst j2; exact .inl ⟨j1, rfl⟩
    · refine .inr ⟨j1, ?_⟩
      have := j3.app [x] []
      simp only [List.length_singleton, List.append_nil] at this
      rw [j2]
      have e4 : (Option.map (fun p : Cc × F => p.1 :: p.2.flat) (hdO (some c) x k)) = (c.map F.flat).map fun m => [x] ++ m := by cases c <;> simp [hdO]
      rw [e4]
      exact this
end Go.Proofs.Ytjmgnljjeogdlaa.W

/-
  All that a term leads to at once: the model. No program here.
-/
namespace Go.Proofs.Ytjmgnljjeogdlaa.W
set_option linter.unusedVariables false

/-- Whether two rows are the same. -/
def sameR : List Cc → List Cc → Bool
  | [], [] => true
  | x :: l, y :: r => decide (x.k = y.k) && (decide (x.n = y.n) && sameR l r)
  | _, _ => false
theorem sameR_iff : ∀ (l r : List Cc), sameR l r = true ↔ l = r
  | [], [] => by simp [sameR]
  | [], _ :: _ => by simp [sameR]
  | _ :: _, [] => by simp [sameR]
  | x :: l, y :: r => by
    obtain ⟨a, b⟩ := x
    obtain ⟨c, d⟩ := y
    simp only [sameR, Bool.and_eq_true, decide_eq_true_eq, sameR_iff l r, List.cons.injEq, Cc.mk.injEq, and_assoc]
/-- Whether two are the same, term by term. -/
def sameF : F → F → Bool
  | .nil, .nil => true
  | .cons x k r, .cons y m q => (decide (x.k = y.k) && (decide (x.n = y.n) && sameF k m)) && sameF r q
  | .nil, .cons _ _ _ => false
  | .cons _ _ _, .nil => false
theorem sameF_iff : ∀ (a b : F), sameF a b = true ↔ a = b
  | .nil, .nil => by simp [sameF]
  | .nil, .cons _ _ _ => by simp [sameF]
  | .cons _ _ _, .nil => by simp [sameF]
  | .cons x k r, .cons y m q => by
    obtain ⟨a, b⟩ := x
    obtain ⟨c, d⟩ := y
    simp only [sameF, Bool.and_eq_true, decide_eq_true_eq, sameF_iff k m, sameF_iff r q, F.cons.injEq, Cc.mk.injEq, and_assoc]
theorem sameF_app : ∀ (a b c d : F), a.len = b.len → sameF (a.app c) (b.app d) = (sameF a b && sameF c d)
  | .nil, .nil, c, d, _ => by simp [F.app, sameF]
  | .nil, .cons _ _ _, c, d, h => by simp [F.len] at h
  | .cons _ _ _, .nil, c, d, h => by simp [F.len] at h
  | .cons x k r, .cons y m q, c, d, h => by
    simp only [F.len, Nat.add_right_cancel_iff] at h
    simp only [F.app, sameF, sameF_app r q c d h, Bool.and_assoc]
/-- Rows of which each cell tells how many are behind it are the same as trees where they are the same as rows. -/
def F.ard : F → Prop
  | .nil => True
  | .cons x k r => k.len = ar x.k ∧ k.ard ∧ r.ard
theorem flat_cut : ∀ (a b : F) (u v : List Cc), a.ard → b.ard → a.len = b.len → a.flat ++ u = b.flat ++ v → a = b ∧ u = v
  | .nil, .nil, u, v, _, _, _, h => ⟨rfl, by simpa [F.flat] using h⟩
  | .nil, .cons _ _ _, u, v, _, _, h, _ => by simp [F.len] at h
  | .cons _ _ _, .nil, u, v, _, _, h, _ => by simp [F.len] at h
  | .cons x k r, .cons y m q, u, v, ⟨a1, a2, a3⟩, ⟨b1, b2, b3⟩, h, e => by
    simp only [F.len, Nat.add_right_cancel_iff] at h
    simp only [F.flat, List.cons_append, List.cons.injEq, List.append_assoc] at e
    obtain ⟨rfl, e⟩ := e
    obtain ⟨rfl, e2⟩ := flat_cut k m _ _ a2 b2 (by rw [a1, b1]) e
    obtain ⟨rfl, e3⟩ := flat_cut r q _ _ a3 b3 h e2
    exact ⟨rfl, e3⟩
theorem flat_inj {a b : F} (ha : a.ard) (hb : b.ard) (hl : a.len = b.len) (h : a.flat = b.flat) : a = b := (flat_cut a b [] [] ha hb hl (by simpa using h)).1
theorem same_flat {a b : F} (ha : a.ard) (hb : b.ard) (hl : a.len = b.len) : sameR a.flat b.flat = sameF a b := by
  rw [Bool.eq_iff_iff, sameR_iff, sameF_iff]
  exact ⟨flat_inj ha hb hl, fun h => by rw [h]⟩
/-- A term more, once. -/
def ldA (l : List (Cc × F)) (p : Cc × F) : List (Cc × F) := if (l.any fun q => sameR (q.1 :: q.2.flat) (p.1 :: p.2.flat)) = true then l else l ++ [p]
/-- Those that redexes come to, behind others. -/
def ldC (x : Cc) : List (Cc × F) → List F → Option (List (Cc × F))
  | out, [] => some out
  | out, w :: r => match ctrO x w with
    | none => none
    | some p => ldC x (ldA out p) r
/-- The same, given up as soon as there are too many. -/
def ldE (x : Cc) : List (Cc × F) → List F → Option (List (Cc × F))
  | out, [] => some out
  | out, w :: r => match ctrO x w with
    | none => none
    | some p => if 200 < (ldA out p).length then none else ldE x (ldA out p) r
def ldX (x : Cc) (rd : Bool) (ws : List F) : Option (List (Cc × F)) :=
  if ∃ w ∈ ws, 600 < w.flat.length + 1 then none
  else if rd = true then (match ldC x (ws.map fun w => (x, w)) ws with | none => none | some out => if out.length ≤ 200 then some out else none)
  else if ws.length ≤ 200 then some (ws.map fun w => (x, w)) else none
/-- Each of the fronts with each of these behind it. -/
def ldW (ws : List F) (l : List (Cc × F)) : List F := ws.flatMap fun w => l.map fun y => w.app (.cons y.1 y.2 .nil)
def ldG : List F → F → Option (List F)
  | ws, .nil => some ws
  | ws, .cons x k r => match (match ldG [.nil] k with | none => none | some us => ldX x (redx x k) us) with
    | none => none
    | some l => if 200 < (ldW ws l).length then none else ldG (ldW ws l) r
def ldT (x : Cc) (k : F) : Option (List (Cc × F)) := match ldG [.nil] k with | none => none | some us => ldX x (redx x k) us
theorem ldG_cons (ws : List F) (x : Cc) (k r : F) : ldG ws (.cons x k r) = match ldT x k with | none => none | some l => if 200 < (ldW ws l).length then none else ldG (ldW ws l) r := by
  rw [ldG]; rfl
theorem ldG_app : ∀ (a b : F) (ws : List F), ldG ws (a.app b) = match ldG ws a with | none => none | some us => ldG us b
  | .nil, b, ws => rfl
  | .cons x k r, b, ws => by
    show ldG ws (.cons x k (r.app b)) = _
    rw [ldG_cons, ldG_cons]
    cases ldT x k with
    | none => rfl
    | some l =>
      simp only
      by_cases h : 200 < (ldW ws l).length
      · rw [if_pos h, if_pos h]
      · rw [if_neg h, if_neg h]
        exact ldG_app r b _

theorem ldA_le (l : List (Cc × F)) (p : Cc × F) : l.length ≤ (ldA l p).length := by
  unfold ldA
  split
  · exact Nat.le_refl _
  · simp
theorem ldA_le1 (l : List (Cc × F)) (p : Cc × F) : (ldA l p).length ≤ l.length + 1 := by
  unfold ldA
  split
  · omega
  · simp
theorem ldC_le (x : Cc) : ∀ (ws : List F) (out res : List (Cc × F)), ldC x out ws = some res → out.length ≤ res.length
  | [], out, res, h => by simp only [ldC, Option.some.injEq] at h; rw [h]; exact Nat.le_refl _
  | w :: r, out, res, h => by
    rw [ldC] at h
    cases hc : ctrO x w with
    | none => rw [hc] at h; cases h
    | some p =>
      rw [hc] at h
      have := ldC_le x r _ res h
      have := ldA_le out p
      omega
/-- To give up early tells the same. -/
theorem ldE_eq (x : Cc) : ∀ (ws : List F) (out : List (Cc × F)), out.length ≤ 200 → ldE x out ws = (match ldC x out ws with | none => none | some res => if res.length ≤ 200 then some res else none)
  | [], out, h => by simp only [ldE, ldC]; rw [if_pos h]
  | w :: r, out, h => by
    rw [ldE, ldC]
    cases hc : ctrO x w with
    | none => rfl
    | some p =>
      simp only
      by_cases h2 : 200 < (ldA out p).length
      · rw [if_pos h2]
        cases hr : ldC x (ldA out p) r with
        | none => rfl
        | some res =>
          have := ldC_le x r _ res hr
          simp only
          rw [if_neg (by omega)]
      · rw [if_neg h2]
        exact ldE_eq x r _ (by omega)
theorem ldW_len (l : List (Cc × F)) : ∀ ws : List F, (ldW ws l).length = ws.length * l.length
  | [] => by simp [ldW]
  | w :: r => by
    have := ldW_len l r
    unfold ldW at this ⊢
    rw [List.flatMap_cons, List.length_append, this, List.length_map, List.length_cons, Nat.succ_mul]
    omega
theorem ldX_le {x : Cc} {rd : Bool} {ws : List F} {l : List (Cc × F)} (h : ldX x rd ws = some l) : l.length ≤ 200 ∧ ws.length ≤ l.length := by
  unfold ldX at h
  split at h
  · cases h
  · split at h
    · cases hc : ldC x (ws.map fun w => (x, w)) ws with
      | none => rw [hc] at h; cases h
      | some out =>
        rw [hc] at h
        simp only at h
        split at h
        · rename_i h2
          simp only [Option.some.injEq] at h
          have := ldC_le x _ _ _ hc
          rw [List.length_map] at this
          rw [← h]
          exact ⟨h2, this⟩
        · cases h
    · split at h
      · rename_i h2
        simp only [Option.some.injEq] at h
        rw [← h, List.length_map]
        exact ⟨h2, Nat.le_refl _⟩
      · cases h
theorem ldG_pos : ∀ (a : F) (ws us : List F), 0 < ws.length → ws.length ≤ 200 → ldG ws a = some us → 0 < us.length ∧ us.length ≤ 200
  | .nil, ws, us, h0, h2, h => by simp only [ldG, Option.some.injEq] at h; rw [← h]; exact ⟨h0, h2⟩
  | .cons x k r, ws, us, h0, h2, h => by
    rw [ldG_cons] at h
    cases ht : ldT x k with
    | none => rw [ht] at h; cases h
    | some l =>
      rw [ht] at h
      simp only at h
      split at h
      · cases h
      · rename_i h3
        have hl : 0 < l.length := by
          unfold ldT at ht
          cases hg : ldG [.nil] k with
          | none => rw [hg] at ht; cases ht
          | some vs =>
            rw [hg] at ht
            have := (ldG_pos k [.nil] vs (by simp) (by simp) hg).1
            have := (ldX_le ht).2
            omega
        refine ldG_pos r _ us ?_ (by omega) h
        rw [ldW_len]
        exact Nat.mul_pos h0 hl
/-- Each of them has as many terms behind it as the one that is read. -/
theorem ldG_len : ∀ (a : F) (n : Nat) (ws us : List F), (∀ w ∈ ws, w.len = n) → ldG ws a = some us → ∀ u ∈ us, u.len = n + a.len
  | .nil, n, ws, us, h0, h, u, hu => by
    simp only [ldG, Option.some.injEq] at h
    rw [← h] at hu
    rw [h0 u hu]
    rfl
  | .cons x k r, n, ws, us, h0, h, u, hu => by
    rw [ldG_cons] at h
    cases ht : ldT x k with
    | none => rw [ht] at h; cases h
    | some l =>
      rw [ht] at h
      simp only at h
      split at h
      · cases h
      · have := ldG_len r (n + 1) (ldW ws l) us (fun w hw => by
          unfold ldW at hw
          rw [List.mem_flatMap] at hw
          obtain ⟨v, hv, hw⟩ := hw
          rw [List.mem_map] at hw
          obtain ⟨y, -, rfl⟩ := hw
          rw [F.app_len, h0 v hv]
          rfl) h u hu
        rw [this, F.len]
        omega
end Go.Proofs.Ytjmgnljjeogdlaa.W

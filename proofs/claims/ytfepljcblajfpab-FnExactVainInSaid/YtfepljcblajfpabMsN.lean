/-
  How many rows of patterns the search can come to: each is told by a number below a bound. No program here.
-/
import Derived.Test.YtfepljcblajfpabMsM
namespace Go.Proofs.Ytfepljcblajfpab.W
set_option linter.unusedVariables false

/-- A row that has come of another one: some that any value fits, and a rest of its cells. -/
def Sf (b0 : List Pt) (b : F) (s : Nat) : Prop := s ≤ b0.length ∧ ∃ k, b.flat = List.replicate k ⟨1, 0⟩ ++ b0.drop s
theorem Sf.start (b : F) : Sf b.flat b 0 := ⟨Nat.zero_le _, 0, by simp⟩
theorem flat_head {x : Pt} {k r : F} : (F.cons x k r).flat = x :: (k.app r).flat := by rw [F.app_flat]; rfl
/-- What is behind the first cell. -/
theorem Sf.behind {b0 : List Pt} {x : Pt} {k r : F} {s : Nat} (h : Sf b0 (.cons x k r) s) (n : Nat) (c : F) (hc : c.flat = List.replicate n ⟨1, 0⟩ ++ (k.app r).flat) (hx : x.kd = 1 ∨ n = 0) : ∃ s', Sf b0 c s' := by
  obtain ⟨hs, j, e⟩ := h
  rw [flat_head] at e
  cases j with
  | succ j =>
    simp only [List.replicate_succ, List.cons_append, List.cons.injEq] at e
    refine ⟨s, hs, n + j, ?_⟩
    rw [hc, e.2, ← List.append_assoc, List.replicate_append_replicate]
  | zero =>
    simp only [List.replicate_zero, List.nil_append] at e
    have hlt : s < b0.length := by
      rcases Nat.lt_or_ge s b0.length with h | h
      · exact h
      · rw [List.drop_eq_nil_of_le h] at e; cases e
    rw [List.drop_eq_getElem_cons hlt] at e
    simp only [List.cons.injEq] at e
    refine ⟨s + 1, hlt, n, ?_⟩
    rw [hc, e.2]
theorem Sf.opn {D : List Int} {b0 : List Pt} {b b' : F} {s c : Nat} (h : Sf b0 b s) (hb : b.ok D) (ho : opn D c b = some b') : ∃ s', Sf b0 b' s' := by
  cases b with
  | nil => simp [W.opn] at ho
  | cons x k r =>
    rw [W.opn] at ho
    by_cases hx : x.kd = 1
    · rw [if_pos hx] at ho
      simp only [Option.some.injEq] at ho
      subst ho
      have hk : k = .nil := F.len_0 (by rw [hb.2.1, ar, if_pos hx])
      subst hk
      exact h.behind (nP D c) _ (by rw [F.app_flat, anys_flat]; rfl) (.inl hx)
    · rw [if_neg hx] at ho
      split at ho
      · simp only [Option.some.injEq] at ho
        subst ho
        exact h.behind 0 _ (by simp) (.inr rfl)
      · cases ho
theorem Sf.tl {b0 : List Pt} {b : F} {s : Nat} (h : Sf b0 b s) : ∃ s', Sf b0 (tlF b) s' := by
  cases b with
  | nil => exact ⟨s, h⟩
  | cons x k r => exact h.behind 0 _ (by simp [tlF]) (.inr rfl)
/-- The number of patterns, and how much is left, tell the row. -/
theorem Sf.one {D : List Int} {b0 : List Pt} {b b' : F} {s : Nat} (h : Sf b0 b s) (h' : Sf b0 b' s) (ob : b.ok D) (ob' : b'.ok D) (hl : b.len = b'.len) : b = b' := by
  obtain ⟨-, k, e⟩ := h
  obtain ⟨-, k', e'⟩ := h'
  have l1 := flat_len ob
  have l2 := flat_len ob'
  have ha : ar D ⟨1, 0⟩ = 0 := by simp [ar]
  have hs : ∀ m, ((List.replicate m (⟨1, 0⟩ : Pt)).map (ar D)).sum = 0 := by
    intro m
    induction m with
    | zero => rfl
    | succ m ih => simp [List.replicate_succ, ha] at ih ⊢
  rw [e, List.map_append, List.sum_append, hs, List.length_append, List.length_replicate] at l1
  rw [e', List.map_append, List.sum_append, hs, List.length_append, List.length_replicate] at l2
  have hk : k = k' := by omega
  exact flat_inj ob ob' (by rw [e, e', hk])
/-- Rows that have come of others, some gone. -/
def Rl : List (List Pt) → List (Option Nat) → List F → Prop
  | [], [], R => R = []
  | b0 :: R0, none :: ss, R => Rl R0 ss R
  | b0 :: R0, some s :: ss, R => ∃ b R', R = b :: R' ∧ Sf b0 b s ∧ Rl R0 ss R'
  | _, _, _ => False
theorem Rl.start : ∀ R : List F, ∃ ss, Rl (R.map F.flat) ss R
  | [] => ⟨[], rfl⟩
  | b :: R => by
    obtain ⟨ss, h⟩ := Rl.start R
    exact ⟨some 0 :: ss, b, R, rfl, Sf.start b, h⟩
theorem Rl.len : ∀ {R0 : List (List Pt)} {ss : List (Option Nat)} {R : List F}, Rl R0 ss R → ss.length = R0.length
  | [], [], R, _ => rfl
  | [], s :: ss, R, h => by cases s <;> exact absurd h (by simp [Rl])
  | b0 :: R0, [], R, h => absurd h (by simp [Rl])
  | b0 :: R0, none :: ss, R, h => by simp [Rl.len (show Rl R0 ss R from h)]
  | b0 :: R0, some s :: ss, R, h => by
    obtain ⟨b, R', -, -, h2⟩ := h
    simp [Rl.len h2]
theorem Rl.opn {D : List Int} {c : Nat} : ∀ {R0 : List (List Pt)} {ss : List (Option Nat)} {R : List F}, Rl R0 ss R → (∀ b ∈ R, b.ok D) → ∃ ss', Rl R0 ss' (R.filterMap (W.opn D c))
  | [], [], R, h, _ => ⟨[], by rw [show R = [] from h]; rfl⟩
  | [], s :: ss, R, h, _ => by cases s <;> exact absurd h (by simp [Rl])
  | b0 :: R0, [], R, h, _ => absurd h (by simp [Rl])
  | b0 :: R0, none :: ss, R, h, ho => by
    obtain ⟨ss', h'⟩ := Rl.opn (show Rl R0 ss R from h) ho
    exact ⟨none :: ss', h'⟩
  | b0 :: R0, some s :: ss, R, h, ho => by
    obtain ⟨b, R', rfl, h1, h2⟩ := h
    obtain ⟨ss', h'⟩ := Rl.opn (c := c) h2 (fun x hx => ho x (by simp [hx]))
    cases hb : W.opn D c b with
    | none => exact ⟨none :: ss', by rw [List.filterMap_cons_none hb]; exact h'⟩
    | some b' =>
      obtain ⟨s', h3⟩ := h1.opn (ho b (by simp)) hb
      exact ⟨some s' :: ss', by rw [List.filterMap_cons_some hb]; exact ⟨b', _, rfl, h3, h'⟩⟩
theorem Rl.tl : ∀ {R0 : List (List Pt)} {ss : List (Option Nat)} {R : List F}, Rl R0 ss R → ∃ ss', Rl R0 ss' (R.map tlF)
  | [], [], R, h => ⟨[], by rw [show R = [] from h]; rfl⟩
  | [], s :: ss, R, h => by cases s <;> exact absurd h (by simp [Rl])
  | b0 :: R0, [], R, h => absurd h (by simp [Rl])
  | b0 :: R0, none :: ss, R, h => by
    obtain ⟨ss', h'⟩ := Rl.tl (show Rl R0 ss R from h)
    exact ⟨none :: ss', h'⟩
  | b0 :: R0, some s :: ss, R, h => by
    obtain ⟨b, R', rfl, h1, h2⟩ := h
    obtain ⟨ss', h'⟩ := Rl.tl h2
    obtain ⟨s', h3⟩ := h1.tl
    exact ⟨some s' :: ss', _, _, rfl, h3, h'⟩
theorem Rl.one {D : List Int} {L : Nat} : ∀ {R0 : List (List Pt)} {ss : List (Option Nat)} {R R' : List F}, Rl R0 ss R → Rl R0 ss R' → (∀ b ∈ R, b.ok D ∧ b.len = L) → (∀ b ∈ R', b.ok D ∧ b.len = L) → R = R'
  | [], [], R, R', h, h', _, _ => by rw [show R = [] from h, show R' = [] from h']
  | [], s :: ss, R, R', h, _, _, _ => by cases s <;> exact absurd h (by simp [Rl])
  | b0 :: R0, [], R, R', h, _, _, _ => absurd h (by simp [Rl])
  | b0 :: R0, none :: ss, R, R', h, h', ho, ho' => Rl.one (show Rl R0 ss R from h) (show Rl R0 ss R' from h') ho ho'
  | b0 :: R0, some s :: ss, R, R', h, h', ho, ho' => by
    obtain ⟨b, Q, rfl, h1, h2⟩ := h
    obtain ⟨b', Q', rfl, h1', h2'⟩ := h'
    obtain ⟨o1, o2⟩ := ho b (by simp)
    obtain ⟨o1', o2'⟩ := ho' b' (by simp)
    rw [h1.one h1' o1 o1' (by omega), Rl.one h2 h2' (fun x hx => ho x (by simp [hx])) (fun x hx => ho' x (by simp [hx]))]

/-- The number of a state. -/
def encS : List (Option Nat) → Nat
  | [] => 0
  | none :: ss => 41 + 42 * encS ss
  | some s :: ss => s + 42 * encS ss
theorem encS_lt : ∀ {R0 : List (List Pt)} {ss : List (Option Nat)} {R : List F}, Rl R0 ss R → (∀ b ∈ R0, b.length ≤ 40) → encS ss + 1 ≤ 42 ^ R0.length
  | [], [], R, _, _ => by simp [encS]
  | [], s :: ss, R, h, _ => by cases s <;> exact absurd h (by simp [Rl])
  | b0 :: R0, [], R, h, _ => absurd h (by simp [Rl])
  | b0 :: R0, none :: ss, R, h, hb => by
    have := encS_lt (show Rl R0 ss R from h) (fun x hx => hb x (by simp [hx]))
    simp only [encS, List.length_cons, Nat.pow_succ]; omega
  | b0 :: R0, some s :: ss, R, h, hb => by
    obtain ⟨b, R', -, h1, h2⟩ := h
    have := encS_lt h2 (fun x hx => hb x (by simp [hx]))
    have h3 := h1.1
    have h4 := hb b0 (by simp)
    simp only [encS, List.length_cons, Nat.pow_succ]; omega
theorem encS_inj : ∀ {R0 : List (List Pt)} {ss ss' : List (Option Nat)} {R R' : List F}, Rl R0 ss R → Rl R0 ss' R' → (∀ b ∈ R0, b.length ≤ 40) → encS ss = encS ss' → ss = ss'
  | [], [], [], R, R', _, _, _, _ => rfl
  | [], s :: ss, ss', R, R', h, _, _, _ => by cases s <;> exact absurd h (by simp [Rl])
  | [], [], s :: ss', R, R', _, h, _, _ => by cases s <;> exact absurd h (by simp [Rl])
  | b0 :: R0, [], ss', R, R', h, _, _, _ => absurd h (by simp [Rl])
  | b0 :: R0, s :: ss, [], R, R', _, h, _, _ => absurd h (by simp [Rl])
  | b0 :: R0, s :: ss, s' :: ss', R, R', h, h', hb, e => by
    have h4 := hb b0 (by simp)
    have hb' : ∀ b ∈ R0, b.length ≤ 40 := fun x hx => hb x (by simp [hx])
    cases s with
    | none =>
      cases s' with
      | none =>
        simp only [encS] at e
        rw [encS_inj (show Rl R0 ss R from h) (show Rl R0 ss' R' from h') hb' (by omega)]
      | some s' =>
        obtain ⟨b, Q, -, h1, h2⟩ := h'
        have := h1.1
        simp only [encS] at e; omega
    | some s =>
      obtain ⟨b, Q, -, h1, h2⟩ := h
      have h5 := h1.1
      cases s' with
      | none => simp only [encS] at e; omega
      | some s' =>
        obtain ⟨b', Q', -, h1', h2'⟩ := h'
        have h6 := h1'.1
        simp only [encS] at e
        rw [encS_inj h2 h2' hb' (by omega), show s = s' by omega]
/-- The row and the others have come of these; its number. -/
def Re (A0 : List Pt) (R0 : List (List Pt)) (a : F) (R : List F) (n : Nat) : Prop := ∃ sa ss, Sf A0 a sa ∧ Rl R0 ss R ∧ n = a.len + 1001 * (sa + 41 * encS ss)
theorem Re.one {D : List Int} {A0 : List Pt} {R0 : List (List Pt)} {a a' : F} {R R' : List F} {n : Nat} (hA : A0.length ≤ 40) (hR : ∀ b ∈ R0, b.length ≤ 40) (h : Re A0 R0 a R n) (h' : Re A0 R0 a' R' n) (w : WR D a R) (w' : WR D a' R') (l : a.len ≤ 1000) (l' : a'.len ≤ 1000) : a = a' ∧ R = R' := by
  obtain ⟨sa, ss, h1, h2, e⟩ := h
  obtain ⟨sa', ss', h1', h2', e'⟩ := h'
  have q1 := h1.1
  have q2 := h1'.1
  have e1 : a.len = a'.len := by omega
  have e2 : sa = sa' := by omega
  have e3 : encS ss = encS ss' := by omega
  subst e2
  have e4 := encS_inj h2 h2' hR e3
  subst e4
  exact ⟨h1.one h1' w.ok w'.ok e1, Rl.one h2 h2' w.oks (fun b hb => by rw [e1]; exact w'.oks b hb)⟩
theorem Re.lt {D : List Int} {A0 : List Pt} {R0 : List (List Pt)} {a : F} {R : List F} {n : Nat} (hA : A0.length ≤ 40) (hR : ∀ b ∈ R0, b.length ≤ 40) (h8 : R0.length ≤ 8) (h : Re A0 R0 a R n) (l : a.len ≤ 1000) : n < 400000000000000000 := by
  obtain ⟨sa, ss, h1, h2, e⟩ := h
  have q1 := h1.1
  have q2 := encS_lt h2 hR
  have q3 : 42 ^ R0.length ≤ 42 ^ 8 := Nat.pow_le_pow_right (by decide) h8
  have q4 : (42 : Nat) ^ 8 = 9682651996416 := by decide
  rw [q4] at q3
  omega
theorem Re.start (a : F) (R : List F) : ∃ n, Re a.flat (R.map F.flat) a R n := by
  obtain ⟨ss, h⟩ := Rl.start R
  exact ⟨_, 0, ss, Sf.start a, h, rfl⟩
theorem Re.opn {D : List Int} {A0 : List Pt} {R0 : List (List Pt)} {a a' : F} {R : List F} {c n : Nat} (h : Re A0 R0 a R n) (w : WR D a R) (ho : opn D c a = some a') : ∃ n', Re A0 R0 a' (R.filterMap (W.opn D c)) n' := by
  obtain ⟨sa, ss, h1, h2, -⟩ := h
  obtain ⟨sa', h1'⟩ := h1.opn w.ok ho
  obtain ⟨ss', h2'⟩ := h2.opn (D := D) (c := c) (fun b hb => (w.oks b hb).1)
  exact ⟨_, sa', ss', h1', h2', rfl⟩
theorem Re.tl {A0 : List Pt} {R0 : List (List Pt)} {a : F} {R : List F} {n : Nat} (h : Re A0 R0 a R n) : ∃ n', Re A0 R0 (tlF a) (R.map tlF) n' := by
  obtain ⟨sa, ss, h1, h2, -⟩ := h
  obtain ⟨sa', h1'⟩ := h1.tl
  obtain ⟨ss', h2'⟩ := h2.tl
  exact ⟨_, sa', ss', h1', h2', rfl⟩
/-- Numbers below a bound, none twice, are not more than it. -/
theorem nodup_le : ∀ (B : Nat) (l : List Nat), l.Nodup → (∀ x ∈ l, x < B) → l.length ≤ B
  | 0, l, _, h => by
    cases l with
    | nil => simp
    | cons x l => exact absurd (h x (by simp)) (by omega)
  | B + 1, l, hn, h => by
    have h1 := nodup_le B (l.filter (· ≠ B)) (hn.filter _) (fun x hx => by
      have := h x (List.mem_filter.1 hx).1
      have h2 := (List.mem_filter.1 hx).2
      simp at h2
      omega)
    have h3 : l.length ≤ (l.filter (· ≠ B)).length + 1 := by
      clear h h1
      induction l with
      | nil => simp
      | cons y l ih =>
        have hn' := List.nodup_cons.1 hn
        by_cases hy : y = B
        · subst hy
          have : l.filter (· ≠ y) = l := by
            rw [List.filter_eq_self]
            intro z hz
            simp
            intro e
            subst e
            exact hn'.1 hz
          rw [List.filter_cons_of_neg (by simp), this]
          simp
        · have := ih hn'.2
          rw [List.filter_cons_of_pos (by simpa using hy)]
          simp only [List.length_cons]
          omega
    omega
end Go.Proofs.Ytfepljcblajfpab.W

/-
  The model of CompileRules: what is asked at which paths, what is left once a constructor is seen, the nodes of the program (one too many at most) and of the specification (none once there are too many), and that they are the same. No program here.
-/
import Derived.Test.YtmlpnmdckgppnaaPaP
namespace Go.Proofs.Ytmlpnmdckgppnaa.W
set_option linter.unusedVariables false

/-- What a rule asks at a path: a constructor's cell and the patterns behind it. -/
structure Ak where
  p : List Int
  x : Pt
  k : F
/-- What the patterns of a row ask, each at the path's next number. -/
def kidA (p : List Int) : Nat → F → List Ak
  | _, .nil => []
  | i, .cons x k r => if x.kd = 1 then kidA p (i + 1) r else ⟨p ++ [(i : Int)], x, k⟩ :: kidA p (i + 1) r
/-- A rule with all that it asks still. -/
structure Aq where
  rule : Int
  q : List Ak
/-- A node. -/
structure Nd where
  rule : Int
  path : List Int
  next : List Int
/-- The program's answer: the first ask of that path. -/
def ansF (p : List Int) (c : Int) : List Ak → List Ak → Option (List Ak)
  | pre, [] => some pre
  | pre, a :: q => if a.p = p then (if a.x.con = c then some (kidA a.p 0 a.k ++ pre ++ q) else none) else ansF p c (pre ++ [a]) q
/-- The specification's: all asks of that path. -/
def ansK (p : List Int) (c : Int) : List Ak → Option (List Ak)
  | [] => some []
  | a :: q => if a.p = p then (if a.x.con = c then (ansK p c q).map (kidA p 0 a.k ++ ·) else none) else ansK p c q
def ansR (p : List Int) (q : List Ak) : List Ak := q.filter (fun a => decide (a.p ≠ p))
def ansS (p : List Int) (c : Int) (q : List Ak) : Option (List Ak) := (ansK p c q).map (· ++ ansR p q)

/-- No path is the beginning of another one. -/
def PAp (a b : List Int) : Prop := ¬ a <+: b ∧ ¬ b <+: a
def Sep (q : List Ak) : Prop := q.Pairwise (fun a b => PAp a.p b.p)

theorem PAp.symm {a b : List Int} (h : PAp a b) : PAp b a := ⟨h.2, h.1⟩
theorem PAp.ne {a b : List Int} (h : PAp a b) : a ≠ b := fun e => h.1 (e ▸ List.prefix_refl a)
theorem PAp.more {a b : List Int} (h : PAp a b) (i : Int) : PAp (a ++ [i]) b := by
  refine ⟨fun hc => h.1 ((List.prefix_append a [i]).trans hc), fun hc => ?_⟩
  rcases List.prefix_concat_iff.mp hc with e | e
  · exact h.1 (e ▸ List.prefix_append a [i])
  · exact h.2 e
theorem apart_nums {a : List Int} {i j : Int} (h : i ≠ j) : PAp (a ++ [i]) (a ++ [j]) := by
  constructor
  · intro hc
    have := (List.prefix_append_right_inj a).mp hc
    simp at this; exact h this
  · intro hc
    have := (List.prefix_append_right_inj a).mp hc
    simp at this; exact h this.symm

theorem kidA_path {p : List Int} : ∀ {f : F} {i : Nat} {a : Ak}, a ∈ kidA p i f → ∃ j : Nat, i ≤ j ∧ a.p = p ++ [(j : Int)]
  | .nil, i, a, h => by simp [kidA] at h
  | .cons x k r, i, a, h => by
    unfold kidA at h
    split at h
    · obtain ⟨j, hj, e⟩ := kidA_path h; exact ⟨j, by omega, e⟩
    · rcases List.mem_cons.mp h with h | h
      · exact ⟨i, Nat.le_refl i, by rw [h]⟩
      · obtain ⟨j, hj, e⟩ := kidA_path h; exact ⟨j, by omega, e⟩
theorem kidA_sep (p : List Int) : ∀ (f : F) (i : Nat), Sep (kidA p i f)
  | .nil, i => List.Pairwise.nil
  | .cons x k r, i => by
    unfold kidA
    split
    · exact kidA_sep p r (i + 1)
    · refine List.Pairwise.cons (fun b hb => ?_) (kidA_sep p r (i + 1))
      obtain ⟨j, hj, e⟩ := kidA_path hb
      show PAp (p ++ [(i : Int)]) b.p
      rw [e]; exact apart_nums (by omega)
theorem kidA_con {p : List Int} : ∀ {f : F} {i : Nat} {a : Ak}, a ∈ kidA p i f → a.x.kd ≠ 1
  | .nil, i, a, h => by simp [kidA] at h
  | .cons x k r, i, a, h => by
    unfold kidA at h
    split at h
    · exact kidA_con h
    · rename_i hx
      rcases List.mem_cons.mp h with h | h
      · rw [h]; exact hx
      · exact kidA_con h

/-- Both answers are the same where no path is the beginning of another one. -/
theorem ansK_none {p : List Int} {c : Int} : ∀ {q : List Ak}, (∀ b ∈ q, b.p ≠ p) → ansK p c q = some [] ∧ ansR p q = q
  | [], _ => ⟨rfl, rfl⟩
  | a :: q, h => by
    have ha := h a (by simp)
    obtain ⟨h1, h2⟩ := ansK_none (c := c) (fun b hb => h b (List.mem_cons_of_mem a hb))
    constructor
    · unfold ansK; rw [if_neg ha]; exact h1
    · unfold ansR at h2 ⊢; rw [List.filter_cons, if_pos (by simpa using ha), h2]
theorem ansF_eq {p : List Int} {c : Int} : ∀ {q pre : List Ak}, Sep q → (∀ b ∈ pre, b.p ≠ p) → ansF p c pre q = (ansK p c q).map (· ++ (pre ++ ansR p q))
  | [], pre, _, _ => by simp [ansF, ansK, ansR]
  | a :: q, pre, hs, hp => by
    have hs' : Sep q := (List.pairwise_cons.mp hs).2
    have ha := (List.pairwise_cons.mp hs).1
    unfold ansF ansK
    by_cases e : a.p = p
    · rw [if_pos e, if_pos e]
      obtain ⟨h1, h2⟩ := ansK_none (p := p) (c := c) (q := q) (fun b hb => e ▸ (ha b hb).ne.symm)
      have h3 : ansR p (a :: q) = q := by
        unfold ansR at h2 ⊢; rw [List.filter_cons, if_neg (by simpa using e), h2]
      by_cases hc : a.x.con = c
      · rw [if_pos hc, if_pos hc, h1, h3, e]; simp [List.append_assoc]
      · rw [if_neg hc, if_neg hc]; rfl
    · rw [if_neg e, if_neg e]
      have h3 : ansR p (a :: q) = a :: ansR p q := by unfold ansR; rw [List.filter_cons, if_pos (by simpa using e)]
      rw [ansF_eq hs' (by
        intro b hb
        rcases List.mem_append.mp hb with hb | hb
        · exact hp b hb
        · rw [List.mem_singleton.mp hb]; exact e), h3]
      simp [List.append_assoc]
theorem ans_same {p : List Int} {c : Int} {q : List Ak} (h : Sep q) : ansF p c [] q = ansS p c q := by
  rw [ansF_eq h (by intro b hb; cases hb)]; simp [ansS]

/-- What is asked is kept apart, and is of constructors. -/
def Qok (q : List Ak) : Prop := Sep q ∧ ∀ a ∈ q, a.x.kd ≠ 1
theorem ansF_ok {p : List Int} {c : Int} : ∀ {q pre q' : List Ak}, Qok (pre ++ q) → ansF p c pre q = some q' → Qok q'
  | [], pre, q', h, e => by
    simp only [ansF, Option.some.injEq] at e
    rw [← e]; simpa using h
  | a :: q, pre, q', h, e => by
    unfold ansF at e
    by_cases hp : a.p = p
    · rw [if_pos hp] at e
      by_cases hc : a.x.con = c
      · rw [if_pos hc, Option.some.injEq] at e
        subst e
        obtain ⟨hs, hk⟩ := h
        have hs0 := List.pairwise_append.mp hs
        have hs1 := List.pairwise_cons.mp hs0.2.1
        refine ⟨?_, ?_⟩
        · unfold Sep
          rw [List.append_assoc]
          refine List.pairwise_append.mpr ⟨kidA_sep _ _ _, List.pairwise_append.mpr ⟨hs0.1, hs1.2, fun x hx y hy => hs0.2.2 x hx y (List.mem_cons_of_mem a hy)⟩, ?_⟩
          intro x hx y hy
          obtain ⟨j, _, ej⟩ := kidA_path hx
          show PAp x.p y.p
          rw [ej]
          refine PAp.more ?_ _
          rcases List.mem_append.mp hy with hy | hy
          · exact (hs0.2.2 y hy a (by simp)).symm
          · exact hs1.1 y hy
        · intro x hx
          rw [List.append_assoc] at hx
          rcases List.mem_append.mp hx with hx | hx
          · exact kidA_con hx
          · apply hk
            rcases List.mem_append.mp hx with hx | hx
            · exact List.mem_append_left _ hx
            · exact List.mem_append_right _ (List.mem_cons_of_mem a hx)
      · rw [if_neg hc] at e; cases e
    · rw [if_neg hp] at e
      exact ansF_ok (by simpa using h) e

/-- How many cells are asked still. -/
def Ak.sz (a : Ak) : Nat := a.k.flat.length + 1
def qsz (q : List Ak) : Nat := (q.map Ak.sz).sum
theorem kidA_sz (p : List Int) : ∀ (f : F) (i : Nat), qsz (kidA p i f) ≤ f.flat.length
  | .nil, i => by simp [kidA, qsz]
  | .cons x k r, i => by
    have := kidA_sz p r (i + 1)
    unfold kidA
    split
    · simp [F.flat]; omega
    · simp only [qsz, List.map_cons, List.sum_cons, Ak.sz, F.flat, List.length_cons, List.length_append] at this ⊢; omega
theorem qsz_app (a b : List Ak) : qsz (a ++ b) = qsz a + qsz b := by simp [qsz]
theorem qsz_cons (a : Ak) (b : List Ak) : qsz (a :: b) = a.sz + qsz b := by simp [qsz]
theorem ansF_sz {p : List Int} {c : Int} : ∀ {q pre q' : List Ak}, ansF p c pre q = some q' → qsz q' ≤ qsz pre + qsz q ∧ ((∃ a ∈ q, a.p = p) → qsz q' < qsz pre + qsz q)
  | [], pre, q', e => by
    simp only [ansF, Option.some.injEq] at e
    subst e
    exact ⟨by omega, fun ⟨a, ha, _⟩ => by cases ha⟩
  | a :: q, pre, q', e => by
    unfold ansF at e
    by_cases hp : a.p = p
    · rw [if_pos hp] at e
      by_cases hc : a.x.con = c
      · rw [if_pos hc, Option.some.injEq] at e
        subst e
        have := kidA_sz a.p a.k 0
        rw [qsz_app, qsz_app, qsz_cons]
        have h2 : a.sz = a.k.flat.length + 1 := rfl
        exact ⟨by omega, fun _ => by omega⟩
      · rw [if_neg hc] at e; cases e
    · rw [if_neg hp] at e
      obtain ⟨h1, h2⟩ := ansF_sz e
      rw [qsz_app, qsz_cons] at h1 h2
      have h0 : qsz [] = 0 := rfl
      rw [qsz_cons]
      refine ⟨by omega, ?_⟩
      rintro ⟨b, hb, hbp⟩
      rcases List.mem_cons.mp hb with rfl | hb
      · exact absurd hbp hp
      · have := h2 ⟨b, hb, hbp⟩; omega

/-- The rules that stay once a constructor is seen at a path. -/
def ansAll (p : List Int) (c : Int) : List Aq → List Aq
  | [] => []
  | r :: l => match ansF p c [] r.q with
    | some q => ⟨r.rule, q⟩ :: ansAll p c l
    | none => ansAll p c l
def ansAllS (p : List Int) (c : Int) : List Aq → List Aq
  | [] => []
  | r :: l => match ansS p c r.q with
    | some q => ⟨r.rule, q⟩ :: ansAllS p c l
    | none => ansAllS p c l
def Lok (l : List Aq) : Prop := ∀ r ∈ l, Qok r.q
def lsz (l : List Aq) : Nat := (l.map (fun r => qsz r.q)).sum
theorem ansAll_same {p : List Int} {c : Int} : ∀ {l : List Aq}, Lok l → ansAll p c l = ansAllS p c l
  | [], _ => rfl
  | r :: l, h => by
    unfold ansAll ansAllS
    rw [ans_same (h r (by simp)).1, ansAll_same (fun s hs => h s (List.mem_cons_of_mem r hs))]
theorem ansAll_ok {p : List Int} {c : Int} : ∀ {l : List Aq}, Lok l → Lok (ansAll p c l)
  | [], _ => by intro r hr; cases hr
  | r :: l, h => by
    have ih := ansAll_ok (p := p) (c := c) (l := l) (fun s hs => h s (List.mem_cons_of_mem r hs))
    unfold ansAll
    cases e : ansF p c [] r.q with
    | none => exact ih
    | some q =>
      intro s hs
      rcases List.mem_cons.mp hs with rfl | hs
      · exact ansF_ok (by simpa using h r (by simp)) e
      · exact ih s hs
theorem ansAll_le {p : List Int} {c : Int} : ∀ {l : List Aq}, lsz (ansAll p c l) ≤ lsz l
  | [] => Nat.le_refl _
  | r :: l => by
    have ih := ansAll_le (p := p) (c := c) (l := l)
    have h0 : lsz (r :: l) = qsz r.q + lsz l := by simp [lsz]
    have hn : qsz [] = 0 := rfl
    unfold ansAll
    cases e : ansF p c [] r.q with
    | none => show lsz (ansAll p c l) ≤ _; omega
    | some q =>
      have h1 : lsz (⟨r.rule, q⟩ :: ansAll p c l) = qsz q + lsz (ansAll p c l) := by simp [lsz]
      have := (ansF_sz e).1
      show lsz (⟨r.rule, q⟩ :: ansAll p c l) ≤ _
      omega
theorem ansAll_lt {c : Int} {r : Aq} {l : List Aq} {a : Ak} {q : List Ak} (hq : r.q = a :: q) : lsz (ansAll a.p c (r :: l)) < lsz (r :: l) := by
  have ih := ansAll_le (p := a.p) (c := c) (l := l)
  have h0 : lsz (r :: l) = qsz r.q + lsz l := by simp [lsz]
  have hn : qsz [] = 0 := rfl
  have hpos : 0 < qsz r.q := by rw [hq, qsz_cons]; unfold Ak.sz; omega
  unfold ansAll
  cases e : ansF a.p c [] r.q with
  | none => show lsz (ansAll a.p c l) < _; omega
  | some q' =>
    have h1 : lsz (⟨r.rule, q'⟩ :: ansAll a.p c l) = qsz q' + lsz (ansAll a.p c l) := by simp [lsz]
    have := (ansF_sz e).2 ⟨a, by rw [hq]; simp, rfl⟩
    show lsz (⟨r.rule, q'⟩ :: ansAll a.p c l) < _
    omega

/-- The number of the next node put behind a node's others. -/
def setN (i : Nat) (ns : List Nd) : List Nd := ns.modify i (fun n => { n with next := n.next ++ [(ns.length : Int)] })
theorem setN_length (i : Nat) (ns : List Nd) : (setN i ns).length = ns.length := by simp [setN]

/-- The program's nodes: constructor by constructor until there are too many. -/
def sdP (g : List Aq → List Nd → List Nd) (i : Nat) (p : List Int) (l : List Aq) : Nat → Nat → List Nd → List Nd
  | 0, _, ns => ns
  | m + 1, c, ns => if 200 < ns.length then ns else sdP g i p l m (c + 1) (g (ansAll p (c : Int) l) (setN i ns))
def cmpP (m : Nat) : Nat → List Aq → List Nd → List Nd
  | 0, _, ns => ns
  | _ + 1, [], ns => ns ++ [⟨-1, [], []⟩]
  | n + 1, r :: l, ns => match r.q with
    | [] => ns ++ [⟨r.rule, [], []⟩]
    | a :: _ => sdP (cmpP m n) ns.length a.p (r :: l) m 0 (ns ++ [⟨-2, a.p, []⟩])
/-- The specification's: none once there are too many. -/
def sdS (g : List Aq → List Nd → Option (List Nd)) (i : Nat) (p : List Int) (l : List Aq) : Nat → Nat → List Nd → Option (List Nd)
  | 0, _, ns => some ns
  | m + 1, c, ns => match g (ansAllS p (c : Int) l) (setN i ns) with
    | none => none
    | some ns' => sdS g i p l m (c + 1) ns'
def cmpS (m : Nat) : Nat → List Aq → List Nd → Option (List Nd)
  | 0, _, _ => none
  | n + 1, l, ns => if ns.length = 200 then none else match l with
    | [] => some (ns ++ [⟨-1, [], []⟩])
    | r :: l => match r.q with
      | [] => some (ns ++ [⟨r.rule, [], []⟩])
      | a :: _ => sdS (cmpS m n) ns.length a.p (r :: l) m 0 (ns ++ [⟨-2, a.p, []⟩])

/-- What the two have to do with one another. -/
def Same (ns r : List Nd) (s : Option (List Nd)) : Prop :=
  ns.length < r.length ∧ r.length ≤ 201 ∧ s = if 200 < r.length then none else some r
theorem sd_same {g : List Aq → List Nd → List Nd} {gs : List Aq → List Nd → Option (List Nd)} {i : Nat} {p : List Int} {l : List Aq} (hl : Lok l)
    (hg : ∀ (c : Nat) (ns : List Nd), ns.length ≤ 200 → Same ns (g (ansAll p (c : Int) l) ns) (gs (ansAll p (c : Int) l) ns)) :
    ∀ (m c : Nat) (ns : List Nd), ns.length ≤ 200 → ns.length ≤ (sdP g i p l m c ns).length ∧ (sdP g i p l m c ns).length ≤ 201 ∧
      sdS gs i p l m c ns = if 200 < (sdP g i p l m c ns).length then none else some (sdP g i p l m c ns)
  | 0, c, ns, h => by
    refine ⟨Nat.le_refl _, by show ns.length ≤ 201; omega, ?_⟩
    show some ns = if 200 < ns.length then none else some ns
    rw [if_neg (by omega)]
  | m + 1, c, ns, h => by
    obtain ⟨h1, h2, h3⟩ := hg c (setN i ns) (by rw [setN_length]; exact h)
    rw [setN_length] at h1
    have e : sdP g i p l (m + 1) c ns = sdP g i p l m (c + 1) (g (ansAll p (c : Int) l) (setN i ns)) := by
      show (if 200 < ns.length then ns else _) = _
      rw [if_neg (by omega)]
    rw [e]
    unfold sdS
    rw [← ansAll_same hl, h3]
    by_cases hb : 200 < (g (ansAll p (c : Int) l) (setN i ns)).length
    · have e2 : sdP g i p l m (c + 1) (g (ansAll p (c : Int) l) (setN i ns)) = g (ansAll p (c : Int) l) (setN i ns) := by
        cases m with
        | zero => rfl
        | succ m => show (if 200 < _ then _ else _) = _; rw [if_pos hb]
      rw [e2, if_pos hb]
      exact ⟨by omega, h2, rfl⟩
    · rw [if_neg hb]
      obtain ⟨k1, k2, k3⟩ := sd_same hl hg m (c + 1) (g (ansAll p (c : Int) l) (setN i ns)) (by omega)
      exact ⟨by omega, k2, k3⟩
theorem cmp_same (m : Nat) : ∀ (n : Nat) (l : List Aq) (ns : List Nd), Lok l → lsz l < n → ns.length ≤ 200 → Same ns (cmpP m n l ns) (cmpS m n l ns)
  | 0, l, ns, _, h, _ => absurd h (Nat.not_lt_zero _)
  | n + 1, [], ns, hl, hn, h => by
    refine ⟨by simp [cmpP], by simp [cmpP]; omega, ?_⟩
    unfold cmpP cmpS
    simp only [List.length_append, List.length_singleton]
    by_cases e : ns.length = 200
    · rw [if_pos e, if_pos (by omega)]
    · rw [if_neg e, if_neg (by omega)]
  | n + 1, r :: l, ns, hl, hn, h => by
    cases hq : r.q with
    | nil =>
      have e : cmpP m (n + 1) (r :: l) ns = ns ++ [⟨r.rule, [], []⟩] := by unfold cmpP; rw [hq]
      rw [e]
      refine ⟨by simp, by simp; omega, ?_⟩
      unfold cmpS
      simp only [List.length_append, List.length_singleton, hq]
      by_cases e : ns.length = 200
      · rw [if_pos e, if_pos (by omega)]
      · rw [if_neg e, if_neg (by omega)]
    | cons a q =>
      have e : cmpP m (n + 1) (r :: l) ns = sdP (cmpP m n) ns.length a.p (r :: l) m 0 (ns ++ [⟨-2, a.p, []⟩]) := by unfold cmpP; rw [hq]
      rw [e]
      unfold cmpS
      simp only [hq]
      by_cases e2 : ns.length = 200
      · have e3 : sdP (cmpP m n) ns.length a.p (r :: l) m 0 (ns ++ [⟨-2, a.p, []⟩]) = ns ++ [⟨-2, a.p, []⟩] := by
          cases m with
          | zero => rfl
          | succ m => show (if 200 < _ then _ else _) = _; rw [if_pos (by simp; omega)]
        rw [e3, if_pos e2]
        refine ⟨by simp, by simp; omega, ?_⟩
        rw [if_pos (by simp; omega)]
      · rw [if_neg e2]
        obtain ⟨k1, k2, k3⟩ := sd_same (g := cmpP m n) (gs := cmpS m n) (i := ns.length) (p := a.p) (l := r :: l) hl
          (fun c ns' h' => cmp_same m n _ ns' (ansAll_ok hl) (by have := ansAll_lt (c := (c : Int)) (l := l) hq; omega) h') m 0 (ns ++ [⟨-2, a.p, []⟩]) (by simp; omega)
        simp only [List.length_append, List.length_singleton] at k1
        exact ⟨by omega, k2, k3⟩

end Go.Proofs.Ytmlpnmdckgppnaa.W

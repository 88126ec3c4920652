/-
  What some patterns miss: the model of the search over rows of patterns; that it does not hang on the fuel; that rows are told by their text. No program here.
-/
import Derived.Test.YtfepljcblajfpabPaP
namespace Go.Proofs.Ytfepljcblajfpab.W
set_option linter.unusedVariables false

/-- So many patterns that any value fits. -/
def anys : Nat → F
  | 0 => .nil
  | n + 1 => .cons ⟨1, 0⟩ .nil (anys n)
def nP (D : List Int) (c : Nat) : Nat := (D.getD c 0).toNat
/-- A row behind a constructor at its first place. -/
def opn (D : List Int) (c : Nat) : F → Option F
  | .nil => none
  | .cons x k r => if x.kd = 1 then some ((anys (nP D c)).app r) else if x.con = (c : Int) then some (k.app r) else none
def nam1 : F → Bool
  | .nil => false
  | .cons x _ _ => decide (x.kd = 2)
def tlF : F → F
  | .nil => .nil
  | .cons _ k r => k.app r
/-- The first of some. -/
def fstS (g : Nat → Option (List Pt)) (n : Nat) : Nat → Option (List Pt)
  | 0 => none
  | m + 1 => match g (n - (m + 1)) with
    | some l => some l
    | none => fstS g n m
/-- The first row of patterns, made of a row by constructors in the place of what any value fits, that shares no value with others. -/
def win (D : List Int) : Nat → F → List F → Option (List Pt)
  | 0, _, _ => none
  | f + 1, a, R =>
    match R with
    | [] => some a.flat
    | b :: R' => match a with
      | .nil => none
      | .cons x k r =>
        if x.kd = 1 ∧ (b :: R').any nam1 = false then (win D f (tlF a) ((b :: R').map tlF)).map (x :: ·)
        else fstS (fun c => match opn D c (.cons x k r) with
          | none => none
          | some a' => (win D f a' ((b :: R').filterMap (opn D c))).map ((⟨2, (c : Int)⟩ : Pt) :: ·)) D.length D.length

/-- How many cells name a constructor. -/
def pof : F → Nat
  | .nil => 0
  | .cons x k r => (if x.kd = 2 then 1 else 0) + pof k + pof r
def pofs : List F → Nat
  | [] => 0
  | b :: R => pof b + pofs R
theorem pof_app : ∀ a b : F, pof (a.app b) = pof a + pof b
  | .nil, b => by simp [F.app, pof]
  | .cons x k r, b => by simp [F.app, pof, pof_app r b]; omega
theorem anys_len : ∀ n, (anys n).len = n
  | 0 => rfl
  | n + 1 => by simp [anys, F.len, anys_len n]
theorem anys_pof : ∀ n, pof (anys n) = 0
  | 0 => rfl
  | n + 1 => by simp [anys, pof, anys_pof n]
theorem anys_flat : ∀ n, (anys n).flat = List.replicate n ⟨1, 0⟩
  | 0 => rfl
  | n + 1 => by simp [anys, F.flat, anys_flat n, List.replicate_succ]
theorem anys_ok (D : List Int) : ∀ n, (anys n).ok D
  | 0 => trivial
  | n + 1 => ⟨by simp [goodC], rfl, trivial, anys_ok D n⟩
theorem good_kd {D : List Int} {x : Pt} (h : goodC D x = true) : x.kd = 1 ∧ x.con = 0 ∨ x.kd = 2 ∧ 0 ≤ x.con ∧ x.con < (D.length : Int) := by
  unfold goodC at h
  split at h
  · exact .inl ⟨by assumption, by simpa using h⟩
  · exact .inr (by simpa using h)
theorem opn_facts {D : List Int} {c : Nat} {a a' : F} (ha : a.ok D) (h : opn D c a = some a') : a'.ok D ∧ a'.len + 1 = nP D c + a.len ∧ pof a' ≤ pof a ∧ a'.flat.length + 1 ≤ a.flat.length + nP D c ∧ (nam1 a = true → pof a' + 1 ≤ pof a ∧ a'.flat.length + 1 ≤ a.flat.length) := by
  cases a with
  | nil => simp [opn] at h
  | cons x k r =>
    obtain ⟨h1, h2, h3, h4⟩ := ha
    rw [opn] at h
    by_cases hx : x.kd = 1
    · rw [if_pos hx] at h
      simp only [Option.some.injEq] at h
      subst h
      refine ⟨(F.app_ok D _ _).2 ⟨anys_ok D _, h4⟩, ?_, ?_, ?_, fun hn => ?_⟩
      · rw [F.app_len, anys_len]; simp [F.len]; omega
      · rw [pof_app, anys_pof]; simp [pof]
      · rw [F.app_flat, anys_flat]; simp [F.flat]; omega
      · simp [nam1] at hn; omega
    · rw [if_neg hx] at h
      by_cases hc : x.con = (c : Int)
      · rw [if_pos hc] at h
        simp only [Option.some.injEq] at h
        subst h
        have h2x : x.kd = 2 := by rcases good_kd h1 with g | g <;> omega
        have hk : k.len = nP D c := by rw [h2, ar, if_neg hx, hc]; rfl
        refine ⟨(F.app_ok D _ _).2 ⟨h3, h4⟩, ?_, ?_, ?_, fun _ => ⟨?_, ?_⟩⟩
        · rw [F.app_len, hk]; simp [F.len]; omega
        · rw [pof_app]; simp [pof]
        · rw [F.app_flat]; simp [F.flat]
        · rw [pof_app]; simp [pof, h2x]; omega
        · rw [F.app_flat]; simp [F.flat]
      · rw [if_neg hc] at h; cases h
theorem opns_pof {D : List Int} {c : Nat} : ∀ {R : List F}, (∀ b ∈ R, b.ok D) → pofs (R.filterMap (opn D c)) ≤ pofs R ∧ (R.any nam1 = true → pofs (R.filterMap (opn D c)) + 1 ≤ pofs R)
  | [], _ => by simp [pofs]
  | b :: R, h => by
    have ih := opns_pof (c := c) (R := R) (fun x hx => h x (by simp [hx]))
    have hb := h b (by simp)
    cases ho : opn D c b with
    | none =>
      rw [List.filterMap_cons_none ho]
      refine ⟨by simp only [pofs]; omega, fun hn => ?_⟩
      have hp : 1 ≤ pof b ∨ pof b = 0 := by omega
      rcases hp with hp | hp
      · simp only [pofs]; omega
      · have hnb : nam1 b = false := by
          cases b with
          | nil => rfl
          | cons x k r =>
            simp only [pof] at hp
            simp only [nam1, decide_eq_false_iff_not]
            intro hx; rw [if_pos hx] at hp; omega
        rw [List.any_cons, hnb, Bool.false_or] at hn
        have := ih.2 hn
        simp only [pofs]; omega
    | some b' =>
      obtain ⟨-, -, f1, -, f2⟩ := opn_facts hb ho
      rw [List.filterMap_cons_some ho]
      refine ⟨by simp only [pofs]; omega, fun hn => ?_⟩
      rw [List.any_cons, Bool.or_eq_true] at hn
      simp only [pofs]
      rcases hn with hn | hn
      · have := (f2 hn).1; omega
      · have := ih.2 hn; omega
theorem tl_facts {D : List Int} {a : F} (ha : a.ok D) (h0 : 1 ≤ a.len) (hn : nam1 a = false) : (tlF a).ok D ∧ (tlF a).len + 1 = a.len ∧ pof (tlF a) = pof a ∧ (tlF a).flat.length + 1 = a.flat.length ∧ a.flat = ⟨1, 0⟩ :: (tlF a).flat := by
  cases a with
  | nil => simp [F.len] at h0
  | cons x k r =>
    obtain ⟨h1, h2, h3, h4⟩ := ha
    have hx : x.kd = 1 ∧ x.con = 0 := by
      rcases good_kd h1 with g | g
      · exact g
      · simp [nam1] at hn; omega
    have hk : k = .nil := F.len_0 (by rw [h2, ar, if_pos hx.1])
    subst hk
    obtain ⟨xk, xc⟩ := x
    obtain ⟨rfl, rfl⟩ := hx
    refine ⟨h4, ?_, ?_, ?_, ?_⟩ <;> simp [tlF, F.app, F.len, pof, F.flat]
theorem tls_pof {D : List Int} : ∀ {R : List F}, (∀ b ∈ R, b.ok D ∧ 1 ≤ b.len) → R.any nam1 = false → pofs (R.map tlF) = pofs R
  | [], _, _ => rfl
  | b :: R, h, hn => by
    simp only [List.any_cons, Bool.or_eq_false_iff] at hn
    have hb := h b (by simp)
    simp only [List.map_cons, pofs, (tl_facts hb.1 hb.2 hn.1).2.2.1, tls_pof (fun x hx => h x (by simp [hx])) hn.2]

/-- Good rows: as many patterns in each, and not too long. -/
structure WR (D : List Int) (a : F) (R : List F) : Prop where
  ok : a.ok D
  oks : ∀ b ∈ R, b.ok D ∧ b.len = a.len
  big : a.flat.length + (pof a + pofs R) ≤ 1000
  bigs : ∀ b ∈ R, b.flat.length + (pof a + pofs R) ≤ 1000
  few : R.length ≤ 8
def mea (a : F) (R : List F) : Nat := (pof a + pofs R) * 2000 + a.flat.length
theorem WR.tl {D : List Int} {a : F} {R : List F} (h : WR D a R) (h0 : 1 ≤ a.len) (hx : nam1 a = false) (hn : R.any nam1 = false) : WR D (tlF a) (R.map tlF) ∧ mea (tlF a) (R.map tlF) < mea a R := by
  obtain ⟨f1, f2, f3, f4, -⟩ := tl_facts h.ok h0 hx
  have hp := tls_pof (R := R) (fun b hb => ⟨(h.oks b hb).1, by rw [(h.oks b hb).2]; exact h0⟩) hn
  have hnb : ∀ b ∈ R, nam1 b = false := by
    intro b hb
    rw [List.any_eq_false] at hn
    have := hn b hb
    simpa using this
  refine ⟨⟨f1, ?_, ?_, ?_, by simpa using h.few⟩, ?_⟩
  · intro b hb
    obtain ⟨b0, hb0, rfl⟩ := List.mem_map.1 hb
    obtain ⟨g1, g2, -⟩ := tl_facts (h.oks b0 hb0).1 (by rw [(h.oks b0 hb0).2]; exact h0) (hnb b0 hb0)
    exact ⟨g1, by have := (h.oks b0 hb0).2; omega⟩
  · rw [f3, hp]; have := h.big; omega
  · intro b hb
    obtain ⟨b0, hb0, rfl⟩ := List.mem_map.1 hb
    obtain ⟨g1, g2, g3, g4, -⟩ := tl_facts (h.oks b0 hb0).1 (by rw [(h.oks b0 hb0).2]; exact h0) (hnb b0 hb0)
    rw [f3, hp]; have := h.bigs b0 hb0; omega
  · unfold mea; rw [f3, hp]; omega
theorem nP_le {D : List Int} (hd : goodD D = true) (c : Nat) : nP D c ≤ 2 := by
  unfold nP
  by_cases hi : c < D.length
  · have := goodD_parts hd hi
    rw [List.getD_eq_getElem?_getD, List.getElem?_eq_getElem hi, Option.getD_some]; omega
  · rw [List.getD_eq_getElem?_getD, List.getElem?_eq_none (by omega)]; simp
theorem WR.opn {D : List Int} {a a' : F} {R : List F} {c : Nat} (hd : goodD D = true) (h : WR D a R) (ho : opn D c a = some a') (hn : nam1 a = true ∨ R.any nam1 = true) : WR D a' (R.filterMap (W.opn D c)) ∧ mea a' (R.filterMap (W.opn D c)) < mea a R := by
  obtain ⟨f1, f2, f3, f4, f5⟩ := opn_facts h.ok ho
  have hp := opns_pof (c := c) (R := R) (fun b hb => (h.oks b hb).1)
  have h2 := nP_le hd c
  have hlt : pof a' + pofs (R.filterMap (W.opn D c)) + 1 ≤ pof a + pofs R := by
    rcases hn with hn | hn
    · have := (f5 hn).1; omega
    · have := hp.2 hn; omega
  refine ⟨⟨f1, ?_, ?_, ?_, Nat.le_trans (List.length_filterMap_le _ _) h.few⟩, ?_⟩
  · intro b hb
    obtain ⟨b0, hb0, e⟩ := List.mem_filterMap.1 hb
    obtain ⟨g1, g2, -⟩ := opn_facts (h.oks b0 hb0).1 e
    exact ⟨g1, by have := (h.oks b0 hb0).2; omega⟩
  · have := h.big; omega
  · intro b hb
    obtain ⟨b0, hb0, e⟩ := List.mem_filterMap.1 hb
    obtain ⟨g1, g2, g3, g4, -⟩ := opn_facts (h.oks b0 hb0).1 e
    have := h.bigs b0 hb0; omega
  · unfold mea; have := h.big; omega

theorem fstS_congr {g g' : Nat → Option (List Pt)} (h : ∀ c, g c = g' c) (n : Nat) : ∀ m, fstS g n m = fstS g' n m
  | 0 => rfl
  | m + 1 => by rw [fstS, fstS, h, fstS_congr h n m]
/-- What is told does not hang on the fuel. -/
theorem win_fuel {D : List Int} (hd : goodD D = true) (f : Nat) : ∀ (g : Nat) (a : F) (R : List F), WR D a R → mea a R < f → mea a R < g → win D f a R = win D g a R := by
  induction f with
  | zero => intro g a R _ h; exact absurd h (Nat.not_lt_zero _)
  | succ f ih =>
    intro g a R hw hf hg
    obtain ⟨g, rfl⟩ : ∃ g', g = g' + 1 := ⟨g - 1, by omega⟩
    obtain ⟨M, hM⟩ : ∃ M, M = mea a R := ⟨_, rfl⟩
    rw [← hM] at hf hg
    cases R with
    | nil => rfl
    | cons b R' =>
      cases a with
      | nil => rfl
      | cons x k r =>
        rw [win, win]
        by_cases hc : x.kd = 1 ∧ (b :: R').any nam1 = false
        · rw [if_pos hc, if_pos hc]
          obtain ⟨w1, w2⟩ := hw.tl (by simp [F.len]) (by simp [nam1]; omega) hc.2
          rw [ih g _ _ w1 (by omega) (by omega)]
        · rw [if_neg hc, if_neg hc]
          refine fstS_congr (fun c => ?_) _ _
          cases ho : opn D c (.cons x k r) with
          | none => rfl
          | some a' =>
            have hn : nam1 (.cons x k r) = true ∨ (b :: R').any nam1 = true := by
              by_cases hx : x.kd = 2
              · exact .inl (by simp [nam1, hx])
              · have h1 : x.kd = 1 := by rcases good_kd hw.ok.1 with g | g <;> omega
                right
                rw [← Bool.not_eq_false]
                exact fun h => hc ⟨h1, h⟩
            obtain ⟨w1, w2⟩ := WR.opn hd hw ho hn
            simp only
            rw [ih g _ _ w1 (by omega) (by omega)]
/-- What is told. -/
def wn (D : List Int) (a : F) (R : List F) : Option (List Pt) := win D (mea a R + 1) a R
theorem wn_nil (D : List Int) (a : F) : wn D a [] = some a.flat := rfl
theorem wn_none (D : List Int) {R : List F} (h : R ≠ []) : wn D .nil R = none := by
  cases R with
  | nil => exact absurd rfl h
  | cons b R => rfl
theorem wn_tl {D : List Int} (hd : goodD D = true) {x : Pt} {k r : F} {R : List F} (hw : WR D (.cons x k r) R) (hR : R ≠ []) (hx : x.kd = 1) (hn : R.any nam1 = false) : wn D (.cons x k r) R = (wn D (tlF (.cons x k r)) (R.map tlF)).map (x :: ·) := by
  obtain ⟨w1, w2⟩ := hw.tl (by simp [F.len]) (by simp [nam1]; omega) hn
  cases R with
  | nil => exact absurd rfl hR
  | cons b R' =>
    unfold wn
    rw [win]
    try simp only
    rw [if_pos ⟨hx, hn⟩, win_fuel hd (mea _ _) _ _ _ w1 w2 (Nat.lt_succ_self _)]
theorem wn_con {D : List Int} (hd : goodD D = true) {x : Pt} {k r : F} {R : List F} (hw : WR D (.cons x k r) R) (hR : R ≠ []) (hc : ¬ (x.kd = 1 ∧ R.any nam1 = false)) :
    wn D (.cons x k r) R = fstS (fun c => match opn D c (.cons x k r) with
          | none => none
          | some a' => (wn D a' (R.filterMap (opn D c))).map ((⟨2, (c : Int)⟩ : Pt) :: ·)) D.length D.length := by
  cases R with
  | nil => exact absurd rfl hR
  | cons b R' =>
    unfold wn
    rw [win]
    try simp only
    rw [if_neg hc]
    refine fstS_congr (fun c => ?_) _ _
    cases ho : opn D c (.cons x k r) with
    | none => rfl
    | some a' =>
      have hn : nam1 (.cons x k r) = true ∨ (b :: R').any nam1 = true := by
        by_cases hx : x.kd = 2
        · exact .inl (by simp [nam1, hx])
        · have h1 : x.kd = 1 := by rcases good_kd hw.ok.1 with g | g <;> omega
          right
          rw [← Bool.not_eq_false]
          exact fun h => hc ⟨h1, h⟩
      obtain ⟨w1, w2⟩ := WR.opn hd hw ho hn
      simp only
      rw [win_fuel hd (mea _ _) _ _ _ w1 w2 (Nat.lt_succ_self _)]
theorem fstS_step {g : Nat → Option (List Pt)} {n j : Nat} (h : j < n) : fstS g n (n - j) = match g j with | some l => some l | none => fstS g n (n - (j + 1)) := by
  rw [show n - j = (n - (j + 1)) + 1 by omega, fstS, show n - (n - (j + 1) + 1) = j by omega]
theorem fstS_end {g : Nat → Option (List Pt)} {n : Nat} : fstS g n (n - n) = none := by rw [Nat.sub_self]; rfl

/-- How many patterns a row of cells tells. -/
theorem flat_len {D : List Int} : ∀ {a : F}, a.ok D → a.len + (a.flat.map (ar D)).sum = a.flat.length
  | .nil, _ => rfl
  | .cons x k r, ⟨h1, h2, h3, h4⟩ => by
    have e1 := flat_len h3
    have e2 := flat_len h4
    simp [F.len, F.flat, List.map_append, List.sum_append]; omega
theorem flat_inj {D : List Int} {a a' : F} (h : a.ok D) (h' : a'.ok D) (e : a.flat = a'.flat) : a = a' := by
  have l1 := flat_len h
  have l2 := flat_len h'
  rw [← e] at l2
  have r1 := rt_back D a [] h
  have r2 := rt_back D a' [] h'
  rw [List.append_nil] at r1 r2
  rw [← e, show a'.len = a.len by omega] at r2
  rw [r1] at r2
  simpa using r2
theorem flats_inj {D : List Int} : ∀ {R R' : List F}, (∀ b ∈ R, b.ok D) → (∀ b ∈ R', b.ok D) → R.map F.flat = R'.map F.flat → R = R'
  | [], [], _, _, _ => rfl
  | [], b :: R', _, _, e => by simp at e
  | b :: R, [], _, _, e => by simp at e
  | b :: R, b' :: R', h, h', e => by
    simp only [List.map_cons, List.cons.injEq] at e
    rw [flat_inj (h b (by simp)) (h' b' (by simp)) e.1, flats_inj (fun x hx => h x (by simp [hx])) (fun x hx => h' x (by simp [hx])) e.2]

/-- A cell's byte. -/
def eC (x : Pt) : Nat := (x.kd * 4 + x.con).toNat
theorem eC_pos {D : List Int} {x : Pt} (h : goodC D x = true) : 0 < eC x := by
  unfold eC; rcases good_kd h with g | g <;> omega
theorem eC_inj {D : List Int} (hd : D.length ≤ 4) {x y : Pt} (h : goodC D x = true) (h' : goodC D y = true) (e : eC x = eC y) : x = y := by
  obtain ⟨xk, xc⟩ := x
  obtain ⟨yk, yc⟩ := y
  unfold eC at e
  simp only at e
  have g := good_kd h
  have g' := good_kd h'
  simp only at g g'
  have : xk = yk ∧ xc = yc := by omega
  rw [this.1, this.2]
/-- The text of rows. -/
def kyL : List (List Pt) → List Nat
  | [] => []
  | l :: L => l.map eC ++ 0 :: kyL L
theorem seg_inj {D : List Int} (hd : D.length ≤ 4) : ∀ {l l' : List Pt} {t t' : List Nat}, (∀ x ∈ l, goodC D x = true) → (∀ x ∈ l', goodC D x = true) → l.map eC ++ 0 :: t = l'.map eC ++ 0 :: t' → l = l' ∧ t = t'
  | [], [], t, t', _, _, e => ⟨rfl, by simpa using e⟩
  | [], y :: l', t, t', _, h', e => by
    simp at e
    have := eC_pos (h' y (by simp)); omega
  | x :: l, [], t, t', h, _, e => by
    simp at e
    have := eC_pos (h x (by simp)); omega
  | x :: l, y :: l', t, t', h, h', e => by
    simp only [List.map_cons, List.cons_append, List.cons.injEq] at e
    obtain ⟨e1, e2⟩ := seg_inj hd (fun z hz => h z (by simp [hz])) (fun z hz => h' z (by simp [hz])) e.2
    rw [eC_inj hd (h x (by simp)) (h' y (by simp)) e.1, e1]
    exact ⟨rfl, e2⟩
theorem kyL_inj {D : List Int} (hd : D.length ≤ 4) : ∀ {L L' : List (List Pt)}, (∀ l ∈ L, ∀ x ∈ l, goodC D x = true) → (∀ l ∈ L', ∀ x ∈ l, goodC D x = true) → kyL L = kyL L' → L = L'
  | [], [], _, _, _ => rfl
  | [], l :: L', _, _, e => by
    have := congrArg List.length e
    simp [kyL] at this
  | l :: L, [], _, _, e => by
    have := congrArg List.length e
    simp [kyL] at this
  | l :: L, l' :: L', h, h', e => by
    obtain ⟨e1, e2⟩ := seg_inj hd (h l (by simp)) (h' l' (by simp)) (show l.map eC ++ 0 :: kyL L = l'.map eC ++ 0 :: kyL L' from e)
    rw [e1, kyL_inj hd (fun x hx => h x (by simp [hx])) (fun x hx => h' x (by simp [hx])) e2]
theorem flat_good {D : List Int} : ∀ {a : F}, a.ok D → ∀ x ∈ a.flat, goodC D x = true
  | .nil, _, x, hx => by cases hx
  | .cons y k r, ⟨h1, h2, h3, h4⟩, x, hx => by
    simp only [F.flat, List.mem_cons, List.mem_append] at hx
    rcases hx with rfl | hx | hx
    · exact h1
    · exact flat_good h3 x hx
    · exact flat_good h4 x hx
/-- The text of a row and of others. -/
def ky (a : F) (R : List F) : List Nat := kyL (R.map F.flat ++ [a.flat])
theorem ky_inj {D : List Int} (hd : D.length ≤ 4) {a a' : F} {R R' : List F} (h : WR D a R) (h' : WR D a' R') (e : ky a R = ky a' R') : a = a' ∧ R = R' := by
  have hg : ∀ {a : F} {R : List F}, WR D a R → ∀ l ∈ R.map F.flat ++ [a.flat], ∀ x ∈ l, goodC D x = true := by
    intro a R h l hl
    simp only [List.mem_append, List.mem_map, List.mem_singleton] at hl
    rcases hl with ⟨b, hb, rfl⟩ | rfl
    · exact flat_good (h.oks b hb).1
    · exact flat_good h.ok
  have e1 := kyL_inj hd (hg h) (hg h') e
  have e2 := List.append_inj' e1 rfl
  refine ⟨flat_inj h.ok h'.ok (by simpa using e2.2), flats_inj (fun b hb => (h.oks b hb).1) (fun b hb => (h'.oks b hb).1) e2.1⟩
end Go.Proofs.Ytfepljcblajfpab.W

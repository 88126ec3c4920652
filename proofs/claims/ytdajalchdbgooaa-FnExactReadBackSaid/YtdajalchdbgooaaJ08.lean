/-
  Some texts of this proof in one: MaM, MaT, RbM.
-/
import Derived.Test.YtdajalchdbgooaaJ07
import Derived.Test.YtdajalchdbgooaaJ03
/-
  The model of good machines: bindings from one on, parts that may be done, values, frames. No program here.
-/
namespace Go.Proofs.Ytdajalchdbgooaa.W
set_option linter.unusedVariables false

def blw (n c : Int) : Bool := decide (0 ≤ n) && decide (n < c)
theorem blw_iff {n c : Int} : blw n c = true ↔ 0 ≤ n ∧ n < c := by unfold blw; simp
theorem blw_not {n c : Int} : blw n c = false ↔ n < 0 ∨ c ≤ n := by
  unfold blw
  rw [Bool.and_eq_false_iff]
  simp
/-- Each thing of a list, with its number, is so. -/
def allI {α : Type} (p : Nat → α → Bool) : Nat → List α → Bool
  | _, [] => true
  | i, x :: l => p i x && allI p (i + 1) l
theorem allI_at {α : Type} (p : Nat → α → Bool) : ∀ (l : List α) (i j : Nat) (h : j < l.length), allI p i l = true → p (i + j) l[j] = true
  | [], i, j, h, _ => by simp at h
  | x :: l, i, 0, h, ha => by
    simp only [allI, Bool.and_eq_true] at ha
    exact ha.1
  | x :: l, i, j + 1, h, ha => by
    simp only [allI, Bool.and_eq_true] at ha
    have := allI_at p l (i + 1) j (by simpa using h) ha.2
    rw [show i + 1 + j = i + (j + 1) by omega] at this
    simpa using this
theorem allI_bad {α : Type} (p : Nat → α → Bool) : ∀ (l : List α) (i j : Nat) (h : j < l.length), p (i + j) l[j] = false → allI p i l = false
  | [], i, j, h, _ => by simp at h
  | x :: l, i, 0, h, ha => by
    have ha' : p i x = false := ha
    simp only [allI, ha', Bool.false_and]
  | x :: l, i, j + 1, h, ha => by
    have := allI_bad p l (i + 1) j (by simpa using h) (by rw [show i + 1 + j = i + (j + 1) by omega]; simpa using ha)
    simp only [allI, this, Bool.and_false]
theorem allI_all {α : Type} (p : Nat → α → Bool) : ∀ (l : List α) (i : Nat), (∀ j (h : j < l.length), p (i + j) l[j] = true) → allI p i l = true
  | [], i, _ => rfl
  | x :: l, i, h => by
    simp only [allI, Bool.and_eq_true]
    refine ⟨h 0 (by simp), allI_all p l (i + 1) (fun j hj => ?_)⟩
    have := h (j + 1) (by simpa using hj)
    rw [show i + 1 + j = i + (j + 1) by omega]
    simpa using this

/-- A binding is good. -/
def bOk (nv i : Nat) (b : Bd) : Bool := blw b.val nv && (decide (b.up = -1) || blw b.up i)
theorem bOk_iff {nv i : Nat} {b : Bd} : bOk nv i b = true ↔ 0 ≤ b.val ∧ b.val < nv ∧ -1 ≤ b.up ∧ b.up < i := by
  unfold bOk
  rw [Bool.and_eq_true, Bool.or_eq_true, blw_iff, blw_iff, decide_eq_true_iff]
  omega
def bsOk (nv : Nat) (bs : List Bd) : Bool := allI (bOk nv) 0 bs
theorem bsOk_at {nv : Nat} {bs : List Bd} (h : bsOk nv bs = true) {i : Nat} (hi : i < bs.length) : 0 ≤ bs[i].val ∧ bs[i].val < nv ∧ -1 ≤ bs[i].up ∧ bs[i].up < i := by
  have := allI_at _ bs 0 i hi h
  rw [Nat.zero_add] at this
  exact bOk_iff.1 this

/-- How many bindings there are from one on, and the greatest number of their values. -/
def bwF (bs : List Bd) : Nat → Int → Int × Int
  | 0, _ => (0, -1)
  | f + 1, e => if e < 0 then (0, -1) else match bs[e.toNat]? with | none => (0, -1) | some b => ((bwF bs f b.up).1 + 1, max (bwF bs f b.up).2 b.val)
def bw (bs : List Bd) (e : Int) : Int × Int := bwF bs (e.toNat + 1) e
theorem bwF_neg (bs : List Bd) (f : Nat) (e : Int) (h : e < 0) : bwF bs f e = (0, -1) := by
  cases f with
  | zero => rfl
  | succ f => rw [bwF, if_pos h]
theorem bwF_fuel {nv : Nat} {bs : List Bd} (h : bsOk nv bs = true) : ∀ (f g : Nat) (e : Int), e < f → e < g → bwF bs f e = bwF bs g e
  | 0, g, e, hf, hg => by rw [bwF_neg _ _ _ (by omega), bwF_neg _ _ _ (by omega)]
  | f + 1, 0, e, hf, hg => by rw [bwF_neg _ _ _ (by omega), bwF_neg _ _ _ (by omega)]
  | f + 1, g + 1, e, hf, hg => by
    unfold bwF
    by_cases he : e < 0
    · rw [if_pos he, if_pos he]
    · rw [if_neg he, if_neg he]
      cases hb : bs[e.toNat]? with
      | none => rfl
      | some b =>
        obtain ⟨hi, hbe⟩ := List.getElem?_eq_some_iff.1 hb
        have := bsOk_at h hi
        rw [hbe] at this
        simp only
        rw [bwF_fuel h f g b.up (by omega) (by omega)]
theorem bw_neg (bs : List Bd) (e : Int) (h : e < 0) : bw bs e = (0, -1) := bwF_neg _ _ _ h
theorem bw_step {nv : Nat} {bs : List Bd} (h : bsOk nv bs = true) {i : Nat} (hi : i < bs.length) : bw bs (i : Int) = ((bw bs bs[i].up).1 + 1, max (bw bs bs[i].up).2 bs[i].val) := by
  have hb : bs[i]? = some bs[i] := List.getElem?_eq_getElem hi
  have := bsOk_at h hi
  unfold bw
  rw [Int.toNat_natCast, bwF, if_neg (by omega), Int.toNat_natCast, hb]
  simp only
  rw [bwF_fuel h i (bs[i].up.toNat + 1) bs[i].up (by omega) (by omega)]
theorem bw_bound {nv : Nat} {bs : List Bd} (h : bsOk nv bs = true) : ∀ (f : Nat) (e : Int), -1 ≤ e → e < f → e < bs.length → 0 ≤ (bw bs e).1 ∧ (bw bs e).1 ≤ e + 1 ∧ -1 ≤ (bw bs e).2 ∧ (bw bs e).2 < max nv 0
  | 0, e, h1, hf, hl => by rw [bw_neg _ _ (by omega)]; simp; omega
  | f + 1, e, h0, hf, hl => by
    by_cases he : e < 0
    · rw [bw_neg _ _ he]; simp; omega
    · obtain ⟨i, rfl⟩ := Int.eq_ofNat_of_zero_le (Int.not_lt.1 he)
      have hi : i < bs.length := by omega
      have h1 := bsOk_at h hi
      have := bw_bound h f bs[i].up (by omega) (by omega) (by omega)
      rw [bw_step h hi]
      simp only
      omega

/-- The rows of bindings as they are made. -/
def brow (bs : List Bd) : Nat → List (Int × Int)
  | 0 => [(0, -1)]
  | i + 1 => match bs[i]? with
    | none => brow bs i
    | some b => brow bs i ++ [(((brow bs i).getD (b.up + 1).toNat (0, -1)).1 + 1, max ((brow bs i).getD (b.up + 1).toNat (0, -1)).2 b.val)]
theorem brow_succ (bs : List Bd) (i : Nat) (hi : i < bs.length) : brow bs (i + 1) = brow bs i ++ [(((brow bs i).getD (bs[i].up + 1).toNat (0, -1)).1 + 1, max ((brow bs i).getD (bs[i].up + 1).toNat (0, -1)).2 bs[i].val)] := by
  rw [brow, List.getElem?_eq_getElem hi]
theorem brow_len (bs : List Bd) : ∀ i, i ≤ bs.length → (brow bs i).length = i + 1
  | 0, _ => rfl
  | i + 1, h => by rw [brow_succ bs i (by omega), List.length_append, brow_len bs i (by omega)]; rfl
theorem brow_le (bs : List Bd) : ∀ i, i ≤ bs.length → ∀ j (h : j < (brow bs i).length), 0 ≤ (brow bs i)[j].1 ∧ (brow bs i)[j].1 ≤ i
  | 0, _, j, h => by
    have : j = 0 := by simp [brow] at h; exact h
    subst this; simp [brow]
  | i + 1, hi, j, h => by
    have ih := brow_le bs i (by omega)
    have hl := brow_len bs i (by omega)
    simp only [brow_succ bs i (by omega)] at h ⊢
    by_cases hj : j < (brow bs i).length
    · rw [List.getElem_append_left hj]; have := ih j hj; omega
    · rw [List.getElem_append_right (by omega)]
      simp only [List.getElem_singleton]
      rw [List.getD_eq_getElem?_getD]
      cases hq : (brow bs i)[(bs[i].up + 1).toNat]? with
      | none => simp; omega
      | some q =>
        obtain ⟨h1, h2⟩ := List.getElem?_eq_some_iff.1 hq
        have := ih _ h1
        rw [h2] at this
        simp; omega
theorem brow_bw {nv : Nat} {bs : List Bd} (h : bsOk nv bs = true) : ∀ i, i ≤ bs.length → ∀ (e : Int), -1 ≤ e → e < i → (brow bs i)[(e + 1).toNat]? = some (bw bs e)
  | 0, _, e, h1, h2 => by
    obtain rfl : e = -1 := by omega
    rw [bw_neg _ _ (by omega)]; rfl
  | i + 1, hi, e, h1, h2 => by
    have hl := brow_len bs i (by omega)
    rw [brow_succ bs i (by omega)]
    by_cases he : e < i
    · rw [List.getElem?_append_left (by omega)]
      exact brow_bw h i (by omega) e h1 he
    · obtain rfl : e = i := by omega
      have hb := bsOk_at h (show i < bs.length by omega)
      rw [List.getElem?_append_right (by omega), show ((i : Int) + 1).toNat - (brow bs i).length = 0 by omega, List.getElem?_cons_zero, bw_step h (by omega), List.getD_eq_getElem?_getD, brow_bw h i (by omega) bs[i].up (by omega) (by omega)]
      rfl

/-- A part that may be done. -/
def pOk (a : F) (n : Nat) (bs : List Bd) (p e : Int) : Bool := blw p n && (decide (e = -1) || blw e bs.length) && decide ((bw bs e).1 = tV (ndT a) p.toNat)
theorem pOk_iff {a : F} {n : Nat} {bs : List Bd} {p e : Int} : pOk a n bs p e = true ↔ (0 ≤ p ∧ p < n) ∧ (-1 ≤ e ∧ e < bs.length) ∧ (bw bs e).1 = tV (ndT a) p.toNat := by
  unfold pOk
  rw [Bool.and_eq_true, Bool.and_eq_true, Bool.or_eq_true, blw_iff, blw_iff, decide_eq_true_iff, decide_eq_true_iff]
  omega
/-- The kind of the part at a place. -/
def kAt (l : List Cc) (p : Int) : Int := match l[p.toNat]? with | some x => x.k | none => 0
def vOk (a : F) (l : List Cc) (bs : List Bd) (i : Nat) (v : Vl) : Bool :=
  if v.fn = true then decide (v.num = 0) && pOk a l.length bs v.pl v.env && decide (kAt l v.pl = 3) && decide ((bw bs v.env).2 < (i : Int))
  else inB v.num (-1000000) 1000000 && decide (v.pl = 0) && decide (v.env = 0)
def fOk (a : F) (l : List Cc) (bs : List Bd) (nv : Nat) (f : Fm) : Bool :=
  pOk a l.length bs f.pl f.env && decide (kAt l f.pl = f.k) && (if f.k = 4 ∨ f.k = 5 then decide (f.val = -1) || blw f.val nv else decide (f.k = 6 ∨ f.k = 7) && decide (f.val = -1))
def nOk (a : F) (l : List Cc) (m : Mc) : Bool :=
  if m.done = true then decide (m.pl = -1) && decide (m.env = -1) && blw m.val m.vs.length else decide (m.val = -1) && pOk a l.length m.bs m.pl m.env
/-- A good machine of a closed term. -/
def gM (a : F) (l : List Cc) (m : Mc) : Bool :=
  decide (m.fs.length ≤ 500 ∧ m.vs.length ≤ 500 ∧ m.bs.length ≤ 500) && (bsOk m.vs.length m.bs && (allI (vOk a l m.bs) 0 m.vs && (allI (fun _ f => fOk a l m.bs m.vs.length f) 0 m.fs && nOk a l m)))
def goodM (l : List Cc) (m : Mc) : Bool := match closedT l with | some a => gM a l m | none => false
end Go.Proofs.Ytdajalchdbgooaa.W

/-
  The model of a machine's step: what is told, what is kept good. No program here.
-/
namespace Go.Proofs.Ytdajalchdbgooaa.W
set_option linter.unusedVariables false

/-- The place of a kid. -/
def kp (a : F) (p : Int) (j : Nat) : Int := match (ndT a)[p.toNat]? with | some (_, _, k) => p + 1 + (ko k j : Nat) | none => 0
/-- The value of the variable so far out. -/
def lkB (bs : List Bd) : Nat → Int → Int
  | 0, e => match bs[e.toNat]? with | some b => b.val | none => 0
  | n + 1, e => match bs[e.toNat]? with | some b => lkB bs n b.up | none => 0
def vlAt (m : Mc) (i : Int) : Vl := m.vs.getD i.toNat ⟨false, 0, 0, 0⟩
def comeM (m : Mc) (v : Int) : Mc := { m with done := true, pl := -1, env := -1, val := v }
def nextM (m : Mc) (p e : Int) : Mc := { m with done := false, pl := p, env := e, val := -1 }
def newM (m : Mc) (v : Vl) : Mc ⊕ Int := if 500 ≤ m.vs.length then .inr 5 else .inl (comeM { m with vs := m.vs ++ [v] } m.vs.length)
def bindM (m : Mc) (up p : Int) : Mc ⊕ Int := if 500 ≤ m.bs.length then .inr 5 else .inl (nextM { m with fs := m.fs.dropLast, bs := m.bs ++ [⟨m.val, up⟩] } p m.bs.length)
def doM (a : F) (l : List Cc) (m : Mc) : Mc ⊕ Int :=
  match l[m.pl.toNat]? with
  | none => .inr 0
  | some x =>
    if x.k = 1 then .inl (comeM m (lkB m.bs x.n.toNat m.env))
    else if x.k = 2 then newM m ⟨false, x.n, 0, 0⟩
    else if x.k = 3 then newM m ⟨true, 0, m.pl, m.env⟩
    else if 500 ≤ m.fs.length then .inr 5
    else .inl (nextM { m with fs := m.fs ++ [⟨x.k, m.pl, m.env, -1⟩] } (kp a m.pl 0) m.env)
def goM (a : F) (l : List Cc) (m : Mc) (f : Fm) : Mc ⊕ Int :=
  if f.k = 6 then (if (vlAt m m.val).fn = true then .inr 3 else .inl (nextM { m with fs := m.fs.dropLast } (kp a f.pl (if (vlAt m m.val).num = 0 then 1 else 2)) f.env))
  else if f.k = 7 then bindM m f.env (kp a f.pl 1)
  else if f.val = -1 then .inl (nextM { m with fs := m.fs.dropLast ++ [{ f with val := m.val }] } (kp a f.pl 1) f.env)
  else if f.k = 4 then (if (vlAt m f.val).fn = true then bindM m (vlAt m f.val).env (kp a (vlAt m f.val).pl 0) else .inr 3)
  else if (vlAt m f.val).fn = true ∨ (vlAt m m.val).fn = true ∨ inB ((vlAt m f.val).num + (vlAt m m.val).num) (-1000000) 1000000 = false then .inr 3
  else newM { m with fs := m.fs.dropLast } ⟨false, (vlAt m f.val).num + (vlAt m m.val).num, 0, 0⟩
def stepM (a : F) (l : List Cc) (m : Mc) : Mc ⊕ Int :=
  if m.done = true then (match m.fs.getLast? with | some f => goM a l m f | none => .inr (if (vlAt m m.val).fn = true then 2 else 1)) else doM a l m

theorem mem_drop {α : Type} {l : List α} {x : α} (h : x ∈ l.dropLast) : x ∈ l := List.dropLast_subset l h
/-- A good machine, in words. -/
structure GM (a : F) (l : List Cc) (m : Mc) : Prop where
  nf : m.fs.length ≤ 500
  nv : m.vs.length ≤ 500
  nb : m.bs.length ≤ 500
  bs : bsOk m.vs.length m.bs = true
  vs : ∀ i (h : i < m.vs.length), vOk a l m.bs i m.vs[i] = true
  fs : ∀ f ∈ m.fs, fOk a l m.bs m.vs.length f = true
  now : nOk a l m = true
theorem gM_iff {a : F} {l : List Cc} {m : Mc} : gM a l m = true ↔ GM a l m := by
  unfold gM
  simp only [Bool.and_eq_true, decide_eq_true_iff]
  constructor
  · rintro ⟨⟨h1, h2, h3⟩, h4, h5, h6, h7⟩
    refine ⟨h1, h2, h3, h4, fun i hi => ?_, fun f hf => ?_, h7⟩
    · have := allI_at _ m.vs 0 i hi h5
      rwa [Nat.zero_add] at this
    · obtain ⟨j, hj, rfl⟩ := List.getElem_of_mem hf
      exact allI_at _ m.fs 0 j hj h6
  · intro h
    exact ⟨⟨h.nf, h.nv, h.nb⟩, h.bs, allI_all _ _ _ (fun j hj => by rw [Nat.zero_add]; exact h.vs j hj), allI_all _ _ _ (fun j hj => h.fs _ (List.getElem_mem hj)), h.now⟩

theorem bsOk_snoc {nv nv' : Nat} {bs : List Bd} (h : bsOk nv bs = true) (hn : nv ≤ nv') : bsOk nv' bs = true := by
  refine allI_all _ _ _ (fun j hj => ?_)
  have := bsOk_at h hj
  rw [Nat.zero_add]
  exact bOk_iff.2 (by omega)
theorem bsOk_more {nv : Nat} {bs : List Bd} {b : Bd} (h : bsOk nv bs = true) (hb : bOk nv bs.length b = true) : bsOk nv (bs ++ [b]) = true := by
  refine allI_all _ _ _ (fun j hj => ?_)
  rw [Nat.zero_add]
  by_cases hlt : j < bs.length
  · rw [List.getElem_append_left hlt]
    have := allI_at _ bs 0 j hlt h
    rwa [Nat.zero_add] at this
  · have : j = bs.length := by simp at hj; omega
    subst this
    rw [List.getElem_append_right (Nat.le_refl _)]
    simpa using hb
theorem bwF_more {nv : Nat} {bs : List Bd} {b : Bd} (h : bsOk nv bs = true) : ∀ (f : Nat) (e : Int), e < bs.length → bwF (bs ++ [b]) f e = bwF bs f e
  | 0, _, _ => rfl
  | f + 1, e, he => by
    unfold bwF
    by_cases hn : e < 0
    · rw [if_pos hn, if_pos hn]
    · rw [if_neg hn, if_neg hn]
      have hlt : e.toNat < bs.length := by omega
      rw [List.getElem?_append_left hlt, List.getElem?_eq_getElem hlt]
      have := bsOk_at h hlt
      simp only
      rw [bwF_more h f _ (by omega)]
theorem bw_more {nv : Nat} {bs : List Bd} {b : Bd} (h : bsOk nv bs = true) (e : Int) (he : e < bs.length) : bw (bs ++ [b]) e = bw bs e := bwF_more h _ e he
theorem pOk_more {a : F} {n nv : Nat} {bs : List Bd} {b : Bd} (h : bsOk nv bs = true) {p e : Int} (hp : pOk a n bs p e = true) : pOk a n (bs ++ [b]) p e = true := by
  rw [pOk_iff] at hp ⊢
  obtain ⟨h1, h2, h3⟩ := hp
  rw [bw_more h e h2.2]
  refine ⟨h1, ⟨h2.1, ?_⟩, h3⟩
  simp; omega
theorem vOk_more {a : F} {l : List Cc} {nv : Nat} {bs : List Bd} {b : Bd} (h : bsOk nv bs = true) {i : Nat} {v : Vl} (hv : vOk a l bs i v = true) : vOk a l (bs ++ [b]) i v = true := by
  unfold vOk at hv ⊢
  by_cases hf : v.fn = true
  · rw [if_pos hf] at hv ⊢
    simp only [Bool.and_eq_true] at hv ⊢
    obtain ⟨⟨⟨h1, h2⟩, h3⟩, h4⟩ := hv
    have := (pOk_iff.1 h2).2.1.2
    rw [bw_more h _ this]
    exact ⟨⟨⟨h1, pOk_more h h2⟩, h3⟩, h4⟩
  · rw [if_neg hf] at hv ⊢; exact hv
theorem fOk_more {a : F} {l : List Cc} {nv : Nat} {bs : List Bd} {b : Bd} (h : bsOk nv bs = true) {f : Fm} (hv : fOk a l bs nv f = true) : fOk a l (bs ++ [b]) nv f = true := by
  unfold fOk at hv ⊢
  simp only [Bool.and_eq_true] at hv ⊢
  exact ⟨⟨pOk_more h hv.1.1, hv.1.2⟩, hv.2⟩
theorem blw_mono {n : Int} {c c' : Nat} (h : blw n c = true) (hc : c ≤ c') : blw n c' = true := by rw [blw_iff] at h ⊢; omega
theorem fOk_nv {a : F} {l : List Cc} {nv nv' : Nat} {bs : List Bd} (hn : nv ≤ nv') {f : Fm} (hv : fOk a l bs nv f = true) : fOk a l bs nv' f = true := by
  unfold fOk at hv ⊢
  rw [Bool.and_eq_true] at hv ⊢
  refine ⟨hv.1, ?_⟩
  by_cases hk : f.k = 4 ∨ f.k = 5
  · rw [if_pos hk] at *
    have := hv.2
    rw [Bool.or_eq_true] at this ⊢
    exact this.imp id (fun h => blw_mono h hn)
  · rw [if_neg hk] at *; exact hv.2

/-- What is at a place that may be done. -/
theorem Cl.part {l : List Cc} {a : F} (h : Cl l a) {p : Int} (hp : 0 ≤ p ∧ p < l.length) : ∃ x e k, (ndT a)[p.toNat]? = some (x, e, k) ∧ l[p.toNat]? = some x ∧ tV (ndT a) p.toNat = (e : Int) ∧ kAt l p = x.k ∧ goodC x = true ∧ k.len = ar x.k ∧ e ≤ 600 := by
  have hlt : p.toNat < l.length := by omega
  obtain ⟨e, k, hn⟩ := h.at hlt
  obtain ⟨g1, g2, g3, g4⟩ := h.good hn
  refine ⟨_, e, k, hn, List.getElem?_eq_getElem hlt, ?_, ?_, g1, g2, g4⟩
  · unfold tV; rw [hn]
  · unfold kAt; rw [List.getElem?_eq_getElem hlt]
/-- A kid may be done, with what is bound to it. -/
theorem Cl.kpOk {l : List Cc} {a : F} (h : Cl l a) {p : Int} (hp : 0 ≤ p ∧ p < l.length) {x : Cc} {e : Nat} {k : F} (hn : (ndT a)[p.toNat]? = some (x, e, k)) {j : Nat} (hj : j < ar x.k) :
    0 ≤ kp a p j ∧ kp a p j < l.length ∧ tV (ndT a) (kp a p j).toNat = ((e + binds x.k j : Nat) : Int) := by
  obtain ⟨y, m, hy, hk⟩ := h.kid hn hj
  obtain ⟨hlt, -⟩ := h.cell hk
  have hkp : kp a p j = p + 1 + (ko k j : Nat) := by unfold kp; rw [hn]
  have ht : (kp a p j).toNat = p.toNat + 1 + ko k j := by rw [hkp]; omega
  refine ⟨by rw [hkp]; omega, by rw [hkp]; omega, ?_⟩
  rw [ht]
  unfold tV
  rw [hk]

theorem lkB_ok {nv : Nat} {bs : List Bd} (h : bsOk nv bs = true) : ∀ (n : Nat) (e : Int), e < bs.length → (n : Int) < (bw bs e).1 → 0 ≤ lkB bs n e ∧ lkB bs n e < nv ∧ 0 ≤ e
  | 0, e, he, hn => by
    by_cases hneg : e < 0
    · rw [bw_neg _ _ hneg] at hn; simp at hn
    · have hlt : e.toNat < bs.length := by omega
      have := bsOk_at h hlt
      unfold lkB
      rw [List.getElem?_eq_getElem hlt]
      simp only
      omega
  | n + 1, e, he, hn => by
    by_cases hneg : e < 0
    · rw [bw_neg _ _ hneg] at hn; simp at hn; omega
    · have hlt : e.toNat < bs.length := by omega
      have hb := bsOk_at h hlt
      unfold lkB
      rw [List.getElem?_eq_getElem hlt]
      simp only
      have hs := bw_step h hlt
      rw [Int.toNat_of_nonneg (by omega)] at hs
      rw [hs] at hn
      simp only at hn
      have := lkB_ok h n bs[e.toNat].up (by omega) (by omega)
      omega

theorem inB_iff {n lo hi : Int} : inB n lo hi = true ↔ lo ≤ n ∧ n ≤ hi := by unfold inB; simp
theorem vlAt_ok {a : F} {l : List Cc} {m : Mc} (h : GM a l m) {i : Int} (hi : 0 ≤ i ∧ i < m.vs.length) : ∃ hlt : i.toNat < m.vs.length, vlAt m i = m.vs[i.toNat] ∧ vOk a l m.bs i.toNat (vlAt m i) = true := by
  have hlt : i.toNat < m.vs.length := by omega
  have e : vlAt m i = m.vs[i.toNat] := by unfold vlAt; rw [List.getD_eq_getElem?_getD, List.getElem?_eq_getElem hlt]; rfl
  exact ⟨hlt, e, by rw [e]; exact h.vs _ hlt⟩
theorem vOk_fn {a : F} {l : List Cc} {bs : List Bd} {i : Nat} {v : Vl} (h : vOk a l bs i v = true) (hf : v.fn = true) : v.num = 0 ∧ pOk a l.length bs v.pl v.env = true ∧ kAt l v.pl = 3 ∧ (bw bs v.env).2 < (i : Int) := by
  unfold vOk at h
  rw [if_pos hf] at h
  simp only [Bool.and_eq_true, decide_eq_true_iff] at h
  exact ⟨h.1.1.1, h.1.1.2, h.1.2, h.2⟩
theorem vOk_num {a : F} {l : List Cc} {bs : List Bd} {i : Nat} {v : Vl} (h : vOk a l bs i v = true) (hf : v.fn = false) : -1000000 ≤ v.num ∧ v.num ≤ 1000000 ∧ v.pl = 0 ∧ v.env = 0 := by
  unfold vOk at h
  rw [if_neg (by rw [hf]; simp)] at h
  simp only [Bool.and_eq_true, decide_eq_true_iff, inB_iff] at h
  exact ⟨h.1.1.1, h.1.1.2, h.1.2, h.2⟩
theorem fOk_parts {a : F} {l : List Cc} {bs : List Bd} {nv : Nat} {f : Fm} (h : fOk a l bs nv f = true) : pOk a l.length bs f.pl f.env = true ∧ kAt l f.pl = f.k ∧ (f.k = 4 ∨ f.k = 5 ∨ f.k = 6 ∨ f.k = 7) ∧ (f.val = -1 ∨ (f.k = 4 ∨ f.k = 5) ∧ 0 ≤ f.val ∧ f.val < nv) := by
  unfold fOk at h
  simp only [Bool.and_eq_true, decide_eq_true_iff] at h
  obtain ⟨⟨h1, h2⟩, h3⟩ := h
  refine ⟨h1, h2, ?_⟩
  by_cases hk : f.k = 4 ∨ f.k = 5
  · rw [if_pos hk, Bool.or_eq_true, decide_eq_true_iff, blw_iff] at h3
    exact ⟨by omega, by rcases h3 with h3 | h3; · exact .inl h3
                        · exact .inr ⟨hk, h3⟩⟩
  · rw [if_neg hk] at h3
    simp only [Bool.and_eq_true, decide_eq_true_iff] at h3
    exact ⟨by omega, .inl h3.2⟩
theorem nOk_done {a : F} {l : List Cc} {m : Mc} (h : nOk a l m = true) (hd : m.done = true) : m.pl = -1 ∧ m.env = -1 ∧ 0 ≤ m.val ∧ m.val < m.vs.length := by
  unfold nOk at h
  rw [if_pos hd] at h
  simp only [Bool.and_eq_true, decide_eq_true_iff, blw_iff] at h
  exact ⟨h.1.1, h.1.2, h.2⟩
theorem nOk_not {a : F} {l : List Cc} {m : Mc} (h : nOk a l m = true) (hd : m.done = false) : m.val = -1 ∧ pOk a l.length m.bs m.pl m.env = true := by
  unfold nOk at h
  rw [if_neg (by rw [hd]; simp)] at h
  simpa using h
theorem nOk_come {a : F} {l : List Cc} {m : Mc} {v : Int} (h : 0 ≤ v ∧ v < m.vs.length) : nOk a l (comeM m v) = true := by
  unfold nOk comeM
  simp [blw]
  omega
theorem nOk_next {a : F} {l : List Cc} {m : Mc} {p e : Int} (h : pOk a l.length m.bs p e = true) : nOk a l (nextM m p e) = true := by
  unfold nOk nextM
  simp [h]

theorem newM_good {a : F} {l : List Cc} {m m' : Mc} {v : Vl} {fs : List Fm} (h : GM a l m) (hs : ∀ f ∈ fs, f ∈ m.fs) (hl : fs.length ≤ m.fs.length) (hv : vOk a l m.bs m.vs.length v = true) (he : newM { m with fs := fs } v = .inl m') : GM a l m' := by
  unfold newM at he
  simp only at he
  by_cases hn : 500 ≤ m.vs.length
  · rw [if_pos hn] at he; cases he
  · rw [if_neg hn] at he
    simp only [Sum.inl.injEq] at he
    subst he
    refine ⟨Nat.le_trans hl h.nf, by simp [comeM]; omega, h.nb, ?_, fun i hi => ?_, fun f hf => ?_, nOk_come (by simp; omega)⟩
    · exact bsOk_snoc h.bs (by simp [comeM])
    · simp only [comeM] at hi ⊢
      by_cases hlt : i < m.vs.length
      · rw [List.getElem_append_left hlt]; exact h.vs i hlt
      · have : i = m.vs.length := by simp at hi; omega
        subst this
        rw [List.getElem_append_right (Nat.le_refl _)]
        simpa using hv
    · have := h.fs f (hs f hf)
      exact fOk_nv (by simp [comeM]) this
theorem bindM_good {a : F} {l : List Cc} {m m' : Mc} {up p : Int} (h : GM a l m) (hv : 0 ≤ m.val ∧ m.val < m.vs.length) (hu : -1 ≤ up ∧ up < m.bs.length) (hp : 0 ≤ p ∧ p < l.length) (ht : tV (ndT a) p.toNat = (bw m.bs up).1 + 1) (he : bindM m up p = .inl m') : GM a l m' := by
  unfold bindM at he
  by_cases hn : 500 ≤ m.bs.length
  · rw [if_pos hn] at he; cases he
  · rw [if_neg hn] at he
    simp only [Sum.inl.injEq] at he
    subst he
    have hb : bOk m.vs.length m.bs.length ⟨m.val, up⟩ = true := bOk_iff.2 ⟨hv.1, hv.2, hu.1, hu.2⟩
    have hbs := bsOk_more h.bs hb
    refine ⟨by have := h.nf; simp [nextM]; omega, h.nv, by simp [nextM]; omega, hbs, fun i hi => vOk_more h.bs (h.vs i hi), fun f hf => fOk_more h.bs (h.fs f (mem_drop hf)), nOk_next ?_⟩
    rw [pOk_iff]
    refine ⟨hp, ⟨by omega, by simp; omega⟩, ?_⟩
    have hlt : m.bs.length < (m.bs ++ [(⟨m.val, up⟩ : Bd)]).length := by simp
    have := bw_step hbs hlt
    rw [List.getElem_append_right (Nat.le_refl _)] at this
    simp only [Nat.sub_self, List.getElem_cons_zero] at this
    rw [this]
    simp only
    rw [bw_more h.bs _ hu.2, ht]

theorem step_good {a : F} {l : List Cc} {m m' : Mc} (hC : Cl l a) (h : GM a l m) (he : stepM a l m = .inl m') : GM a l m' := by
  unfold stepM at he
  by_cases hd : m.done = true
  · rw [if_pos hd] at he
    obtain ⟨n1, n2, n3, n4⟩ := nOk_done h.now hd
    obtain ⟨hlt, hve, hvo⟩ := vlAt_ok h ⟨n3, n4⟩
    cases hf : m.fs.getLast? with
    | none => rw [hf] at he; cases he
    | some f =>
      rw [hf] at he
      simp only at he
      have hmem : f ∈ m.fs := List.mem_of_getLast? hf
      obtain ⟨p1, p2, p3, p4⟩ := fOk_parts (h.fs f hmem)
      obtain ⟨q1, q2, q3⟩ := pOk_iff.1 p1
      obtain ⟨x, e, k, x1, x2, x3, x4, x5, x6, x7⟩ := hC.part q1
      have hxk : x.k = f.k := by rw [← x4, p2]
      have dl : m.fs.dropLast.length ≤ m.fs.length := by simp
      unfold goM at he
      by_cases k6 : f.k = 6
      · rw [if_pos k6] at he
        by_cases hfn : (vlAt m m.val).fn = true
        · rw [if_pos hfn] at he; cases he
        · rw [if_neg hfn] at he
          simp only [Sum.inl.injEq] at he
          subst he
          have har : ar x.k = 3 := by rw [hxk, k6]; rfl
          have hb : ∀ j, binds x.k j = 0 := fun j => by rw [hxk, k6]; unfold binds; rw [if_neg (by omega)]
          have hkk : ∀ j, j < 3 → pOk a l.length m.bs (kp a f.pl j) f.env = true := fun j hj => by
            obtain ⟨z1, z2, z3⟩ := hC.kpOk q1 x1 (j := j) (by omega)
            rw [pOk_iff]
            exact ⟨⟨z1, z2⟩, q2, by rw [z3, hb, q3, x3]; simp⟩
          exact ⟨by have := h.nf; simp [nextM]; omega, h.nv, h.nb, h.bs, h.vs, fun g hg => h.fs g (mem_drop hg), nOk_next (hkk _ (by split <;> omega))⟩
      · rw [if_neg k6] at he
        by_cases k7 : f.k = 7
        · rw [if_pos k7] at he
          have har : ar x.k = 2 := by rw [hxk, k7]; rfl
          obtain ⟨z1, z2, z3⟩ := hC.kpOk q1 x1 (j := 1) (by omega)
          have hb : binds x.k 1 = 1 := by rw [hxk, k7]; rfl
          exact bindM_good h ⟨n3, n4⟩ q2 ⟨z1, z2⟩ (by rw [z3, hb, q3, x3]; simp) he
        · rw [if_neg k7] at he
          have har : ar x.k = 2 := by rw [hxk]; unfold ar; rw [if_neg (by omega), if_pos (by omega)]
          by_cases hfv : f.val = -1
          · rw [if_pos hfv] at he
            simp only [Sum.inl.injEq] at he
            subst he
            obtain ⟨z1, z2, z3⟩ := hC.kpOk q1 x1 (j := 1) (by omega)
            have hb : binds x.k 1 = 0 := by rw [hxk]; unfold binds; rw [if_neg (by omega)]
            have hne : m.fs ≠ [] := by intro e; rw [e] at hmem; simp at hmem
            have hpos := List.length_pos_iff.2 hne
            refine ⟨by have := h.nf; simp [nextM]; omega, h.nv, h.nb, h.bs, h.vs, fun g hg => ?_, nOk_next (pOk_iff.2 ⟨⟨z1, z2⟩, q2, by rw [z3, hb, q3, x3]; simp⟩)⟩
            simp only [nextM, List.mem_append, List.mem_singleton] at hg
            rcases hg with hg | rfl
            · exact h.fs g (mem_drop hg)
            · unfold fOk
              simp only [Bool.and_eq_true, decide_eq_true_iff]
              refine ⟨⟨p1, p2⟩, ?_⟩
              rw [if_pos (by omega), Bool.or_eq_true, blw_iff]
              exact .inr ⟨n3, n4⟩
          · rw [if_neg hfv] at he
            obtain ⟨-, v1, v2⟩ := p4.resolve_left hfv
            obtain ⟨hlt', hve', hvo'⟩ := vlAt_ok h ⟨v1, v2⟩
            by_cases k4 : f.k = 4
            · rw [if_pos k4] at he
              by_cases hfn : (vlAt m f.val).fn = true
              · rw [if_pos hfn] at he
                obtain ⟨g1, g2, g3, g4⟩ := vOk_fn hvo' hfn
                obtain ⟨r1, r2, r3⟩ := pOk_iff.1 g2
                obtain ⟨y, e', k', y1, y2, y3, y4, y5, y6, y7⟩ := hC.part r1
                have hyk : y.k = 3 := by rw [← y4, g3]
                obtain ⟨z1, z2, z3⟩ := hC.kpOk r1 y1 (j := 0) (by rw [hyk]; decide)
                have hb : binds y.k 0 = 1 := by rw [hyk]; rfl
                exact bindM_good h ⟨n3, n4⟩ r2 ⟨z1, z2⟩ (by rw [z3, hb, r3, y3]; simp) he
              · rw [if_neg hfn] at he; cases he
            · rw [if_neg k4] at he
              by_cases hst : (vlAt m f.val).fn = true ∨ (vlAt m m.val).fn = true ∨ inB ((vlAt m f.val).num + (vlAt m m.val).num) (-1000000) 1000000 = false
              · rw [if_pos hst] at he; cases he
              · rw [if_neg hst] at he
                simp only [not_or, Bool.not_eq_true, Bool.not_eq_false] at hst
                refine newM_good h (fun g hg => mem_drop hg) dl ?_ he
                unfold vOk
                simp [hst.2.2]
  · have hd' : m.done = false := by simpa using hd
    rw [if_neg hd] at he
    obtain ⟨n1, n2⟩ := nOk_not h.now hd'
    obtain ⟨q1, q2, q3⟩ := pOk_iff.1 n2
    obtain ⟨x, e, k, x1, x2, x3, x4, x5, x6, x7⟩ := hC.part q1
    unfold doM at he
    rw [x2] at he
    simp only at he
    by_cases k1 : x.k = 1
    · rw [if_pos k1] at he
      simp only [Sum.inl.injEq] at he
      subst he
      have hb := hC.bound x1 k1
      have := lkB_ok h.bs x.n.toNat m.env q2.2 (by rw [q3, x3]; omega)
      exact ⟨h.nf, h.nv, h.nb, h.bs, h.vs, h.fs, nOk_come ⟨this.1, this.2.1⟩⟩
    · rw [if_neg k1] at he
      by_cases k2 : x.k = 2
      · rw [if_pos k2] at he
        refine newM_good (fs := m.fs) h (fun _ hg => hg) (Nat.le_refl _) ?_ he
        have : inB x.n (-1000000) 1000000 = true := by unfold goodC at x5; rw [if_neg k1, if_pos k2] at x5; exact x5
        unfold vOk
        simp [this]
      · rw [if_neg k2] at he
        by_cases k3 : x.k = 3
        · rw [if_pos k3] at he
          refine newM_good (fs := m.fs) h (fun _ hg => hg) (Nat.le_refl _) ?_ he
          unfold vOk
          have hbb := bw_bound h.bs (m.env.toNat + 1) m.env q2.1 (by omega) q2.2
          simp only [if_true, decide_true, Bool.true_and, Bool.and_eq_true, decide_eq_true_iff]
          exact ⟨⟨n2, by rw [x4, k3]⟩, by omega⟩
        · rw [if_neg k3] at he
          by_cases hn : 500 ≤ m.fs.length
          · rw [if_pos hn] at he; cases he
          · rw [if_neg hn] at he
            simp only [Sum.inl.injEq] at he
            subst he
            have hk : x.k = 4 ∨ x.k = 5 ∨ x.k = 6 ∨ x.k = 7 := by
              unfold goodC at x5
              rw [if_neg k1, if_neg k2] at x5
              simp [inB] at x5
              omega
            have har : 0 < ar x.k := by unfold ar; rw [if_neg k3]; split <;> (try split) <;> omega
            obtain ⟨z1, z2, z3⟩ := hC.kpOk q1 x1 (j := 0) har
            have hb : binds x.k 0 = 0 := by unfold binds; rw [if_neg (by omega)]
            refine ⟨by simp [nextM]; omega, h.nv, h.nb, h.bs, h.vs, fun g hg => ?_, nOk_next (pOk_iff.2 ⟨⟨z1, z2⟩, q2, by rw [z3, hb, q3, x3]; simp⟩)⟩
            simp only [nextM, List.mem_append, List.mem_singleton] at hg
            rcases hg with hg | rfl
            · exact h.fs g hg
            · unfold fOk
              simp only [Bool.and_eq_true, decide_eq_true_iff]
              refine ⟨⟨n2, x4⟩, ?_⟩
              by_cases h45 : x.k = 4 ∨ x.k = 5
              · rw [if_pos h45]; simp
              · rw [if_neg h45]; simp; omega
theorem start_good {l : List Cc} {a : F} (hC : Cl l a) : GM a l startM := by
  have hp := hC.pos
  obtain ⟨x, k, rfl⟩ := F.len_1 hC.one
  refine ⟨by simp [startM], by simp [startM], by simp [startM], rfl, fun i hi => by simp [startM] at hi, fun f hf => by simp [startM] at hf, ?_⟩
  unfold nOk startM
  simp only [Bool.false_eq_true, if_false, decide_true, Bool.true_and]
  rw [pOk_iff]
  refine ⟨⟨by omega, by omega⟩, ⟨by omega, by simp⟩, ?_⟩
  rw [bw_neg _ _ (by omega)]
  simp [tV, ndT, nd, binds_0']
end Go.Proofs.Ytdajalchdbgooaa.W

/-
  Values read back as terms: with a count of the cells beside it, and whole; what the count tells. No program here.
-/
namespace Go.Proofs.Ytdajalchdbgooaa.W
set_option linter.unusedVariables false

/-- Each variable is bound around it, d being bound around all. -/
def FBv (pk : Int) (d : Nat) : Nat → F → Prop
  | _, .nil => True
  | i, .cons x k r => (x.k = 1 → x.n < ((d + binds pk i : Nat) : Int)) ∧ FBv x.k (d + binds pk i) 0 k ∧ FBv pk d (i + 1) r
theorem fbv_of : ∀ (a : F) (pk : Int) (d i : Nat), fre pk d i a [] = [] → FBv pk d i a
  | .nil, _, _, _, _ => trivial
  | .cons z m r, pk, d, i, hf => by
    rw [fre] at hf
    have hin : (if z.k = 1 ∧ ((d + binds pk i : Nat) : Int) ≤ z.n then put [] (z.n - ((d + binds pk i : Nat) : Int)) else fre z.k (d + binds pk i) 0 m []) = [] := by
      apply Classical.byContradiction
      intro hne
      exact fre_ne r _ _ _ _ hne hf
    rw [hin] at hf
    by_cases hz : z.k = 1 ∧ ((d + binds pk i : Nat) : Int) ≤ z.n
    · rw [if_pos hz] at hin; exact absurd hin (put_ne _ _)
    · rw [if_neg hz] at hin
      exact ⟨fun h => by apply Classical.byContradiction; intro h2; exact hz ⟨h, by omega⟩, fbv_of m _ _ _ hin, fbv_of r _ _ _ hf⟩
theorem nd_fbv : ∀ (a : F) (pk : Int) (d i p : Nat) (x : Cc) (e : Nat) (k : F), FBv pk d i a → (nd pk d i a)[p]? = some (x, e, k) → (x.k = 1 → x.n < (e : Int)) ∧ FBv x.k e 0 k
  | .nil, _, _, _, p, x, e, k, _, h => by simp [nd] at h
  | .cons z m r, pk, d, i, p, x, e, k, ⟨h1, h2, h3⟩, h => by
    match p, h with
    | 0, h =>
      simp only [nd, List.getElem?_cons_zero, Option.some.injEq, Prod.mk.injEq] at h
      obtain ⟨rfl, rfl, rfl⟩ := h
      exact ⟨h1, h2⟩
    | p + 1, h =>
      simp only [nd, List.getElem?_cons_succ] at h
      by_cases hp : p < (nd z.k (d + binds pk i) 0 m).length
      · rw [List.getElem?_append_left hp] at h
        exact nd_fbv m _ _ _ p x e k h2 h
      · rw [List.getElem?_append_right (by omega)] at h
        exact nd_fbv r _ _ _ _ x e k h3 h
theorem lkB_le {nv : Nat} {bs : List Bd} (h : bsOk nv bs = true) : ∀ (n : Nat) (e : Int), e < bs.length → (n : Int) < (bw bs e).1 → lkB bs n e ≤ (bw bs e).2
  | 0, e, he, hn => by
    by_cases hneg : e < 0
    · rw [bw_neg _ _ hneg] at hn; simp at hn
    · have hlt : e.toNat < bs.length := by omega
      have hs := bw_step h hlt
      rw [Int.toNat_of_nonneg (by omega)] at hs
      unfold lkB
      rw [List.getElem?_eq_getElem hlt, hs]
      simp only
      omega
  | n + 1, e, he, hn => by
    by_cases hneg : e < 0
    · rw [bw_neg _ _ hneg] at hn; simp at hn; omega
    · have hlt : e.toNat < bs.length := by omega
      have hb := bsOk_at h hlt
      have hs := bw_step h hlt
      rw [Int.toNat_of_nonneg (by omega)] at hs
      unfold lkB
      rw [List.getElem?_eq_getElem hlt]
      rw [hs] at hn ⊢
      simp only at hn ⊢
      have := lkB_le h n bs[e.toNat].up (by omega) (by omega)
      omega

def numT (n : Int) : F := .cons ⟨2, n⟩ .nil .nil
/-- Values in the place of the variables that are bound outside. -/
def fil (R : Int → F) (bs : List Bd) (env : Int) (pk : Int) (d : Nat) : Nat → F → F
  | _, .nil => .nil
  | i, .cons x k r => if x.k = 1 ∧ ((d + binds pk i : Nat) : Int) ≤ x.n then (R (lkB bs (x.n - ((d + binds pk i : Nat) : Int)).toNat env)).app (fil R bs env pk d (i + 1) r) else .cons x (fil R bs env x.k (d + binds pk i) 0 k) (fil R bs env pk d (i + 1) r)
/-- The value j as a term. -/
def rbT (l : List Cc) (vs : List Vl) (bs : List Bd) : Nat → Int → F
  | 0, _ => numT 0
  | f + 1, j => match vs[j.toNat]? with
    | none => numT 0
    | some v => if v.fn = true then (match rt 1 (l.drop v.pl.toNat) with | some (t, _) => fil (rbT l vs bs f) bs v.env 0 0 0 t | none => numT 0) else numT v.num
def rbG (RS : Int → Int → F × Int) (bs : List Bd) (env : Int) : Int → Int → Nat → F := fun s n d => if n < (d : Int) then .cons ⟨1, n⟩ .nil .nil else (RS (lkB bs (n - (d : Int)).toNat env) (s - 1)).1
def rbU (RS : Int → Int → F × Int) (bs : List Bd) (env : Int) : Int → Int → Nat → Int := fun s n d => if n < (d : Int) then s else (RS (lkB bs (n - (d : Int)).toNat env) (s - 1)).2
/-- The value j as the program reads it back, and the count behind it. -/
def rbS (l : List Cc) (vs : List Vl) (bs : List Bd) : Nat → Int → Int → F × Int
  | 0, _, s => (numT 0, s)
  | f + 1, j, s => match vs[j.toNat]? with
    | none => (numT 0, s)
    | some v => if v.fn = true then (match rt 1 (l.drop v.pl.toNat) with
        | some (t, _) => if 600 < s + (t.flat.length : Int) then (numT 0, s + (t.flat.length : Int)) else wv (rbG (rbS l vs bs f) bs v.env) (rbU (rbS l vs bs f) bs v.env) 0 0 0 t (s + (t.flat.length : Int))
        | none => (numT 0, s)) else (numT v.num, s + 1)

def RbOk (T : F) (S : Int → F × Int) : Prop := ∀ s : Int, (s + (T.flat.length : Int) ≤ 600 → S s = (T, s + (T.flat.length : Int))) ∧ (600 < s + (T.flat.length : Int) → 600 < (S s).2)
theorem row_ok {RT : Int → F} {RS : Int → Int → F × Int} {bs : List Bd} {env : Int} {N : Nat} (h : ∀ n : Nat, n < N → RbOk (RT (lkB bs n env)) (RS (lkB bs n env)) ∧ 1 ≤ (RT (lkB bs n env)).flat.length) :
    ∀ (a : F) (pk : Int) (d i : Nat), a.ok → FBv pk (N + d) i a → a.flat.length ≤ (fil RT bs env pk d i a).flat.length ∧
      ∀ s : Int, (s + ((fil RT bs env pk d i a).flat.length : Int) - (a.flat.length : Int) ≤ 600 → wv (rbG RS bs env) (rbU RS bs env) pk d i a s = (fil RT bs env pk d i a, s + ((fil RT bs env pk d i a).flat.length : Int) - (a.flat.length : Int))) ∧
        (600 < s + ((fil RT bs env pk d i a).flat.length : Int) - (a.flat.length : Int) → 600 < (wv (rbG RS bs env) (rbU RS bs env) pk d i a s).2)
  | .nil, pk, d, i, _, _ => by
    refine ⟨Nat.le_refl _, fun s => ?_⟩
    simp only [fil, wv, F.flat, List.length_nil]
    exact ⟨fun _ => by congr 1; simp, fun h => by simpa using h⟩
  | .cons x k r, pk, d, i, ⟨g1, g2, g3, g4⟩, ⟨b1, b2, b3⟩ => by
    obtain ⟨er, hr⟩ := row_ok h r pk d (i + 1) g4 b3
    rw [show N + d + binds pk i = N + (d + binds pk i) by omega] at b1 b2
    obtain ⟨ek, hk⟩ := row_ok h k x.k (d + binds pk i) 0 g3 b2
    have hfl : (F.cons x k r).flat.length = 1 + k.flat.length + r.flat.length := by simp [F.flat]; omega
    by_cases hx : x.k = 1
    · have hk0 : k = .nil := F.len_0 (by rw [g2, hx]; rfl)
      subst hk0
      have hfl1 : (F.cons x .nil r).flat.length = 1 + r.flat.length := by rw [hfl]; simp [F.flat]
      by_cases hd : ((d + binds pk i : Nat) : Int) ≤ x.n
      · have ef : fil RT bs env pk d i (.cons x .nil r) = (RT (lkB bs (x.n - ((d + binds pk i : Nat) : Int)).toNat env)).app (fil RT bs env pk d (i + 1) r) := by rw [fil, if_pos ⟨hx, hd⟩]
        have hn := b1 hx
        obtain ⟨ho, h1⟩ := h (x.n - ((d + binds pk i : Nat) : Int)).toNat (by omega)
        rw [ef]
        obtain ⟨R, hR⟩ : ∃ R, R = RT (lkB bs (x.n - ((d + binds pk i : Nat) : Int)).toNat env) := ⟨_, rfl⟩
        rw [← hR] at ho h1 ⊢
        have el : (R.app (fil RT bs env pk d (i + 1) r)).flat.length = R.flat.length + (fil RT bs env pk d (i + 1) r).flat.length := by rw [F.app_flat, List.length_append]
        refine ⟨by rw [el, hfl1]; omega, fun s => ?_⟩
        have ew : wv (rbG RS bs env) (rbU RS bs env) pk d i (.cons x .nil r) s = ((RS (lkB bs (x.n - ((d + binds pk i : Nat) : Int)).toNat env) (s - 1)).1.app (wv (rbG RS bs env) (rbU RS bs env) pk d (i + 1) r (RS (lkB bs (x.n - ((d + binds pk i : Nat) : Int)).toNat env) (s - 1)).2).1, (wv (rbG RS bs env) (rbU RS bs env) pk d (i + 1) r (RS (lkB bs (x.n - ((d + binds pk i : Nat) : Int)).toNat env) (s - 1)).2).2) := by
          simp only [wv, hx, if_true, rbG, rbU]
          rw [if_neg (by omega), if_neg (by omega)]
        rw [ew, el, hfl1]
        obtain ⟨o1, o2⟩ := ho (s - 1)
        constructor
        · intro hs
          rw [o1 (by omega)]
          simp only
          obtain ⟨q1, -⟩ := hr (s - 1 + (R.flat.length : Int))
          rw [q1 (by omega)]
          simp only [Prod.mk.injEq, true_and]
          omega
        · intro hs
          by_cases hR6 : s - 1 + (R.flat.length : Int) ≤ 600
          · rw [o1 hR6]
            exact (hr _).2 (by omega)
          · have := o2 (by omega)
            exact (hr _).2 (by omega)
      · have ef : fil RT bs env pk d i (.cons x .nil r) = .cons x .nil (fil RT bs env pk d (i + 1) r) := by rw [fil, if_neg (fun q => hd q.2)]; rfl
        have ew : ∀ s, wv (rbG RS bs env) (rbU RS bs env) pk d i (.cons x .nil r) s = (.cons x .nil (wv (rbG RS bs env) (rbU RS bs env) pk d (i + 1) r s).1, (wv (rbG RS bs env) (rbU RS bs env) pk d (i + 1) r s).2) := by
          intro s
          simp only [wv, hx, if_true, rbG, rbU]
          rw [if_pos (by omega), if_pos (by omega)]
          obtain ⟨xk, xn⟩ := x
          simp only at hx
          subst hx
          rfl
        have el : (F.cons x .nil (fil RT bs env pk d (i + 1) r)).flat.length = 1 + (fil RT bs env pk d (i + 1) r).flat.length := by simp [F.flat]; omega
        rw [ef]
        refine ⟨by rw [el, hfl1]; omega, fun s => ?_⟩
        rw [ew, el, hfl1]
        obtain ⟨q1, q2⟩ := hr s
        constructor
        · intro hs
          rw [q1 (by omega)]
          simp only [Prod.mk.injEq, true_and]
          omega
        · intro hs
          exact q2 (by omega)
    · have ef : fil RT bs env pk d i (.cons x k r) = .cons x (fil RT bs env x.k (d + binds pk i) 0 k) (fil RT bs env pk d (i + 1) r) := by rw [fil, if_neg (fun q => hx q.1)]
      have el : (F.cons x (fil RT bs env x.k (d + binds pk i) 0 k) (fil RT bs env pk d (i + 1) r)).flat.length = 1 + (fil RT bs env x.k (d + binds pk i) 0 k).flat.length + (fil RT bs env pk d (i + 1) r).flat.length := by simp [F.flat]; omega
      have ew : ∀ s, wv (rbG RS bs env) (rbU RS bs env) pk d i (.cons x k r) s = (.cons x (wv (rbG RS bs env) (rbU RS bs env) x.k (d + binds pk i) 0 k s).1 (wv (rbG RS bs env) (rbU RS bs env) pk d (i + 1) r (wv (rbG RS bs env) (rbU RS bs env) x.k (d + binds pk i) 0 k s).2).1, (wv (rbG RS bs env) (rbU RS bs env) pk d (i + 1) r (wv (rbG RS bs env) (rbU RS bs env) x.k (d + binds pk i) 0 k s).2).2) := by
        intro s
        simp only [wv, hx, if_false]
      rw [ef]
      refine ⟨by rw [el, hfl]; omega, fun s => ?_⟩
      rw [ew, el, hfl]
      obtain ⟨k1, k2⟩ := hk s
      constructor
      · intro hs
        rw [k1 (by omega)]
        simp only
        obtain ⟨q1, -⟩ := hr (s + ((fil RT bs env x.k (d + binds pk i) 0 k).flat.length : Int) - (k.flat.length : Int))
        rw [q1 (by omega)]
        simp only [Prod.mk.injEq, true_and]
        omega
      · intro hs
        by_cases h6 : s + ((fil RT bs env x.k (d + binds pk i) 0 k).flat.length : Int) - (k.flat.length : Int) ≤ 600
        · rw [k1 h6]
          exact (hr _).2 (by omega)
        · have := k2 (by omega)
          exact (hr _).2 (by omega)

/-- What a value of a good machine is of. -/
theorem val_part {l : List Cc} {a : F} {m : Mc} (hC : Cl l a) (h : GM a l m) {j : Nat} (hj : j < m.vs.length) (hf : m.vs[j].fn = true) :
    ∃ x k r, rt 1 (l.drop m.vs[j].pl.toNat) = some (.cons x k .nil, r) ∧ x.k = 3 ∧ goodC x = true ∧ k.len = ar x.k ∧ k.ok ∧ FBv 0 (bw m.bs m.vs[j].env).1.toNat 0 (.cons x k .nil) ∧ 0 ≤ m.vs[j].pl ∧ m.vs[j].pl < l.length ∧ (-1 ≤ m.vs[j].env ∧ m.vs[j].env < m.bs.length) ∧ 0 ≤ (bw m.bs m.vs[j].env).1 ∧ (bw m.bs m.vs[j].env).2 < (j : Int) ∧ k.flat.length + 1 ≤ l.length ∧ sz (l.drop m.vs[j].pl.toNat) 1 0 = some (k.flat.length + 1) := by
  have hv := h.vs j hj
  obtain ⟨v1, v2, v3, v4⟩ := vOk_fn hv hf
  obtain ⟨⟨p1, p2⟩, p3, p4⟩ := pOk_iff.1 v2
  obtain ⟨x, e, k, x1, x2, x3, x4, x5, x6, x7⟩ := hC.part ⟨p1, p2⟩
  obtain ⟨s1, s2, r, s3⟩ := hC.size x1
  have hfb := nd_fbv a 0 0 0 _ x e k (fbv_of a 0 0 0 hC.free) x1
  have hxk : x.k = 3 := by rw [← x4]; exact v3
  have he : (bw m.bs m.vs[j].env).1 = (e : Int) := by rw [p4, x3]
  have hgd := hC.good x1
  refine ⟨x, k, r, s3, hxk, hgd.1, hgd.2.1, hgd.2.2.1, ⟨fun h => by omega, ?_, trivial⟩, p1, p2, p3, by omega, v4, by omega, s2⟩
  rw [he, binds_0', Nat.add_zero, Int.toNat_natCast]
  exact hfb.2
theorem rb_ok {l : List Cc} {a : F} {m : Mc} (hC : Cl l a) (h : GM a l m) : ∀ (f j : Nat), j < f → j < m.vs.length → RbOk (rbT l m.vs m.bs f (j : Int)) (rbS l m.vs m.bs f (j : Int)) ∧ 1 ≤ (rbT l m.vs m.bs f (j : Int)).flat.length
  | 0, j, hj, _ => by omega
  | f + 1, j, hj, hl => by
    have e0 : m.vs[((j : Int)).toNat]? = some m.vs[j] := by simp [hl]
    by_cases hf : m.vs[j].fn = true
    · obtain ⟨x, k, r, hr, hx, hg, hk, ho, hfb, -, -, he, h0, hlt, hle, -⟩ := val_part hC h hl hf
      have eT : rbT l m.vs m.bs (f + 1) (j : Int) = fil (rbT l m.vs m.bs f) m.bs m.vs[j].env 0 0 0 (.cons x k .nil) := by
        rw [rbT, e0]
        simp only
        rw [if_pos hf, hr]
      have eS : ∀ s, rbS l m.vs m.bs (f + 1) (j : Int) s = if 600 < s + ((F.cons x k .nil).flat.length : Int) then (numT 0, s + ((F.cons x k .nil).flat.length : Int)) else wv (rbG (rbS l m.vs m.bs f) m.bs m.vs[j].env) (rbU (rbS l m.vs m.bs f) m.bs m.vs[j].env) 0 0 0 (.cons x k .nil) (s + ((F.cons x k .nil).flat.length : Int)) := by
        intro s
        rw [rbS, e0]
        simp only
        rw [if_pos hf, hr]
      have hP : ∀ n : Nat, n < (bw m.bs m.vs[j].env).1.toNat → RbOk (rbT l m.vs m.bs f (lkB m.bs n m.vs[j].env)) (rbS l m.vs m.bs f (lkB m.bs n m.vs[j].env)) ∧ 1 ≤ (rbT l m.vs m.bs f (lkB m.bs n m.vs[j].env)).flat.length := by
        intro n hn
        have h1 := lkB_ok h.bs n m.vs[j].env he.2 (by omega)
        have h2 := lkB_le h.bs n m.vs[j].env he.2 (by omega)
        obtain ⟨q, hq⟩ := Int.eq_ofNat_of_zero_le h1.1
        rw [hq]
        exact rb_ok hC h f q (by omega) (by omega)
      obtain ⟨r1, r2⟩ := row_ok hP (.cons x k .nil) 0 0 0 ⟨hg, hk, ho, trivial⟩ hfb
      rw [eT]
      obtain ⟨T, hT⟩ : ∃ T, T = fil (rbT l m.vs m.bs f) m.bs m.vs[j].env 0 0 0 (.cons x k .nil) := ⟨_, rfl⟩
      rw [← hT] at r1 r2 ⊢
      have hpos : 1 ≤ (F.cons x k .nil).flat.length := by simp [F.flat]
      refine ⟨fun s => ?_, by omega⟩
      rw [eS]
      by_cases h6 : 600 < s + ((F.cons x k .nil).flat.length : Int)
      · rw [if_pos h6]
        exact ⟨fun h => by omega, fun _ => h6⟩
      · rw [if_neg h6]
        obtain ⟨q1, q2⟩ := r2 (s + ((F.cons x k .nil).flat.length : Int))
        exact ⟨fun h => by rw [q1 (by omega)]; simp only [Prod.mk.injEq, true_and]; omega, fun h => q2 (by omega)⟩
    · have eT : rbT l m.vs m.bs (f + 1) (j : Int) = numT m.vs[j].num := by
        rw [rbT, e0]
        simp only
        rw [if_neg hf]
      have eS : ∀ s, rbS l m.vs m.bs (f + 1) (j : Int) s = (numT m.vs[j].num, s + 1) := by
        intro s
        rw [rbS, e0]
        simp only
        rw [if_neg hf]
      rw [eT]
      refine ⟨fun s => ?_, by simp [numT, F.flat]⟩
      rw [eS]
      simp [numT, F.flat]
end Go.Proofs.Ytdajalchdbgooaa.W

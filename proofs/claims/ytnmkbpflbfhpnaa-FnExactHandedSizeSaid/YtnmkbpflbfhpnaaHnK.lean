/-
  Terms that hand on: what is made by makings (each told how many are bound where it is put) and what is made by shifts are the same. No program here.
-/
import Derived.Test.YtnmkbpflbfhpnaaWkTeU
import Derived.Test.YtnmkbpflbfhpnaaTeR
namespace Go.Proofs.Ytnmkbpflbfhpnaa.W
set_option linter.unusedVariables false

def up1 (u : Int) : Int := IntKind.i64.wrap (u + 1)
def sub1 (a b : Int) : Int := IntKind.i64.wrap (IntKind.i64.wrap (a - b) - 1)
theorem up1_in {u : Int} (h0 : 0 ≤ u) (h : u ≤ 1000000) : up1 u = u + 1 := IntWalk.i64_in _ ⟨by omega, by omega⟩
theorem sub1_in {a b : Int} (h0 : 0 ≤ a) (h : a ≤ 1000000) (g0 : 0 ≤ b) (g : b ≤ 1000000) : sub1 a b = a - b - 1 := by
  unfold sub1
  rw [IntWalk.i64_in (a - b) ⟨by omega, by omega⟩]
  exact IntWalk.i64_in _ ⟨by omega, by omega⟩

/-- What a part is under so many bindings. -/
abbrev M := Int → F
def varT (n : Int) : F := .cons ⟨1, n⟩ .nil .nil
def lamT (a : F) : F := .cons ⟨3, 0⟩ a .nil
def appT (a b : F) : F := .cons ⟨4, 0⟩ (a.app b) .nil
def addT (a b : F) : F := .cons ⟨5, 0⟩ (a.app b) .nil
def ifT (a b c : F) : F := .cons ⟨6, 0⟩ (a.app (b.app c)) .nil
def bndM (u : Int) : M := fun v => varT (sub1 v u)
def lamM (b : M → M) : M := fun u => lamT (b (bndM u) (up1 u))
def appM (a b : M) : M := fun u => appT (a u) (b u)
def addM (a b : M) : M := fun u => addT (a u) (b u)
def ifM (a b c : M) : M := fun u => ifT (a u) (b u) (c u)
def valM (v : M) : M := lamM fun next => appM next v
def firstM (e : M) (t : M → M → M) : M := lamM fun next => appM e (lamM fun came => t came next)
def twoM (e f : M) (t : M → M → M → M) : M := firstM e (fun one next => appM f (lamM fun other => t one other next))
def extM (ρ : Int → M) (m : M) : Int → M := fun n => if n = 0 then m else ρ (n - 1)
/-- What the program makes of the term i of these. -/
def kM : F → Nat → (Int → M) → M
  | .nil, _, _ => fun _ => .nil
  | .cons x k _, 0, ρ =>
    if x.k = 1 then valM (ρ x.n)
    else if x.k = 3 then valM (lamM fun b => kM k 0 (extM ρ b))
    else if x.k = 4 then twoM (kM k 0 ρ) (kM k 1 ρ) (fun a b next => appM (appM a b) next)
    else if x.k = 5 then twoM (kM k 0 ρ) (kM k 1 ρ) (fun a b next => appM next (addM a b))
    else if x.k = 6 then firstM (kM k 0 ρ) (fun a next => ifM a (appM (kM k 1 ρ) next) (appM (kM k 2 ρ) next))
    else if x.k = 7 then firstM (kM k 0 ρ) (fun a next => appM (kM k 1 (extM ρ a)) next)
    else valM (fun _ => .cons x k .nil)
  | .cons _ _ r, i + 1, ρ => kM r i ρ

/-- The term i of these. -/
def nt : F → Nat → F
  | .nil, _ => .nil
  | .cons x k _, 0 => .cons x k .nil
  | .cons _ _ r, i + 1 => nt r i
theorem nt_len : ∀ (a : F) (i : Nat), i < a.len → (nt a i).len = 1
  | .nil, i, h => by simp [F.len] at h
  | .cons x k r, 0, h => rfl
  | .cons x k r, i + 1, h => nt_len r i (by simp [F.len] at h; omega)
theorem nt_flat : ∀ (a : F) (i : Nat), (nt a i).flat.length ≤ a.flat.length
  | .nil, i => by simp [nt]
  | .cons x k r, 0 => by simp [nt, F.flat]
  | .cons x k r, i + 1 => by have := nt_flat r i; simp [nt, F.flat]; omega
def sh (by_ : Int) (f : Nat) (a : F) : F := shf by_ 0 f 0 a
theorem sh_len (by_ : Int) (f : Nat) (a : F) : (sh by_ f a).len = a.len := shf_len _ _ _ _ _
theorem sh_flat (by_ : Int) (f : Nat) (a : F) : (sh by_ f a).flat.length = a.flat.length := shf_flat _ _ _ _ _
def two (kk d : F) : F := lamT (appT (sh 1 0 (nt kk 0)) (lamT (appT (sh 2 0 (nt kk 1)) (lamT d))))
/-- What the specification makes of a term: its first cell, what is behind it, what is made of that. -/
def hn1 (x : Cc) (k kk : F) : F :=
  if x.k = 1 then lamT (appT (varT 0) (varT (x.n + 1)))
  else if x.k = 3 then lamT (appT (varT 0) (lamT (sh 1 1 (nt kk 0))))
  else if x.k = 4 then two kk (appT (appT (varT 1) (varT 0)) (varT 2))
  else if x.k = 5 then two kk (appT (varT 2) (addT (varT 1) (varT 0)))
  else if x.k = 6 then lamT (appT (sh 1 0 (nt kk 0)) (lamT (ifT (varT 0) (appT (sh 2 0 (nt kk 1)) (varT 1)) (appT (sh 2 0 (nt kk 2)) (varT 1)))))
  else if x.k = 7 then lamT (appT (sh 1 0 (nt kk 0)) (lamT (appT (sh 1 1 (nt kk 1)) (varT 1))))
  else lamT (appT (varT 0) (.cons x k .nil))
def hn : F → F
  | .nil => .nil
  | .cons x k r => (hn1 x k (hn k)).app (hn r)
theorem hn1_lam (x : Cc) (k kk : F) : ∃ q, hn1 x k kk = lamT q ∧ q.len = 1 := by
  unfold hn1 two
  repeat' split
  all_goals exact ⟨_, rfl, rfl⟩
theorem hn1_len (x : Cc) (k kk : F) : (hn1 x k kk).len = 1 := by
  obtain ⟨q, e, -⟩ := hn1_lam x k kk
  rw [e]; rfl
theorem hn_len : ∀ a : F, (hn a).len = a.len
  | .nil => rfl
  | .cons x k r => by rw [hn, F.app_len, hn1_len, hn_len r, F.len]; omega
theorem nt_app_0 {a b : F} (h : a.len = 1) : nt (a.app b) 0 = a := by
  obtain ⟨x, k, rfl⟩ := F.len_1 h
  rfl
theorem nt_app_s {a b : F} (h : a.len = 1) (i : Nat) : nt (a.app b) (i + 1) = nt b i := by
  obtain ⟨x, k, rfl⟩ := F.len_1 h
  rfl
theorem nt_hn_0 (x : Cc) (k r : F) : nt (hn (.cons x k r)) 0 = hn1 x k (hn k) := by rw [hn, nt_app_0 (hn1_len _ _ _)]
theorem nt_hn_s (x : Cc) (k r : F) (i : Nat) : nt (hn (.cons x k r)) (i + 1) = nt (hn r) i := by rw [hn, nt_app_s (hn1_len _ _ _)]

theorem hn1_flat (x : Cc) (k kk : F) : (hn1 x k kk).flat.length ≤ 12 + k.flat.length + 3 * kk.flat.length := by
  have h0 := nt_flat kk 0
  have h1 := nt_flat kk 1
  have h2 := nt_flat kk 2
  unfold hn1 two
  repeat' split
  all_goals (simp only [lamT, appT, varT, addT, ifT, F.app_flat, F.flat, List.length_cons, List.length_append, List.length_nil, List.append_nil, sh_flat]; omega)

/-! Renaming: what stands free is told anew. -/
def rnc (σ : Int → Int) (d : Nat) (x : Cc) : Cc := if x.k = 1 ∧ (d : Int) ≤ x.n then ⟨x.k, σ (x.n - d) + d⟩ else x
def rn (σ : Int → Int) (pk : Int) (f : Nat) : Nat → F → F
  | _, .nil => .nil
  | i, .cons x k r => .cons (rnc σ (f + binds pk i) x) (rn σ x.k (f + binds pk i) 0 k) (rn σ pk f (i + 1) r)
theorem rnc_id (d : Nat) (x : Cc) : rnc (fun n => n) d x = x := by
  unfold rnc
  split
  · obtain ⟨k, n⟩ := x; simp
  · rfl
theorem rn_id : ∀ (a : F) (pk : Int) (f i : Nat), rn (fun n => n) pk f i a = a
  | .nil, _, _, _ => rfl
  | .cons x k r, pk, f, i => by rw [rn, rnc_id, rn_id k, rn_id r]
theorem rn_len (σ : Int → Int) : ∀ (a : F) (pk : Int) (f i : Nat), (rn σ pk f i a).len = a.len
  | .nil, _, _, _ => rfl
  | .cons x k r, pk, f, i => by rw [rn, F.len, rn_len σ r, F.len]
def rn1 (σ : Int → Int) (d : Nat) (a : F) : F := rn σ 0 d 0 a
theorem rn1_len (σ : Int → Int) (d : Nat) (a : F) : (rn1 σ d a).len = a.len := rn_len _ _ _ _ _
theorem rn_one {a : F} (h : a.len = 1) (σ : Int → Int) (pk : Int) (d i : Nat) : rn σ pk d i a = rn1 σ (d + binds pk i) a := by
  obtain ⟨x, k, rfl⟩ := F.len_1 h
  simp [rn, rn1, binds_0]
theorem rn_apps (σ : Int → Int) (pk : Int) (f : Nat) : ∀ (a b : F) (i : Nat), rn σ pk f i (a.app b) = (rn σ pk f i a).app (rn σ pk f (i + a.len) b)
  | .nil, b, i => rfl
  | .cons x k r, b, i => by
    simp only [F.app, rn, rn_apps σ pk f r b, F.len]
    rw [show i + 1 + r.len = i + (r.len + 1) by omega]
theorem rn1_lam {a : F} (h : a.len = 1) (σ : Int → Int) (d : Nat) : rn1 σ d (lamT a) = lamT (rn1 σ (d + 1) a) := by
  simp only [rn1, lamT, rn, rnc, binds_0, Nat.add_zero]
  rw [if_neg (by simp)]
  simp only [F.cons.injEq, true_and, and_true]
  rw [rn_one h]
  simp [rn1, binds]
theorem rn1_two {a b : F} (k : Int) (hk : k ≠ 1) (hb : ∀ i, binds k i = 0) (ha : a.len = 1) (hb1 : b.len = 1) (σ : Int → Int) (d : Nat) : rn1 σ d (.cons ⟨k, 0⟩ (a.app b) .nil) = .cons ⟨k, 0⟩ ((rn1 σ d a).app (rn1 σ d b)) .nil := by
  simp only [rn1, rn, rnc, binds_0, Nat.add_zero]
  rw [if_neg (by simp [hk]), rn_apps, rn_one ha, rn_one hb1, hb, hb]
  rfl
theorem b4 (i : Nat) : binds 4 i = 0 := by simp [binds]
theorem b5 (i : Nat) : binds 5 i = 0 := by simp [binds]
theorem b6 (i : Nat) : binds 6 i = 0 := by simp [binds]
theorem rn1_app {a b : F} (ha : a.len = 1) (hb : b.len = 1) (σ : Int → Int) (d : Nat) : rn1 σ d (appT a b) = appT (rn1 σ d a) (rn1 σ d b) := rn1_two 4 (by decide) b4 ha hb σ d
theorem rn1_add {a b : F} (ha : a.len = 1) (hb : b.len = 1) (σ : Int → Int) (d : Nat) : rn1 σ d (addT a b) = addT (rn1 σ d a) (rn1 σ d b) := rn1_two 5 (by decide) b5 ha hb σ d
theorem rn1_if {a b c : F} (ha : a.len = 1) (hb : b.len = 1) (hc : c.len = 1) (σ : Int → Int) (d : Nat) : rn1 σ d (ifT a b c) = ifT (rn1 σ d a) (rn1 σ d b) (rn1 σ d c) := by
  simp only [rn1, ifT, rn, rnc, binds_0, Nat.add_zero]
  rw [if_neg (by simp), rn_apps, rn_apps, rn_one ha, rn_one hb, rn_one hc, b6, b6, b6]
  rfl
theorem rn1_var (σ : Int → Int) (d : Nat) (n : Int) : rn1 σ d (varT n) = varT (if (d : Int) ≤ n then σ (n - d) + d else n) := by
  simp only [rn1, varT, rn, rnc, binds_0, Nat.add_zero, true_and]
  split <;> rfl
/-- A renaming behind a shift is a renaming. -/
theorem rn_shf {σ τ : Int → Int} {by_ : Int} {c g : Nat} (hs : ∀ m : Int, 0 ≤ m → (if (c : Int) ≤ (if (g : Int) ≤ m then m + by_ else m) then σ ((if (g : Int) ≤ m then m + by_ else m) - c) + c else (if (g : Int) ≤ m then m + by_ else m)) = τ m) :
    ∀ (a : F) (pk : Int) (d i : Nat), rn σ pk (c + d) i (shf by_ pk (g + d) i a) = rn τ pk d i a
  | .nil, _, _, _ => rfl
  | .cons x k r, pk, d, i => by
    have hk := rn_shf hs k x.k (d + binds pk i) 0
    have hr := rn_shf hs r pk d (i + 1)
    rw [shf, rn, rn, hr]
    have hx : (shc by_ (g + d + binds pk i) x).k = x.k := by unfold shc; split <;> rfl
    rw [hx]
    rw [show c + d + binds pk i = c + (d + binds pk i) by omega, show g + d + binds pk i = g + (d + binds pk i) by omega, hk]
    congr 1
    obtain ⟨xk, xn⟩ := x
    generalize d + binds pk i = e
    by_cases h1 : xk = 1
    · subst h1
      have e1 : shc by_ (g + e) ⟨1, xn⟩ = ⟨1, if ((g + e : Nat) : Int) ≤ xn then xn + by_ else xn⟩ := by
        unfold shc
        by_cases h : ((g + e : Nat) : Int) ≤ xn
        · rw [if_pos ⟨rfl, h⟩, if_pos h]
        · rw [if_neg (fun q => h q.2), if_neg h]
      have e2 : ∀ (σ : Int → Int) (d : Nat) (n : Int), rnc σ d ⟨1, n⟩ = ⟨1, if (d : Int) ≤ n then σ (n - d) + d else n⟩ := by
        intro σ d n
        unfold rnc
        by_cases h : (d : Int) ≤ n
        · rw [if_pos ⟨rfl, h⟩, if_pos h]
        · rw [if_neg (fun q => h q.2), if_neg h]
      rw [e1, e2, e2]
      simp only [Cc.mk.injEq, true_and]
      by_cases he : (e : Int) ≤ xn
      · have hm := hs (xn - e) (by omega)
        rw [if_pos he, ← hm]
        by_cases hg : (g : Int) ≤ xn - e
        · rw [if_pos hg, if_pos (show ((g + e : Nat) : Int) ≤ xn by omega)]
          by_cases hc : (c : Int) ≤ xn - e + by_
          · rw [if_pos hc, if_pos (show ((c + e : Nat) : Int) ≤ xn + by_ by omega), show xn + by_ - ((c + e : Nat) : Int) = xn - e + by_ - c by omega]
            omega
          · rw [if_neg hc, if_neg (show ¬ ((c + e : Nat) : Int) ≤ xn + by_ by omega)]
            omega
        · rw [if_neg hg, if_neg (show ¬ ((g + e : Nat) : Int) ≤ xn by omega)]
          by_cases hc : (c : Int) ≤ xn - e
          · rw [if_pos hc, if_pos (show ((c + e : Nat) : Int) ≤ xn by omega), show xn - ((c + e : Nat) : Int) = xn - e - c by omega]
            omega
          · rw [if_neg hc, if_neg (show ¬ ((c + e : Nat) : Int) ≤ xn by omega)]
            omega
      · rw [if_neg he, if_neg (show ¬ ((g + e : Nat) : Int) ≤ xn by omega), if_neg (show ¬ ((c + e : Nat) : Int) ≤ xn by omega)]
    · have e1 : shc by_ (g + e) ⟨xk, xn⟩ = ⟨xk, xn⟩ := if_neg (fun h => h1 h.1)
      have e2 : ∀ (σ : Int → Int) (d : Nat), rnc σ d ⟨xk, xn⟩ = ⟨xk, xn⟩ := fun σ d => if_neg (fun h => h1 h.1)
      rw [e1, e2, e2]
theorem rn1_sh {σ τ : Int → Int} {by_ : Int} {c g : Nat} (hs : ∀ m : Int, 0 ≤ m → (if (c : Int) ≤ (if (g : Int) ≤ m then m + by_ else m) then σ ((if (g : Int) ≤ m then m + by_ else m) - c) + c else (if (g : Int) ≤ m then m + by_ else m)) = τ m) (a : F) : rn1 σ c (sh by_ g a) = rn1 τ 0 a := rn_shf hs a 0 0 0

/-- How the variables of an environment are told, where so many are bound. -/
def EnvL (ρ : Int → M) (lv : Int → Int) : Prop := ∀ n : Int, 0 ≤ n → ∀ u : Int, 0 ≤ u → u ≤ 1000000 → ρ n u = varT (u - lv n - 1)
def lvE (lv : Int → Int) (v : Int) : Int → Int := fun n => if n = 0 then v else lv (n - 1)
theorem EnvL.ext {ρ : Int → M} {lv : Int → Int} {v : Int} (h : EnvL ρ lv) (h0 : 0 ≤ v) (h1 : v ≤ 1000000) : EnvL (extM ρ (bndM v)) (lvE lv v) := by
  intro n hn u hu hu2
  unfold extM lvE
  by_cases h2 : n = 0
  · rw [if_pos h2, if_pos h2, bndM, sub1_in hu hu2 h0 h1]
  · rw [if_neg h2, if_neg h2]
    exact h (n - 1) (by omega) u hu hu2
theorem bnd_in {v u : Int} (h0 : 0 ≤ v) (h1 : v ≤ 1000000) (hu : 0 ≤ u) (hu2 : u ≤ 1000000) : bndM v u = varT (u - v - 1) := by rw [bndM, sub1_in hu hu2 h0 h1]

theorem sh10 (σ : Int → Int) (a : F) : rn1 σ 1 (sh 1 0 a) = rn1 (fun n => σ n + 1) 0 a := rn1_sh (fun m hm => by
  rw [if_pos (show ((0 : Nat) : Int) ≤ m by omega), if_pos (show ((1 : Nat) : Int) ≤ m + 1 by omega), show m + 1 - ((1 : Nat) : Int) = m by omega]; rfl) a
theorem sh20 (σ : Int → Int) (a : F) : rn1 σ 2 (sh 2 0 a) = rn1 (fun n => σ n + 2) 0 a := rn1_sh (fun m hm => by
  rw [if_pos (show ((0 : Nat) : Int) ≤ m by omega), if_pos (show ((2 : Nat) : Int) ≤ m + 2 by omega), show m + 2 - ((2 : Nat) : Int) = m by omega]; rfl) a
theorem sh11 (σ : Int → Int) (a : F) : rn1 σ 2 (sh 1 1 a) = rn1 (fun n => if n = 0 then 0 else σ (n - 1) + 2) 0 a := rn1_sh (fun m hm => by
  by_cases h : m = 0
  · subst h; rfl
  · rw [if_pos (show ((1 : Nat) : Int) ≤ m by omega), if_pos (show ((2 : Nat) : Int) ≤ m + 1 by omega), if_neg h, show m + 1 - ((2 : Nat) : Int) = m - 1 by omega]; rfl) a
theorem lvE_at (lv : Int → Int) (u : Int) : (fun n => u + 1 + 1 - lvE lv (u + 1) n - 1) = fun n => if n = 0 then 0 else (u - lv (n - 1) - 1) + 2 := by
  funext n
  unfold lvE
  split <;> omega

theorem F.kids_2 {k : F} (h : k.len = 2) : 0 < k.len ∧ 1 < k.len := by omega

set_option maxHeartbeats 1000000 in
theorem kM_hn : ∀ (a : F) (ρ : Int → M) (lv : Int → Int) (u : Int) (i : Nat), a.ok → EnvL ρ lv → 0 ≤ u → u + 4 * a.flat.length ≤ 999990 → i < a.len → kM a i ρ u = rn1 (fun n => u - lv n - 1) 0 (nt (hn a) i)
  | .nil, ρ, lv, u, i, _, _, _, _, h => by simp [F.len] at h
  | .cons x k r, ρ, lv, u, i + 1, ho, he, h0, hu, hi => by
    rw [nt_hn_s, kM]
    exact kM_hn r ρ lv u i ho.2.2.2 he h0 (by simp [F.flat] at hu; omega) (by simp [F.len] at hi; omega)
  | .cons x k r, ρ, lv, u, 0, ⟨hg, hk, hko, _⟩, he, h0, hu, hi => by
    have hu' : u + 4 + 4 * k.flat.length ≤ 999990 := by simp [F.flat] at hu; omega
    have e1 : up1 u = u + 1 := up1_in h0 (by omega)
    have e2 : up1 (u + 1) = u + 1 + 1 := up1_in (by omega) (by omega)
    have e3 : up1 (u + 1 + 1) = u + 1 + 1 + 1 := up1_in (by omega) (by omega)
    have n0 : ∀ i, i < k.len → (nt (hn k) i).len = 1 := fun i hi => nt_len _ _ (by rw [hn_len]; exact hi)
    rw [nt_hn_0, kM]
    unfold hn1
    by_cases c1 : x.k = 1
    · rw [if_pos c1, if_pos c1]
      have hn0 : 0 ≤ x.n := by unfold goodC at hg; rw [if_pos c1] at hg; unfold inB at hg; simp at hg; omega
      simp only [valM, lamM, appM, e1]
      rw [bnd_in h0 (by omega) (by omega) (by omega), he x.n hn0 (u + 1) (by omega) (by omega), rn1_lam rfl, rn1_app rfl rfl, rn1_var, rn1_var]
      rw [if_neg (by omega), if_pos (by omega)]
      congr 3
      · congr 1; omega
      · congr 1
        rw [show x.n + 1 - ((0 + 1 : Nat) : Int) = x.n by omega]
        omega
    · rw [if_neg c1, if_neg c1]
      by_cases c3 : x.k = 3
      · rw [if_pos c3, if_pos c3]
        have hk1 : 0 < k.len := by rw [hk, c3]; decide
        simp only [valM, lamM, appM, e1, e2]
        rw [bnd_in h0 (by omega) (by omega) (by omega), kM_hn k _ _ (u + 1 + 1) 0 hko (he.ext (by omega) (by omega)) (by omega) (by omega) hk1, lvE_at]
        rw [rn1_lam rfl, rn1_app rfl rfl, rn1_var, if_neg (by omega), rn1_lam (by rw [sh_len]; exact n0 0 hk1), sh11]
        congr 2
        congr 1; omega
      · rw [if_neg c3, if_neg c3]
        by_cases c4 : x.k = 4
        · rw [if_pos c4, if_pos c4]
          have hk2 : k.len = 2 := by rw [hk, c4]; decide
          simp only [twoM, firstM, lamM, appM, e1, e2, e3]
          rw [bnd_in (v := u) h0 (by omega) (by omega) (by omega), bnd_in (v := u + 1) (by omega) (by omega) (by omega) (by omega), bnd_in (v := u + 1 + 1) (by omega) (by omega) (by omega) (by omega),
            kM_hn k ρ lv (u + 1) 0 hko he (by omega) (by omega) (by omega), kM_hn k ρ lv (u + 1 + 1) 1 hko he (by omega) (by omega) (by omega)]
          unfold two
          rw [show u + 1 + 1 + 1 - u - 1 = 2 by omega, show u + 1 + 1 + 1 - (u + 1) - 1 = 1 by omega, show u + 1 + 1 + 1 - (u + 1 + 1) - 1 = 0 by omega, rn1_lam rfl, rn1_app (by rw [sh_len]; exact n0 0 (by omega)) rfl, rn1_lam rfl, rn1_app (by rw [sh_len]; exact n0 1 (by omega)) rfl, rn1_lam rfl, rn1_app rfl rfl, rn1_app rfl rfl, rn1_var, rn1_var, rn1_var, if_neg (by omega), if_neg (by omega), if_neg (by omega), sh10, sh20]
          congr 3
          · congr 1; funext n; omega
          · congr 2
            congr 1; funext n; omega
        · rw [if_neg c4, if_neg c4]
          by_cases c5 : x.k = 5
          · rw [if_pos c5, if_pos c5]
            have hk2 : k.len = 2 := by rw [hk, c5]; decide
            simp only [twoM, firstM, lamM, appM, addM, e1, e2, e3]
            rw [bnd_in (v := u) h0 (by omega) (by omega) (by omega), bnd_in (v := u + 1) (by omega) (by omega) (by omega) (by omega), bnd_in (v := u + 1 + 1) (by omega) (by omega) (by omega) (by omega),
              kM_hn k ρ lv (u + 1) 0 hko he (by omega) (by omega) (by omega), kM_hn k ρ lv (u + 1 + 1) 1 hko he (by omega) (by omega) (by omega)]
            unfold two
            rw [show u + 1 + 1 + 1 - u - 1 = 2 by omega, show u + 1 + 1 + 1 - (u + 1) - 1 = 1 by omega, show u + 1 + 1 + 1 - (u + 1 + 1) - 1 = 0 by omega, rn1_lam rfl, rn1_app (by rw [sh_len]; exact n0 0 (by omega)) rfl, rn1_lam rfl, rn1_app (by rw [sh_len]; exact n0 1 (by omega)) rfl, rn1_lam rfl, rn1_app rfl rfl, rn1_add rfl rfl, rn1_var, rn1_var, rn1_var, if_neg (by omega), if_neg (by omega), if_neg (by omega), sh10, sh20]
            congr 3
            · congr 1; funext n; omega
            · congr 2
              congr 1; funext n; omega
          · rw [if_neg c5, if_neg c5]
            by_cases c6 : x.k = 6
            · rw [if_pos c6, if_pos c6]
              have hk3 : k.len = 3 := by rw [hk, c6]; decide
              simp only [firstM, lamM, appM, ifM, e1, e2]
              rw [bnd_in (v := u) h0 (by omega) (by omega) (by omega), bnd_in (v := u + 1) (by omega) (by omega) (by omega) (by omega),
                kM_hn k ρ lv (u + 1) 0 hko he (by omega) (by omega) (by omega), kM_hn k ρ lv (u + 1 + 1) 1 hko he (by omega) (by omega) (by omega), kM_hn k ρ lv (u + 1 + 1) 2 hko he (by omega) (by omega) (by omega)]
              rw [rn1_lam rfl, rn1_app (by rw [sh_len]; exact n0 0 (by omega)) rfl, rn1_lam rfl, rn1_if rfl rfl rfl, rn1_app (by rw [sh_len]; exact n0 1 (by omega)) rfl, rn1_app (by rw [sh_len]; exact n0 2 (by omega)) rfl, rn1_var, rn1_var, if_neg (by omega), if_neg (by omega), sh10, sh20, sh20]
              congr 3
              · congr 1; funext n; omega
              · congr 1
                · congr 1; omega
                · congr 2
                  · congr 1; funext n; omega
                  · congr 1; omega
                · congr 2
                  · congr 1; funext n; omega
                  · congr 1; omega
            · rw [if_neg c6, if_neg c6]
              by_cases c7 : x.k = 7
              · rw [if_pos c7, if_pos c7]
                have hk2 : k.len = 2 := by rw [hk, c7]; decide
                simp only [firstM, lamM, appM, e1, e2]
                rw [bnd_in (v := u) h0 (by omega) (by omega) (by omega),
                  kM_hn k ρ lv (u + 1) 0 hko he (by omega) (by omega) (by omega), kM_hn k _ _ (u + 1 + 1) 1 hko (he.ext (v := u + 1) (by omega) (by omega)) (by omega) (by omega) (by omega), lvE_at]
                rw [rn1_lam rfl, rn1_app (by rw [sh_len]; exact n0 0 (by omega)) rfl, rn1_lam rfl, rn1_app (by rw [sh_len]; exact n0 1 (by omega)) rfl, rn1_var, if_neg (by omega), sh10, sh11]
                congr 3
                · congr 1; funext n; omega
                · congr 2
                  congr 1; omega
              · rw [if_neg c7, if_neg c7]
                have c2 : x.k = 2 := by
                  have := good_ar hg
                  unfold inB at this; simp at this; omega
                have hk0 : k = .nil := F.len_0 (by rw [hk, c2]; decide)
                subst hk0
                simp only [valM, lamM, appM, e1]
                rw [bnd_in h0 (by omega) (by omega) (by omega), rn1_lam rfl, rn1_app rfl rfl, rn1_var, if_neg (by omega)]
                have hr : ∀ d, rn1 (fun n => u - lv n - 1) d (.cons x .nil .nil) = .cons x .nil .nil := by
                  intro d
                  simp only [rn1, rn, rnc]
                  rw [if_neg (by simp [c2])]
                rw [hr]
                congr 3
                congr 1; omega
/-- What the program makes of a whole term is what the specification makes. -/
theorem kM_top {a : F} (h : a.ok) (h1 : a.len = 1) (hl : a.flat.length ≤ 1000) : kM a 0 (fun n u => varT (u + n)) 0 = hn a := by
  have := kM_hn a (fun n u => varT (u + n)) (fun n => -1 - n) 0 0 h (fun n hn u h0 h1 => by show varT (u + n) = _; rw [show u - (-1 - n) - 1 = u + n by omega]) (by omega) (by omega) (by omega)
  rw [this]
  have e : (fun n : Int => (0 : Int) - (-1 - n) - 1) = fun n => n := by funext n; omega
  rw [e, rn1, rn_id]
  obtain ⟨x, k, rfl⟩ := F.len_1 h1
  rw [nt_hn_0, hn, show hn .nil = .nil from rfl, F.app_nil]
end Go.Proofs.Ytnmkbpflbfhpnaa.W

/-
  Some texts of this proof in one: HnG, TeRs, HnT.
-/
import Derived.Test.YtnmkbpflbfhpnaaGreatJ10
import Derived.Test.YtnmkbpflbfhpnaaGreatJ07
import Derived.Deep.RegionHeld3
import Derived.Test.YtnmkbpflbfhpnaaGreatJ11
import Derived.Deep.CutRange
/-
  How large what hands on is, and how far its variables are. No program here.
-/
namespace Go.Proofs.YtnmkbpflbfhpnaaGreat.W
set_option linter.unusedVariables false

def cokv (B : Int) (x : Cc) : Prop := if x.k = 1 then 0 ≤ x.n ∧ x.n ≤ B else if x.k = 2 then -1000000 ≤ x.n ∧ x.n ≤ 1000000 else x.n = 0 ∧ 3 ≤ x.k ∧ x.k ≤ 7
/-- Terms whose variables are at most so far. -/
def F.okv (B : Int) : F → Prop
  | .nil => True
  | .cons x k r => cokv B x ∧ k.len = ar x.k ∧ k.okv B ∧ r.okv B
theorem cokv_mono {B C : Int} {x : Cc} (h : cokv B x) (hc : B ≤ C) : cokv C x := by
  unfold cokv at *
  split
  · rename_i h1; rw [if_pos h1] at h; omega
  · rename_i h1; rw [if_neg h1] at h; exact h
theorem okv_mono {B C : Int} (hc : B ≤ C) : ∀ {a : F}, a.okv B → a.okv C
  | .nil, _ => trivial
  | .cons x k r, ⟨h1, h2, h3, h4⟩ => ⟨cokv_mono h1 hc, h2, okv_mono hc h3, okv_mono hc h4⟩
theorem ok_okv : ∀ {a : F}, a.ok → a.okv 99
  | .nil, _ => trivial
  | .cons x k r, ⟨h1, h2, h3, h4⟩ => ⟨by
      unfold goodC at h1
      unfold cokv
      split
      · rename_i e; rw [if_pos e] at h1; unfold inB at h1; simp at h1; exact h1
      · rename_i e
        rw [if_neg e] at h1
        split
        · rename_i e2; rw [if_pos e2] at h1; unfold inB at h1; simp at h1; exact h1
        · rename_i e2; rw [if_neg e2] at h1; unfold inB at h1; simp at h1; omega, h2, ok_okv h3, ok_okv h4⟩
theorem okv_okw {B : Int} (hB : B ≤ 900000) : ∀ {a : F}, a.okv B → a.okw
  | .nil, _ => trivial
  | .cons x k r, ⟨h1, h2, h3, h4⟩ => ⟨by
      unfold cokv at h1
      unfold V.goodC
      split
      · rename_i e; rw [if_pos e] at h1; unfold inB; simp; omega
      · rename_i e
        rw [if_neg e] at h1
        split
        · rename_i e2; rw [if_pos e2] at h1; unfold inB; simp; omega
        · rename_i e2; rw [if_neg e2] at h1; unfold inB; simp; omega, h2, okv_okw hB h3, okv_okw hB h4⟩
theorem app_okv (B : Int) : ∀ a b : F, (a.app b).okv B ↔ a.okv B ∧ b.okv B
  | .nil, b => by simp [F.app, F.okv]
  | .cons x k r, b => by simp [F.app, F.okv, app_okv B r b, and_assoc]
theorem shf_okv {B by_ : Int} (hb : 0 ≤ by_) : ∀ (a : F) (pk : Int) (f i : Nat), a.okv B → (shf by_ pk f i a).okv (B + by_)
  | .nil, _, _, _, _ => trivial
  | .cons x k r, pk, f, i, ⟨h1, h2, h3, h4⟩ => by
    rw [shf]
    have hx : (shc by_ (f + binds pk i) x).k = x.k := by unfold shc; split <;> rfl
    refine ⟨?_, by rw [shf_len, h2, hx], shf_okv hb k _ _ _ h3, shf_okv hb r _ _ _ h4⟩
    unfold shc
    split
    · rename_i e
      unfold cokv at *
      rw [if_pos e.1] at h1
      rw [if_pos e.1]
      simp only
      omega
    · exact cokv_mono h1 (by omega)
theorem sh_okv {B by_ : Int} (hb : 0 ≤ by_) (f : Nat) {a : F} (h : a.okv B) : (sh by_ f a).okv (B + by_) := shf_okv hb a _ _ _ h
theorem nt_okv {B : Int} : ∀ (a : F) (i : Nat), a.okv B → (nt a i).okv B
  | .nil, _, _ => trivial
  | .cons x k r, 0, h => ⟨h.1, h.2.1, h.2.2.1, trivial⟩
  | .cons x k r, i + 1, h => nt_okv r i h.2.2.2
theorem varT_okv {B n : Int} (h0 : 0 ≤ n) (h : n ≤ B) : (varT n).okv B := ⟨by unfold cokv; rw [if_pos rfl]; exact ⟨h0, h⟩, rfl, trivial, trivial⟩
theorem lamT_okv {B : Int} {a : F} (h1 : a.len = 1) (h : a.okv B) : (lamT a).okv B := ⟨⟨rfl, by decide, by decide⟩, h1, h, trivial⟩
theorem appT_okv {B : Int} {a b : F} (h1 : a.len = 1) (h2 : b.len = 1) (ha : a.okv B) (hb : b.okv B) : (appT a b).okv B := ⟨⟨rfl, by decide, by decide⟩, by rw [F.app_len, h1, h2]; rfl, (app_okv _ _ _).2 ⟨ha, hb⟩, trivial⟩
theorem addT_okv {B : Int} {a b : F} (h1 : a.len = 1) (h2 : b.len = 1) (ha : a.okv B) (hb : b.okv B) : (addT a b).okv B := ⟨⟨rfl, by decide, by decide⟩, by rw [F.app_len, h1, h2]; rfl, (app_okv _ _ _).2 ⟨ha, hb⟩, trivial⟩
theorem ifT_okv {B : Int} {a b c : F} (h1 : a.len = 1) (h2 : b.len = 1) (h3 : c.len = 1) (ha : a.okv B) (hb : b.okv B) (hc : c.okv B) : (ifT a b c).okv B := ⟨⟨rfl, by decide, by decide⟩, by rw [F.app_len, F.app_len, h1, h2, h3]; rfl, (app_okv _ _ _).2 ⟨ha, (app_okv _ _ _).2 ⟨hb, hc⟩⟩, trivial⟩
theorem hn1_okv {B : Int} (hB : 100 ≤ B) {x : Cc} {k kk : F} (hx : cokv 99 x) (hk : k.len = ar x.k) (hko : k.okv 99) (hl : kk.len = k.len) (h : kk.okv B) : (hn1 x k kk).okv (B + 2) := by
  have s1 : ∀ f i, (sh 1 f (nt kk i)).okv (B + 2) := fun f i => okv_mono (by omega) (sh_okv (by decide) f (nt_okv kk i h))
  have s2 : ∀ f i, (sh 2 f (nt kk i)).okv (B + 2) := fun f i => sh_okv (by decide) f (nt_okv kk i h)
  have l : ∀ b f i, i < k.len → (sh b f (nt kk i)).len = 1 := fun b f i hi => by rw [sh_len]; exact nt_len _ _ (by omega)
  have v : ∀ n : Int, 0 ≤ n → n ≤ 100 → (varT n).okv (B + 2) := fun n h0 h1 => varT_okv h0 (by omega)
  unfold hn1 two
  by_cases c1 : x.k = 1
  · rw [if_pos c1]
    unfold cokv at hx
    rw [if_pos c1] at hx
    exact lamT_okv rfl (appT_okv rfl rfl (v 0 (by decide) (by decide)) (v _ (by omega) (by omega)))
  · rw [if_neg c1]
    by_cases c3 : x.k = 3
    · rw [if_pos c3]
      have hk1 : k.len = 1 := by rw [hk, c3]; decide
      exact lamT_okv rfl (appT_okv rfl rfl (v 0 (by decide) (by decide)) (lamT_okv (l 1 1 0 (by omega)) (s1 1 0)))
    · rw [if_neg c3]
      by_cases c4 : x.k = 4
      · rw [if_pos c4]
        have hk2 : k.len = 2 := by rw [hk, c4]; decide
        exact lamT_okv rfl (appT_okv (l 1 0 0 (by omega)) rfl (s1 0 0) (lamT_okv rfl (appT_okv (l 2 0 1 (by omega)) rfl (s2 0 1) (lamT_okv rfl (appT_okv rfl rfl (appT_okv rfl rfl (v 1 (by decide) (by decide)) (v 0 (by decide) (by decide))) (v 2 (by decide) (by decide)))))))
      · rw [if_neg c4]
        by_cases c5 : x.k = 5
        · rw [if_pos c5]
          have hk2 : k.len = 2 := by rw [hk, c5]; decide
          exact lamT_okv rfl (appT_okv (l 1 0 0 (by omega)) rfl (s1 0 0) (lamT_okv rfl (appT_okv (l 2 0 1 (by omega)) rfl (s2 0 1) (lamT_okv rfl (appT_okv rfl rfl (v 2 (by decide) (by decide)) (addT_okv rfl rfl (v 1 (by decide) (by decide)) (v 0 (by decide) (by decide))))))))
        · rw [if_neg c5]
          by_cases c6 : x.k = 6
          · rw [if_pos c6]
            have hk3 : k.len = 3 := by rw [hk, c6]; decide
            exact lamT_okv rfl (appT_okv (l 1 0 0 (by omega)) rfl (s1 0 0) (lamT_okv rfl (ifT_okv rfl rfl rfl (v 0 (by decide) (by decide)) (appT_okv (l 2 0 1 (by omega)) rfl (s2 0 1) (v 1 (by decide) (by decide))) (appT_okv (l 2 0 2 (by omega)) rfl (s2 0 2) (v 1 (by decide) (by decide))))))
          · rw [if_neg c6]
            by_cases c7 : x.k = 7
            · rw [if_pos c7]
              have hk2 : k.len = 2 := by rw [hk, c7]; decide
              exact lamT_okv rfl (appT_okv (l 1 0 0 (by omega)) rfl (s1 0 0) (lamT_okv rfl (appT_okv (l 1 1 1 (by omega)) rfl (s1 1 1) (v 1 (by decide) (by decide)))))
            · rw [if_neg c7]
              exact lamT_okv rfl (appT_okv rfl rfl (v 0 (by decide) (by decide)) ⟨cokv_mono hx (by omega), hk, okv_mono (by omega) hko, trivial⟩)
theorem hn_okv : ∀ a : F, a.ok → (hn a).okv (100 + 2 * a.flat.length)
  | .nil, _ => trivial
  | .cons x k r, h => by
    have hx := (ok_okv h).1
    obtain ⟨h1, h2, h3, h4⟩ := h
    rw [hn, app_okv]
    have e : ((F.cons x k r).flat.length : Int) = 1 + k.flat.length + r.flat.length := by simp [F.flat]; omega
    exact ⟨okv_mono (by omega) (hn1_okv (by omega) hx h2 (ok_okv h3) (hn_len k) (hn_okv k h3)), okv_mono (by omega) (hn_okv r h4)⟩

theorem nt_sum : ∀ a : F, (nt a 0).flat.length + ((nt a 1).flat.length + (nt a 2).flat.length) ≤ a.flat.length
  | .nil => by simp [nt, F.flat]
  | .cons x k .nil => by simp [nt, F.flat]
  | .cons x k (.cons y ky .nil) => by simp [nt, F.flat]; omega
  | .cons x k (.cons y ky (.cons z kz r)) => by simp [nt, F.flat]; omega
theorem hn1_size {x : Cc} {k kk : F} (hg : goodC x = true) (hk : k.len = ar x.k) : (hn1 x k kk).flat.length ≤ 12 + kk.flat.length := by
  have h0 := nt_sum kk
  have hx := good_ar hg
  unfold inB at hx
  simp at hx
  unfold hn1 two
  split
  · simp [lamT, appT, varT, F.app_flat, F.flat]; omega
  · split
    · simp [lamT, appT, varT, F.app_flat, F.flat, sh_flat]; omega
    · split
      · simp [lamT, appT, varT, F.app_flat, F.flat, sh_flat]; omega
      · split
        · simp [lamT, appT, addT, varT, F.app_flat, F.flat, sh_flat]; omega
        · split
          · simp [lamT, appT, ifT, varT, F.app_flat, F.flat, sh_flat]; omega
          · split
            · simp [lamT, appT, varT, F.app_flat, F.flat, sh_flat]; omega
            · have e : k = .nil := F.len_0 (by rw [hk, show x.k = 2 by omega]; decide)
              subst e
              simp [lamT, appT, varT, F.app_flat, F.flat]; omega
theorem hn_size : ∀ a : F, a.ok → (hn a).flat.length ≤ 12 * a.flat.length
  | .nil, _ => by simp [hn, F.flat]
  | .cons x k r, ⟨h1, h2, h3, h4⟩ => by
    rw [hn, F.app_flat, List.length_append]
    have e1 := hn1_size (kk := hn k) h1 h2
    have e2 := hn_size k h3
    have e3 := hn_size r h4
    simp [F.flat]; omega
end Go.Proofs.YtnmkbpflbfhpnaaGreat.W

/-
  Redexes as the specification tells them: contracts of l4Is, l4Any, IsNormal. Conditions: good terms of at most 1048576 cells.
-/
namespace Go.Proofs.YtnmkbpflbfhpnaaGreat.W
open Go.ChangeShapes Go.WideShapes Go.ChangeAt Go.RowKit
set_option linter.unusedVariables false

theorem belowDrw {B : Nat} {x y : World} (h : Below B x y) : Below B x y.drew := ⟨h.os, h.tape, h.output, h.size, h.block⟩

/-- The first kid, as a walk wants it. -/
theorem KidT.first {w : World} {P : Nat → Prop} {k r : F} {x : Cc} {ad : Option Addr} {n c : Nat} (h : KidT w P (.cons x k r) (.slice ad n c)) : ∃ g, ad = some ⟨g, 0, none⟩ ∧ g < w.heap.size ∧ n = r.len + 1 ∧
    w.cell? ⟨g, 0, none⟩ = some (.int .i64 x.k) ∧ w.cell? ⟨g, 1, none⟩ = some (.int .i64 x.n) ∧ ∃ sx, w.cell? ⟨g, 2, none⟩ = some sx ∧ KidT w P k sx := by
  obtain ⟨g, cap, sx, he, hP, hg, hTy, p0, p1, p2⟩ := KidT.kid (a := .nil) h
  simp only [F.len, Nat.zero_mul, Nat.zero_add] at p0 p1 p2
  simp only [Value.slice.injEq] at he
  exact ⟨g, he.1, hg, he.2.1, p0, p1, sx, p2, hTy⟩
/-- The second kid, as a walk wants it. -/
theorem KidT.second {w : World} {P : Nat → Prop} {k r ky : F} {x y : Cc} {g n c : Nat} (h : KidT w P (.cons y ky (.cons x k r)) (.slice (some ⟨g, 0, none⟩) n c)) :
    w.cell? ⟨g, 3, none⟩ = some (.int .i64 x.k) ∧ w.cell? ⟨g, 4, none⟩ = some (.int .i64 x.n) ∧ ∃ sx, w.cell? ⟨g, 5, none⟩ = some sx ∧ KidT w P k sx := by
  obtain ⟨g', cap, sx, he, hP, hg, hTy, p0, p1, p2⟩ := KidT.kid (a := .cons y ky .nil) h
  simp only [Value.slice.injEq, Option.some.injEq, Addr.mk.injEq] at he
  obtain ⟨⟨rfl, -, -⟩, -, -⟩ := he
  simp only [F.len, Nat.zero_add, Nat.one_mul] at p0 p1 p2
  exact ⟨p0, p1, sx, p2, hTy⟩

/-- Whether what is read is normal. -/
def nrmT : Option F → Bool
  | some a => !anyR a
  | none => false
end Go.Proofs.YtnmkbpflbfhpnaaGreat.W

/-
  The specification's terms made of parts: a contract of l7Two, whatever its parts are handed on as. Conditions: terms of at most 100000 cells.
-/
namespace Go.Proofs.YtnmkbpflbfhpnaaGreat.W
open Go.ChangeShapes Go.WideShapes Go.ChangeAt Go.RowKit
set_option linter.unusedVariables false

abbrev AnyQ : Nat → Prop := fun _ => True
/-- What l7Hand does with a term. -/
def HHd (y : Cc) (ky a : F) : Prop := ∀ (P : Nat → Prop) (s : Value) (w : World), KidT w P ky s →
    Calls Tryz.prog 39 #[.agg #[.int .i64 y.k, .int .i64 y.n, s]] w fun e w' => ∃ v', e = .returned v' ∧ TV w' AnyQ a v' ∧ Below w.heap.size w w'
theorem shift_20 (a : F) (v : Value) (w : World) (ho : a.okw) (hf : a.flat.length ≤ 1000000) (h : TV w AnyQ a v) :
    Calls Tryz.prog 67 #[v, .int .i64 2, .int .i64 0] w fun e w' => ∃ v', e = .returned v' ∧ TV w' AnyQ (sh 2 0 a) v' ∧ Below w.heap.size w w' := shift_any AnyQ a v 2 0 w (fun _ _ => trivial) ho (by omega) (by decide) (by decide) h
theorem shift_10 (a : F) (v : Value) (w : World) (ho : a.okw) (hf : a.flat.length ≤ 1000000) (h : TV w AnyQ a v) :
    Calls Tryz.prog 67 #[v, .int .i64 1, .int .i64 0] w fun e w' => ∃ v', e = .returned v' ∧ TV w' AnyQ (sh 1 0 a) v' ∧ Below w.heap.size w w' := shift_any AnyQ a v 1 0 w (fun _ _ => trivial) ho (by omega) (by decide) (by decide) h
theorem shift_11 (a : F) (v : Value) (w : World) (ho : a.okw) (hf : a.flat.length ≤ 1000000) (h : TV w AnyQ a v) :
    Calls Tryz.prog 67 #[v, .int .i64 1, .int .i64 1] w fun e w' => ∃ v', e = .returned v' ∧ TV w' AnyQ (sh 1 1 a) v' ∧ Below w.heap.size w w' := shift_any AnyQ a v 1 1 w (fun _ _ => trivial) ho (by omega) (by decide) (by decide) h
theorem lam_tv (a : F) (v : Value) (w : World) (h : TV w AnyQ a v) :
    Calls Tryz.prog 20 #[v] w fun e w' => ∃ v', e = .returned v' ∧ TV w' AnyQ (lamT a) v' ∧ Below w.heap.size w w' := l7Lam_any AnyQ a v w (fun _ _ => trivial) h
theorem app_tv (a b : F) (va vb : Value) (w : World) (ha : TV w AnyQ a va) (hb : TV w AnyQ b vb) :
    Calls Tryz.prog 19 #[va, vb] w fun e w' => ∃ v', e = .returned v' ∧ TV w' AnyQ (appT a b) v' ∧ Below w.heap.size w w' := l7App_any AnyQ a b va vb w (fun _ _ => trivial) ha hb
theorem TV.any {w : World} {Q : Nat → Prop} {a : F} {v : Value} (h : TV w Q a v) : TV w AnyQ a v := by
  obtain ⟨x, k, s, h1, h2, h3⟩ := h
  exact ⟨x, k, s, h1, h2, h3.weak (fun _ _ _ => trivial)⟩

/-- A box that is not filled yet is no part of a term. -/
theorem KidsAt.apart {w : World} {Q : Nat → Prop} {b : Nat} {fr : Nat × Nat} {T : TypeId} (hb : w.heap[b]? = some (.cells #[.int .i64 0, .int .i64 0, .slice none 0 0] T fr)) : ∀ {a : F} {cs : List Value}, a.fit → KidsAt w Q a cs → KidsAt w (fun g => Q g ∧ g ≠ b) a cs
  | .nil, _, _, h => h
  | .cons x k r, _, hf, ⟨s, cr, e, ⟨ck, h1, h2⟩, h3⟩ => by
    refine ⟨s, cr, e, ⟨ck, KidsAt.apart hb hf.2.2.2.1 h1, ?_⟩, KidsAt.apart hb hf.2.2.2.2 h3⟩
    rcases h2 with h2 | ⟨h2, g, cap, e2, hQ, hg, hc⟩
    · exact .inl h2
    · refine .inr ⟨h2, g, cap, e2, ⟨hQ, ?_⟩, hg, hc⟩
      rintro rfl
      cases k with
      | nil => simp [F.len] at h2
      | cons y ky ry =>
        obtain ⟨s', cr', e', _⟩ := h1
        have hy := hf.2.2.2.1.1
        have := hc 0 (.int .i64 y.k) (by rw [e']; rfl)
        rw [cell_of_blk hb] at this
        simp only [List.getElem?_toArray, List.getElem?_cons_zero, Option.some.injEq, Value.int.injEq, true_and] at this
        rw [← this] at hy
        exact absurd hy (by decide)
theorem TV.apart {w : World} {Q : Nat → Prop} {b : Nat} {fr : Nat × Nat} {T : TypeId} {a : F} {v : Value} (h : TV w Q a v) (hf : a.fit) (hb : w.heap[b]? = some (.cells #[.int .i64 0, .int .i64 0, .slice none 0 0] T fr)) : TV w (fun g => Q g ∧ g ≠ b) a v := by
  obtain ⟨x, k, s, rfl, h2, ck, h3, h4⟩ := h
  have hk := KidsAt.apart (a := .cons x k .nil) hb hf ⟨s, [], rfl, ⟨ck, h3, h4⟩, rfl⟩
  obtain ⟨s', cr, e, ⟨ck', h5, h6⟩, h7⟩ := hk
  have e1 : s = s' := by
    cases h7
    simpa [tC] using e
  subst e1
  exact ⟨x, k, s, rfl, h2, ck', h5, h6⟩
/-- A term stays where a box that was not filled is. -/
theorem TV.set {w w' : World} {b : Nat} {fr : Nat × Nat} {T : TypeId} {a : F} {v : Value} (h : TV w AnyQ a v) (hf : a.fit) (hb : w.heap[b]? = some (.cells #[.int .i64 0, .int .i64 0, .slice none 0 0] T fr)) (hs : w.heap.size ≤ w'.heap.size) (hk : ∀ k, k ≠ b → k < w.heap.size → w'.heap[k]? = w.heap[k]?) : TV w' AnyQ a v :=
  ((h.apart hf hb).keep hs (fun k hq hl => hk k hq.2 hl)).any
theorem shf_fit (by_ : Int) : ∀ (a : F) (pk : Int) (f i : Nat), a.fit → (shf by_ pk f i a).fit
  | .nil, _, _, _, _ => trivial
  | .cons x k r, pk, f, i, ⟨h1, h2, h3, h4, h5⟩ => by
    rw [shf]
    have hx : (shc by_ (f + binds pk i) x).k = x.k := by unfold shc; split <;> rfl
    refine ⟨by rw [hx]; exact h1, fun h => ?_, by rw [shf_len, h3, hx], shf_fit by_ k _ _ _ h4, shf_fit by_ r _ _ _ h5⟩
    rw [hx] at h
    unfold shc
    rw [if_neg (by intro q; omega)]
    exact h2 h
theorem sh_fit (by_ : Int) (f : Nat) {a : F} (h : a.fit) : (sh by_ f a).fit := shf_fit by_ a _ _ _ h
theorem lamT_fit {a : F} (h1 : a.len = 1) (h : a.fit) : (lamT a).fit := ⟨rfl, fun _ => rfl, h1, h, trivial⟩
theorem appT_fit {a b : F} (h1 : a.len = 1) (h2 : b.len = 1) (ha : a.fit) (hb : b.fit) : (appT a b).fit := ⟨rfl, fun _ => rfl, by rw [F.app_len, h1, h2]; rfl, (F.app_fit _ _).2 ⟨ha, hb⟩, trivial⟩
theorem bsT {B : Nat} {a w : World} (h : Below B a w) (b i : Nat) (v : Value) (hb : B ≤ b) : Below B a (w.setCell ⟨b, i, none⟩ v) := h.setCell (p := ⟨b, i, none⟩) hb v
/-- A box filled. -/
abbrev set3 (w : World) (b : Nat) (x y z : Value) : World := ((w.setCell ⟨b, 0, none⟩ x).setCell ⟨b, 1, none⟩ y).setCell ⟨b, 2, none⟩ z
theorem set3_at {w : World} {b : Nat} {x0 y0 z0 : Value} {T : TypeId} (h : w.heap[b]? = some (.cells #[x0, y0, z0] T (0, 0))) (x y z : Value) : (set3 w b x y z).heap[b]? = some (.cells #[x, y, z] T (0, 0)) := by
  have := blk_setCell (i := 2) (blk_setCell (i := 1) (blk_setCell (i := 0) h x) y) z
  rw [this]
  simp
theorem set3_ne {w : World} {b k : Nat} (hk : k ≠ b) (x y z : Value) : (set3 w b x y z).heap[k]? = w.heap[k]? := by
  unfold set3
  rw [Below.heap_setCell _ _ _ _ hk, Below.heap_setCell _ _ _ _ hk, Below.heap_setCell _ _ _ _ hk]
theorem set3_size (w : World) (b : Nat) (x y z : Value) : (set3 w b x y z).heap.size = w.heap.size := by simp [set3, World.setCell]
theorem set3_cell {w : World} {b k j : Nat} {v : Value} (hk : k ≠ b) (x y z : Value) (h : w.cell? ⟨k, j, none⟩ = some v) : (set3 w b x y z).cell? ⟨k, j, none⟩ = some v := (World.cell?_of_block (a := ⟨k, j, none⟩) (set3_ne hk x y z)).trans h
theorem TV.set3 {w : World} {b : Nat} {T : TypeId} {a : F} {v : Value} (h : TV w AnyQ a v) (hf : a.fit) (hb : w.heap[b]? = some (.cells #[.int .i64 0, .int .i64 0, .slice none 0 0] T (0, 0))) (x y z : Value) : TV (W.set3 w b x y z) AnyQ a v :=
  h.set hf hb (Nat.le_of_eq (set3_size _ _ _ _ _).symm) (fun k hk _ => set3_ne hk _ _ _)
theorem below_set3 {B : Nat} {a w : World} (h : Below B a w) {b : Nat} (hb : B ≤ b) (x y z : Value) : Below B a (set3 w b x y z) := bsT (bsT (bsT h _ _ _ hb) _ _ _ hb) _ _ _ hb
theorem cell_keep {w : World} {a : Addr} {v : Value} (o : Obj) (h : w.cell? a = some v) : (w.alloc o).cell? a = some v := (((Below.refl w.heap.size w).alloc (Nat.le_refl _) o).cell (World.block_lt_of_cell? _ _ h)).trans h

set_option maxRecDepth 20000 in
set_option maxHeartbeats 8000000 in
theorem l7Two_any (x y z : Cc) (ky kz a0 a1 d : F) (s vd : Value) (P : Nat → Prop) (w : World) (hY : HHd y ky a0) (hZ : HHd z kz a1) (h0 : a0.okw) (h1 : a1.okw) (hdf : d.fit) (hs0 : a0.flat.length ≤ 1000000) (hs1 : a1.flat.length ≤ 1000000) (hl0 : a0.len = 1) (hl1 : a1.len = 1) (hT : KidT w P (.cons y ky (.cons z kz .nil)) s) (hD : TV w AnyQ d vd) :
    Calls Tryz.prog 68 #[.agg #[.int .i64 x.k, .int .i64 x.n, s], vd] w fun e w' => ∃ v', e = .returned v' ∧ TV w' AnyQ (lamT (appT (sh 1 0 a0) (lamT (appT (sh 2 0 a1) (lamT d))))) v' ∧ Below w.heap.size w w' := by
  obtain ⟨sad, sc, rfl⟩ := hT.form
  obtain ⟨g, rfl, hg, -, p0, p1, sy, p2, hTy⟩ := hT.first
  obtain ⟨q0, q1, sz, q2, hTz⟩ := hT.second
  have hfx := hD.form
  obtain ⟨dk, dn, dad, dl, dc, rfl⟩ := hfx
  have hKL : (F.cons y ky (.cons z kz .nil)).len = 2 := rfl
  rw [hKL]
  obtain ⟨w0, hw0⟩ : ∃ w0, w0 = ((w.alloc (.cells #[.int .i64 x.k, .int .i64 x.n, .slice (some ⟨g, 0, none⟩) 2 sc] 50)).alloc (.cells #[.int .i64 dk, .int .i64 dn, .slice dad dl dc] 50)).alloc (.cells #[.int .i64 0, .int .i64 0, .slice none 0 0] 50) := ⟨_, rfl⟩
  have hB0 : Below w.heap.size w w0 := by rw [hw0]; exact bel3 _ _ _ _
  have hsz0 : w0.heap.size = w.heap.size + 1 + 1 + 1 := by rw [hw0]; simp
  have hbT : w0.heap[w.heap.size]? = some (.cells #[.int .i64 x.k, .int .i64 x.n, .slice (some ⟨g, 0, none⟩) 2 sc] 50) := by rw [hw0, heap_alloc_old _ _ (by simp; omega), heap_alloc_old _ _ (by simp)]; exact heap_alloc_new _ _
  have hbD : w0.heap[w.heap.size + 1]? = some (.cells #[.int .i64 dk, .int .i64 dn, .slice dad dl dc] 50) := by
    rw [hw0, heap_alloc_old _ _ (by simp)]
    have := heap_alloc_new (w.alloc (.cells #[.int .i64 x.k, .int .i64 x.n, .slice (some ⟨g, 0, none⟩) 2 sc] 50)) (.cells #[.int .i64 dk, .int .i64 dn, .slice dad dl dc] 50)
    simpa using this
  have hbR : w0.heap[w.heap.size + 1 + 1]? = some (.cells #[.int .i64 0, .int .i64 0, .slice none 0 0] 50) := by
    rw [hw0]
    have := heap_alloc_new ((w.alloc (.cells #[.int .i64 x.k, .int .i64 x.n, .slice (some ⟨g, 0, none⟩) 2 sc] 50)).alloc (.cells #[.int .i64 dk, .int .i64 dn, .slice dad dl dc] 50)) (.cells #[.int .i64 0, .int .i64 0, .slice none 0 0] 50)
    simpa using this
  have HY0 := hide hY
  have HZ0 := hide hZ
  unfold HHd at HY0 HZ0
  have HKy := hide (hTy.below hB0)
  have HKz := hide (hTz.below hB0)
  have HVd := hide (hD.below hB0)
  have HLd := hide hD.len
  have H0 := hide h0
  have H1 := hide h1
  have Hs0 := hide hs0
  have Hs1 := hide hs1
  have HF := hide hdf
  have Hf0 := hide (V.F.okw_fit h0)
  have Hf1 := hide (V.F.okw_fit h1)
  have Hl0 := hide hl0
  have Hl1 := hide hl1
  have HB := hide hB0
  have HF2 : Hid (appT (sh 2 0 a1) (lamT d)).fit := hide (appT_fit (by rw [sh_len]; exact hl1) rfl (sh_fit 2 0 (V.F.okw_fit h1)) (lamT_fit hD.len hdf))
  have HF3 : Hid (lamT (appT (sh 1 0 a0) (lamT (appT (sh 2 0 a1) (lamT d))))).fit := hide (lamT_fit rfl (appT_fit (by rw [sh_len]; exact hl0) rfl (sh_fit 1 0 (V.F.okw_fit h0)) (lamT_fit rfl HF2.out)))
  have HbR := hide hbR
  obtain ⟨yad, yc, rfl⟩ := hTy.form
  obtain ⟨zad, zc, rfl⟩ := hTz.form
  obtain ⟨yn, hyn⟩ : ∃ yn, yn = ky.len := ⟨_, rfl⟩
  obtain ⟨zn, hzn⟩ : ∃ zn, zn = kz.len := ⟨_, rfl⟩
  rw [← hyn] at p2 HKy
  rw [← hzn] at q2 HKz
  have HAll : Hid (∀ w', Below w0.heap.size w0 w' → w'.cell? ⟨w.heap.size, 2, none⟩ = some (.slice (some ⟨g, 0, none⟩) 2 sc) ∧ w'.cell? ⟨w.heap.size + 1, 0, none⟩ = some (.int .i64 dk) ∧ w'.cell? ⟨w.heap.size + 1, 1, none⟩ = some (.int .i64 dn) ∧ w'.cell? ⟨w.heap.size + 1, 2, none⟩ = some (.slice dad dl dc) ∧ w'.cell? ⟨g, 3, none⟩ = some (.int .i64 z.k) ∧ w'.cell? ⟨g, 4, none⟩ = some (.int .i64 z.n) ∧ w'.cell? ⟨g, 5, none⟩ = some (.slice zad zn zc)) := hide (fun w' hb => ⟨(hb.cell (p := ⟨w.heap.size, 2, none⟩) (show w.heap.size < w0.heap.size by omega)).trans ((cell_of_blk hbT 2).trans rfl),
    (hb.cell (p := ⟨w.heap.size + 1, 0, none⟩) (show w.heap.size + 1 < w0.heap.size by omega)).trans ((cell_of_blk hbD 0).trans rfl), (hb.cell (p := ⟨w.heap.size + 1, 1, none⟩) (show w.heap.size + 1 < w0.heap.size by omega)).trans ((cell_of_blk hbD 1).trans rfl), (hb.cell (p := ⟨w.heap.size + 1, 2, none⟩) (show w.heap.size + 1 < w0.heap.size by omega)).trans ((cell_of_blk hbD 2).trans rfl),
    (hb.cell (p := ⟨g, 3, none⟩) (show g < w0.heap.size by omega)).trans ((hB0.cell (p := ⟨g, 3, none⟩) hg).trans q0), (hb.cell (p := ⟨g, 4, none⟩) (show g < w0.heap.size by omega)).trans ((hB0.cell (p := ⟨g, 4, none⟩) hg).trans q1), (hb.cell (p := ⟨g, 5, none⟩) (show g < w0.heap.size by omega)).trans ((hB0.cell (p := ⟨g, 5, none⟩) hg).trans q2)⟩)
  have HAl2 : Hid (∀ w', Below w0.heap.size w0 w' → w'.cell? ⟨w.heap.size, 2, none⟩ = some (.slice (some ⟨g, 0, none⟩) 2 sc) ∧ w'.cell? ⟨g, 0, none⟩ = some (.int .i64 y.k) ∧ w'.cell? ⟨g, 1, none⟩ = some (.int .i64 y.n) ∧ w'.cell? ⟨g, 2, none⟩ = some (.slice yad yn yc)) := hide (fun w' hb => ⟨(hb.cell (p := ⟨w.heap.size, 2, none⟩) (show w.heap.size < w0.heap.size by omega)).trans ((cell_of_blk hbT 2).trans rfl),
    (hb.cell (p := ⟨g, 0, none⟩) (show g < w0.heap.size by omega)).trans ((hB0.cell (p := ⟨g, 0, none⟩) hg).trans p0), (hb.cell (p := ⟨g, 1, none⟩) (show g < w0.heap.size by omega)).trans ((hB0.cell (p := ⟨g, 1, none⟩) hg).trans p1), (hb.cell (p := ⟨g, 2, none⟩) (show g < w0.heap.size by omega)).trans ((hB0.cell (p := ⟨g, 2, none⟩) hg).trans p2)⟩)
  have HSz := hide hsz0
  have HW0 := hide hw0
  clear hsz0 hw0 hT hTy hTz hD hY hZ h0 h1 hdf hs0 hs1 hl0 hl1 hKL hB0 hbT hbD hbR p0 p1 p2 q0 q1 q2 hyn hzn
  go_enter Tryz.func68, Tryz.ntmps68
  go_wp2_with fail
  rw [← HW0.out]
  clear HW0
  go_cut [5] from 6 to 14 (fun v5 wx => ∃ (b : Nat) (k n : Int) (ad : Option Addr) (l c : Nat), v5 = .pointer (some ⟨b, 0, none⟩) ∧ wx.heap[b]? = some (.cells #[.int .i64 k, .int .i64 n, .slice ad l c] 50 (0, 0)) ∧ TV wx AnyQ (appT (sh 2 0 a1) (lamT d)) (.agg #[.int .i64 k, .int .i64 n, .slice ad l c]) ∧ Below w0.heap.size w0 wx ∧ w0.heap.size ≤ b)
  case first =>
    have HWB0d : Hid (Below w0.heap.size w0 w0.drew) := hide (belowDrew (Below.refl _ _))
    have HWB0a : Hid (Below w0.heap.size w0 (w0.alloc (.cells #[.int .i64 0, .int .i64 0, .slice none 0 0] 50)).drew) := hide (belowDrew (bel1 _ _))
    obtain ⟨Wu0, Wu1, Wu2, Wu3, Wu4, Wu5, Wu6⟩ := HAll.out w0.drew HWB0d.out
    obtain ⟨Wt0, Wt1, Wt2, Wt3, Wt4, Wt5, Wt6⟩ := HAll.out (w0.alloc (.cells #[.int .i64 0, .int .i64 0, .slice none 0 0] 50)).drew HWB0a.out
    go_region_held3 (fun w' => w'.cell? ⟨w.heap.size, 2, none⟩ = some (.slice (some ⟨g, 0, none⟩) 2 sc) ∧ w'.cell? ⟨w.heap.size + 1, 0, none⟩ = some (.int .i64 dk) ∧ w'.cell? ⟨w.heap.size + 1, 1, none⟩ = some (.int .i64 dn) ∧ w'.cell? ⟨w.heap.size + 1, 2, none⟩ = some (.slice dad dl dc) ∧ w'.cell? ⟨g, 3, none⟩ = some (.int .i64 z.k) ∧ w'.cell? ⟨g, 4, none⟩ = some (.int .i64 z.n) ∧ w'.cell? ⟨g, 5, none⟩ = some (.slice zad zn zc)) (first | (with_reducible exact HAll.out _ HWB0d.out) | (with_reducible exact HAll.out _ HWB0a.out) | (with_reducible exact HAll.out _ HWB1.out) | (with_reducible exact HAll.out _ (HWB1.out.alloc HWB1.out.size _)) | (with_reducible exact HAll.out _ HWB2.out) | (with_reducible exact HAll.out _ (HWB2.out.alloc HWB2.out.size _)) | (with_reducible exact HAll.out _ HWB3.out) | (with_reducible exact HAll.out _ (HWB3.out.alloc HWB3.out.size _)) | (with_reducible exact HAll.out _ HWB4.out) | (with_reducible exact HAll.out _ (HWB4.out.alloc HWB4.out.size _)) | (with_reducible exact HAll.out _ (below_set3 HWB4.out (b := w0.heap.size) (Nat.le_refl _) _ _ _)) | (with_reducible exact HAll.out _ (below_set3 HWB4.out (b := W1.heap.size) HWB1.out.size _ _ _)) | (with_reducible exact HAll.out _ (below_set3 HWB4.out (b := W2.heap.size) HWB2.out.size _ _ _)) | (with_reducible exact HAll.out _ (below_set3 HWB4.out (b := W3.heap.size) HWB3.out.size _ _ _)))
      (first
        | ((with_reducible refine Calls.mono (HZ0.out _ _ _ (by first | exact HKz.out.below HWB0d.out | exact HKz.out.below HWB0a.out)) ?_); rintro e W1 ⟨Wv1, rfl, hv, hx⟩; have HWB1 : Hid (Below w0.heap.size w0 W1) := hide (by first | exact HWB0d.out.trans (hx.mono HWB0d.out.size) | exact HWB0a.out.trans (hx.mono HWB0a.out.size)); (try have zb0_1 : W1.heap[w0.heap.size]? = some (.cells #[.int .i64 0, .int .i64 0, .slice none 0 0] 50) := (hx.block w0.heap.size (show w0.heap.size < (w0.alloc (.cells #[.int .i64 0, .int .i64 0, .slice none 0 0] 50)).heap.size by simp)).trans (heap_alloc_new _ _)); have HWV1_1 := hide hv; obtain ⟨Wk1, Wn1, Wa1, Wl1, Wc1, rfl⟩ := hv.form; clear hv hx)
        | ((with_reducible refine Calls.mono (shift_20 a1 _ _ H1.out Hs1.out (by first | exact HWV1_1.out | exact HWV1_1.out.below (bel1 _ _))) ?_); rintro e W2 ⟨Wv2, rfl, hv, hx⟩; have HWB2 : Hid (Below w0.heap.size w0 W2) := hide (by first | exact HWB1.out.trans (hx.mono HWB1.out.size) | exact (HWB1.out.alloc HWB1.out.size _).trans (hx.mono (HWB1.out.alloc HWB1.out.size _).size)); (try have zb1_2 : W2.heap[W1.heap.size]? = some (.cells #[.int .i64 0, .int .i64 0, .slice none 0 0] 50) := (hx.block W1.heap.size (show W1.heap.size < (W1.alloc (.cells #[.int .i64 0, .int .i64 0, .slice none 0 0] 50)).heap.size by simp)).trans (heap_alloc_new _ _)); (try have zb0_2 : W2.heap[w0.heap.size]? = some (.cells #[.int .i64 0, .int .i64 0, .slice none 0 0] 50) := (hx.block w0.heap.size (Array.getElem?_eq_some_iff.1 zb0_1).1).trans zb0_1); have HWV1_2 := hide (show TV W2 AnyQ _ _ from (by first | exact HWV1_1.out.below hx | exact (HWV1_1.out.below (bel1 _ _)).below hx)); have HWV2_2 := hide hv; obtain ⟨Wk2, Wn2, Wa2, Wl2, Wc2, rfl⟩ := hv.form; clear hv hx)
        | ((with_reducible refine Calls.mono (lam_tv d _ _ (by first | exact HVd.out.below HWB2.out | exact HVd.out.below (HWB2.out.alloc HWB2.out.size _))) ?_); rintro e W3 ⟨Wv3, rfl, hv, hx⟩; have HWB3 : Hid (Below w0.heap.size w0 W3) := hide (by first | exact HWB2.out.trans (hx.mono HWB2.out.size) | exact (HWB2.out.alloc HWB2.out.size _).trans (hx.mono (HWB2.out.alloc HWB2.out.size _).size)); (try have zb2_3 : W3.heap[W2.heap.size]? = some (.cells #[.int .i64 0, .int .i64 0, .slice none 0 0] 50) := (hx.block W2.heap.size (show W2.heap.size < (W2.alloc (.cells #[.int .i64 0, .int .i64 0, .slice none 0 0] 50)).heap.size by simp)).trans (heap_alloc_new _ _)); (try have zb0_3 : W3.heap[w0.heap.size]? = some (.cells #[.int .i64 0, .int .i64 0, .slice none 0 0] 50) := (hx.block w0.heap.size (Array.getElem?_eq_some_iff.1 zb0_2).1).trans zb0_2); (try have zb1_3 : W3.heap[W1.heap.size]? = some (.cells #[.int .i64 0, .int .i64 0, .slice none 0 0] 50) := (hx.block W1.heap.size (Array.getElem?_eq_some_iff.1 zb1_2).1).trans zb1_2); have HWV1_3 := hide (show TV W3 AnyQ _ _ from (by first | exact HWV1_2.out.below hx | exact (HWV1_2.out.below (bel1 _ _)).below hx)); have HWV2_3 := hide (show TV W3 AnyQ _ _ from (by first | exact HWV2_2.out.below hx | exact (HWV2_2.out.below (bel1 _ _)).below hx)); have HWV3_3 := hide hv; obtain ⟨Wk3, Wn3, Wa3, Wl3, Wc3, rfl⟩ := hv.form; clear hv hx)
        | ((with_reducible refine Calls.mono (app_tv (sh 2 0 a1) (lamT d) _ _ _ (by first | exact HWV2_3.out | exact HWV2_3.out.below (bel1 _ _)) (by first | exact HWV3_3.out | exact HWV3_3.out.below (bel1 _ _))) ?_); rintro e W4 ⟨Wv4, rfl, hv, hx⟩; have HWB4 : Hid (Below w0.heap.size w0 W4) := hide (by first | exact HWB3.out.trans (hx.mono HWB3.out.size) | exact (HWB3.out.alloc HWB3.out.size _).trans (hx.mono (HWB3.out.alloc HWB3.out.size _).size)); (try have zb3_4 : W4.heap[W3.heap.size]? = some (.cells #[.int .i64 0, .int .i64 0, .slice none 0 0] 50) := (hx.block W3.heap.size (show W3.heap.size < (W3.alloc (.cells #[.int .i64 0, .int .i64 0, .slice none 0 0] 50)).heap.size by simp)).trans (heap_alloc_new _ _)); (try have zb0_4 : W4.heap[w0.heap.size]? = some (.cells #[.int .i64 0, .int .i64 0, .slice none 0 0] 50) := (hx.block w0.heap.size (Array.getElem?_eq_some_iff.1 zb0_3).1).trans zb0_3); (try have zb1_4 : W4.heap[W1.heap.size]? = some (.cells #[.int .i64 0, .int .i64 0, .slice none 0 0] 50) := (hx.block W1.heap.size (Array.getElem?_eq_some_iff.1 zb1_3).1).trans zb1_3); (try have zb2_4 : W4.heap[W2.heap.size]? = some (.cells #[.int .i64 0, .int .i64 0, .slice none 0 0] 50) := (hx.block W2.heap.size (Array.getElem?_eq_some_iff.1 zb2_3).1).trans zb2_3); have HWV1_4 := hide (show TV W4 AnyQ _ _ from (by first | exact HWV1_3.out.below hx | exact (HWV1_3.out.below (bel1 _ _)).below hx)); have HWV2_4 := hide (show TV W4 AnyQ _ _ from (by first | exact HWV2_3.out.below hx | exact (HWV2_3.out.below (bel1 _ _)).below hx)); have HWV3_4 := hide (show TV W4 AnyQ _ _ from (by first | exact HWV3_3.out.below hx | exact (HWV3_3.out.below (bel1 _ _)).below hx)); have HWV4_4 := hide hv; obtain ⟨Wk4, Wn4, Wa4, Wl4, Wc4, rfl⟩ := hv.form; clear hv hx; (try have zc0_0 : W4.cell? ⟨w0.heap.size, 0, none⟩ = some (.int .i64 0) := (cell_of_blk zb0_4 0).trans rfl); (try have zc0_1 : W4.cell? ⟨w0.heap.size, 1, none⟩ = some (.int .i64 0) := (cell_of_blk zb0_4 1).trans rfl); (try have zc0_2 : W4.cell? ⟨w0.heap.size, 2, none⟩ = some (.slice none 0 0) := (cell_of_blk zb0_4 2).trans rfl); (try have zf0 := unfrozen_of_blk zb0_4); (try have hzb := hide zb0_4; clear zb0_4); (try have zc1_0 : W4.cell? ⟨W1.heap.size, 0, none⟩ = some (.int .i64 0) := (cell_of_blk zb1_4 0).trans rfl); (try have zc1_1 : W4.cell? ⟨W1.heap.size, 1, none⟩ = some (.int .i64 0) := (cell_of_blk zb1_4 1).trans rfl); (try have zc1_2 : W4.cell? ⟨W1.heap.size, 2, none⟩ = some (.slice none 0 0) := (cell_of_blk zb1_4 2).trans rfl); (try have zf1 := unfrozen_of_blk zb1_4); (try have hzb := hide zb1_4; clear zb1_4); (try have zc2_0 : W4.cell? ⟨W2.heap.size, 0, none⟩ = some (.int .i64 0) := (cell_of_blk zb2_4 0).trans rfl); (try have zc2_1 : W4.cell? ⟨W2.heap.size, 1, none⟩ = some (.int .i64 0) := (cell_of_blk zb2_4 1).trans rfl); (try have zc2_2 : W4.cell? ⟨W2.heap.size, 2, none⟩ = some (.slice none 0 0) := (cell_of_blk zb2_4 2).trans rfl); (try have zf2 := unfrozen_of_blk zb2_4); (try have hzb := hide zb2_4; clear zb2_4); (try have zc3_0 : W4.cell? ⟨W3.heap.size, 0, none⟩ = some (.int .i64 0) := (cell_of_blk zb3_4 0).trans rfl); (try have zc3_1 : W4.cell? ⟨W3.heap.size, 1, none⟩ = some (.int .i64 0) := (cell_of_blk zb3_4 1).trans rfl); (try have zc3_2 : W4.cell? ⟨W3.heap.size, 2, none⟩ = some (.slice none 0 0) := (cell_of_blk zb3_4 2).trans rfl); (try have zf3 := unfrozen_of_blk zb3_4); (try have hzb := hide zb3_4; clear zb3_4)))
    all_goals
      go_wp2_with fail
      first
        | (go_meet; exact ⟨W4.heap.size, Wk4, Wn4, Wa4, Wl4, Wc4, rfl, heap_alloc_new _ _, HWV4_4.out.below (bel1 _ _), HWB4.out.alloc HWB4.out.size _, HWB4.out.size⟩)
        | (go_meet; exact ⟨W3.heap.size, Wk4, Wn4, Wa4, Wl4, Wc4, rfl, set3_at hzb.out _ _ _, HWV4_4.out.set3 HF2.out hzb.out _ _ _, below_set3 HWB4.out HWB3.out.size _ _ _, HWB3.out.size⟩)
        | (go_meet; exact ⟨W2.heap.size, Wk4, Wn4, Wa4, Wl4, Wc4, rfl, set3_at hzb.out _ _ _, HWV4_4.out.set3 HF2.out hzb.out _ _ _, below_set3 HWB4.out HWB2.out.size _ _ _, HWB2.out.size⟩)
        | (go_meet; exact ⟨W1.heap.size, Wk4, Wn4, Wa4, Wl4, Wc4, rfl, set3_at hzb.out _ _ _, HWV4_4.out.set3 HF2.out hzb.out _ _ _, below_set3 HWB4.out HWB1.out.size _ _ _, HWB1.out.size⟩)
        | (go_meet; exact ⟨w0.heap.size, Wk4, Wn4, Wa4, Wl4, Wc4, rfl, set3_at hzb.out _ _ _, HWV4_4.out.set3 HF2.out hzb.out _ _ _, below_set3 HWB4.out (Nat.le_refl _) _ _ _, Nat.le_refl _⟩)
  case rest =>
    obtain ⟨b, bk, bn, bad, bl, bc, rfl, hbb, hbV, hbB, hbl⟩ := hcut
    have HVb := hide hbV
    have HBc := hide hbB
    have hbt := (Array.getElem?_eq_some_iff.1 hbb).1
    have hsz0 := HSz.out
    have hcs := hbB.size
    have HRc : Hid (wc.heap[w.heap.size + 1 + 1]? = some (.cells #[.int .i64 0, .int .i64 0, .slice none 0 0] 50)) := hide ((hbB.block (w.heap.size + 1 + 1) (by omega)).trans HbR.out)
    have HKyc := hide (HKy.out.below hbB)
    have hlR : w.heap.size + 1 + 1 < wc.heap.size := by omega
    have HAl3 : Hid (∀ w', Below wc.heap.size wc w' → w'.cell? ⟨w.heap.size, 2, none⟩ = some (.slice (some ⟨g, 0, none⟩) 2 sc) ∧ w'.cell? ⟨g, 0, none⟩ = some (.int .i64 y.k) ∧ w'.cell? ⟨g, 1, none⟩ = some (.int .i64 y.n) ∧ w'.cell? ⟨g, 2, none⟩ = some (.slice yad yn yc) ∧ w'.cell? ⟨b, 0, none⟩ = some (.int .i64 bk) ∧ w'.cell? ⟨b, 1, none⟩ = some (.int .i64 bn) ∧ w'.cell? ⟨b, 2, none⟩ = some (.slice bad bl bc)) := hide (fun w' hb => by
      obtain ⟨j0, j1, j2, j3⟩ := HAl2.out wc hbB
      exact ⟨(hb.cell (p := ⟨w.heap.size, 2, none⟩) (show w.heap.size < wc.heap.size by omega)).trans j0, (hb.cell (p := ⟨g, 0, none⟩) (show g < wc.heap.size by omega)).trans j1, (hb.cell (p := ⟨g, 1, none⟩) (show g < wc.heap.size by omega)).trans j2, (hb.cell (p := ⟨g, 2, none⟩) (show g < wc.heap.size by omega)).trans j3,
        (hb.cell (p := ⟨b, 0, none⟩) hbt).trans ((cell_of_blk hbb 0).trans rfl), (hb.cell (p := ⟨b, 1, none⟩) hbt).trans ((cell_of_blk hbb 1).trans rfl), (hb.cell (p := ⟨b, 2, none⟩) hbt).trans ((cell_of_blk hbb 2).trans rfl)⟩)
    have HSet : Hid (∀ w' (x y' z' : Value), (w'.cell? ⟨w.heap.size, 2, none⟩ = some (.slice (some ⟨g, 0, none⟩) 2 sc) ∧ w'.cell? ⟨g, 0, none⟩ = some (.int .i64 y.k) ∧ w'.cell? ⟨g, 1, none⟩ = some (.int .i64 y.n) ∧ w'.cell? ⟨g, 2, none⟩ = some (.slice yad yn yc) ∧ w'.cell? ⟨b, 0, none⟩ = some (.int .i64 bk) ∧ w'.cell? ⟨b, 1, none⟩ = some (.int .i64 bn) ∧ w'.cell? ⟨b, 2, none⟩ = some (.slice bad bl bc)) → (set3 w' (w.heap.size + 1 + 1) x y' z').cell? ⟨w.heap.size, 2, none⟩ = some (.slice (some ⟨g, 0, none⟩) 2 sc) ∧ (set3 w' (w.heap.size + 1 + 1) x y' z').cell? ⟨g, 0, none⟩ = some (.int .i64 y.k) ∧ (set3 w' (w.heap.size + 1 + 1) x y' z').cell? ⟨g, 1, none⟩ = some (.int .i64 y.n) ∧ (set3 w' (w.heap.size + 1 + 1) x y' z').cell? ⟨g, 2, none⟩ = some (.slice yad yn yc) ∧ (set3 w' (w.heap.size + 1 + 1) x y' z').cell? ⟨b, 0, none⟩ = some (.int .i64 bk) ∧ (set3 w' (w.heap.size + 1 + 1) x y' z').cell? ⟨b, 1, none⟩ = some (.int .i64 bn) ∧ (set3 w' (w.heap.size + 1 + 1) x y' z').cell? ⟨b, 2, none⟩ = some (.slice bad bl bc)) := hide (fun w' x y' z' ⟨j0, j1, j2, j3, j4, j5, j6⟩ => ⟨set3_cell (show w.heap.size ≠ w.heap.size + 1 + 1 by omega) _ _ _ j0, set3_cell (show g ≠ w.heap.size + 1 + 1 by omega) _ _ _ j1, set3_cell (show g ≠ w.heap.size + 1 + 1 by omega) _ _ _ j2, set3_cell (show g ≠ w.heap.size + 1 + 1 by omega) _ _ _ j3, set3_cell (show b ≠ w.heap.size + 1 + 1 by omega) _ _ _ j4, set3_cell (show b ≠ w.heap.size + 1 + 1 by omega) _ _ _ j5, set3_cell (show b ≠ w.heap.size + 1 + 1 by omega) _ _ _ j6⟩)
    have HBw : Hid (Below w.heap.size w wc) := hide (HB.out.trans (hbB.mono (by omega)))
    clear hbb hbV hbB hsz0 hcs
    go_wp2_with fail
    have HVB0d : Hid (Below wc.heap.size wc wc.drew) := hide (belowDrew (Below.refl _ _))
    obtain ⟨Vu0, Vu1, Vu2, Vu3, Vu4, Vu5, Vu6⟩ := HAl3.out wc.drew HVB0d.out
    go_region_held3 (fun w' => w'.cell? ⟨w.heap.size, 2, none⟩ = some (.slice (some ⟨g, 0, none⟩) 2 sc) ∧ w'.cell? ⟨g, 0, none⟩ = some (.int .i64 y.k) ∧ w'.cell? ⟨g, 1, none⟩ = some (.int .i64 y.n) ∧ w'.cell? ⟨g, 2, none⟩ = some (.slice yad yn yc) ∧ w'.cell? ⟨b, 0, none⟩ = some (.int .i64 bk) ∧ w'.cell? ⟨b, 1, none⟩ = some (.int .i64 bn) ∧ w'.cell? ⟨b, 2, none⟩ = some (.slice bad bl bc)) (first | (with_reducible exact HAl3.out _ HVB0d.out) | (with_reducible exact HAl3.out _ HVB1.out) | (with_reducible exact HAl3.out _ HVB2.out) | (with_reducible exact HAl3.out _ HVB3.out) | (with_reducible exact HAl3.out _ HVB4.out) | (with_reducible exact HAl3.out _ HVB5.out) | (with_reducible exact HSet.out _ _ _ _ (HAl3.out _ HVB5.out)))
      (first
        | ((with_reducible refine Calls.mono (HY0.out _ _ _ (by first | exact HKyc.out.below HVB0d.out)) ?_); rintro e V1 ⟨Vv1, rfl, hv, hx⟩; have HVB1 : Hid (Below wc.heap.size wc V1) := hide (by first | exact HVB0d.out.trans (hx.mono HVB0d.out.size)); have HVV1_1 := hide hv; obtain ⟨Vk1, Vn1, Va1, Vl1, Vc1, rfl⟩ := hv.form; clear hv hx)
        | ((with_reducible refine Calls.mono (shift_10 a0 _ _ H0.out Hs0.out (by first | exact HVV1_1.out)) ?_); rintro e V2 ⟨Vv2, rfl, hv, hx⟩; have HVB2 : Hid (Below wc.heap.size wc V2) := hide (by first | exact HVB1.out.trans (hx.mono HVB1.out.size)); have HVV1_2 := hide (show TV V2 AnyQ _ _ from (by first | exact HVV1_1.out.below hx)); have HVV2_2 := hide hv; obtain ⟨Vk2, Vn2, Va2, Vl2, Vc2, rfl⟩ := hv.form; clear hv hx)
        | ((with_reducible refine Calls.mono (lam_tv (appT (sh 2 0 a1) (lamT d)) (.agg #[.int .i64 bk, .int .i64 bn, .slice bad bl bc]) _ (by first | exact HVb.out.below HVB2.out)) ?_); rintro e V3 ⟨Vv3, rfl, hv, hx⟩; have HVB3 : Hid (Below wc.heap.size wc V3) := hide (by first | exact HVB2.out.trans (hx.mono HVB2.out.size)); have HVV1_3 := hide (show TV V3 AnyQ _ _ from (by first | exact HVV1_2.out.below hx)); have HVV2_3 := hide (show TV V3 AnyQ _ _ from (by first | exact HVV2_2.out.below hx)); have HVV3_3 := hide hv; obtain ⟨Vk3, Vn3, Va3, Vl3, Vc3, rfl⟩ := hv.form; clear hv hx)
        | ((with_reducible refine Calls.mono (app_tv (sh 1 0 a0) (lamT (appT (sh 2 0 a1) (lamT d))) _ _ _ (by first | exact HVV2_3.out) (by first | exact HVV3_3.out)) ?_); rintro e V4 ⟨Vv4, rfl, hv, hx⟩; have HVB4 : Hid (Below wc.heap.size wc V4) := hide (by first | exact HVB3.out.trans (hx.mono HVB3.out.size)); have HVV1_4 := hide (show TV V4 AnyQ _ _ from (by first | exact HVV1_3.out.below hx)); have HVV2_4 := hide (show TV V4 AnyQ _ _ from (by first | exact HVV2_3.out.below hx)); have HVV3_4 := hide (show TV V4 AnyQ _ _ from (by first | exact HVV3_3.out.below hx)); have HVV4_4 := hide hv; obtain ⟨Vk4, Vn4, Va4, Vl4, Vc4, rfl⟩ := hv.form; clear hv hx)
        | ((with_reducible refine Calls.mono (lam_tv (appT (sh 1 0 a0) (lamT (appT (sh 2 0 a1) (lamT d)))) _ _ (by first | exact HVV4_4.out)) ?_); rintro e V5 ⟨Vv5, rfl, hv, hx⟩; have HVB5 : Hid (Below wc.heap.size wc V5) := hide (by first | exact HVB4.out.trans (hx.mono HVB4.out.size)); have HVV1_5 := hide (show TV V5 AnyQ _ _ from (by first | exact HVV1_4.out.below hx)); have HVV2_5 := hide (show TV V5 AnyQ _ _ from (by first | exact HVV2_4.out.below hx)); have HVV3_5 := hide (show TV V5 AnyQ _ _ from (by first | exact HVV3_4.out.below hx)); have HVV4_5 := hide (show TV V5 AnyQ _ _ from (by first | exact HVV4_4.out.below hx)); have HVV5_5 := hide hv; obtain ⟨Vk5, Vn5, Va5, Vl5, Vc5, rfl⟩ := hv.form; clear hv hx; have hzr : V5.heap[w.heap.size + 1 + 1]? = some (.cells #[.int .i64 0, .int .i64 0, .slice none 0 0] 50) := (HVB5.out.block (w.heap.size + 1 + 1) hlR).trans HRc.out; have zr0 : V5.cell? ⟨w.heap.size + 1 + 1, 0, none⟩ = some (.int .i64 0) := (cell_of_blk hzr 0).trans rfl; have zr1 : V5.cell? ⟨w.heap.size + 1 + 1, 1, none⟩ = some (.int .i64 0) := (cell_of_blk hzr 1).trans rfl; have zr2 : V5.cell? ⟨w.heap.size + 1 + 1, 2, none⟩ = some (.slice none 0 0) := (cell_of_blk hzr 2).trans rfl; have zrf := unfrozen_of_blk hzr; have HZr := hide hzr; clear hzr))
    go_wp2_with fail
    have hre := set3_at HZr.out (.int .i64 Vk5) (.int .i64 Vn5) (.slice Va5 Vl5 Vc5)
    have r0 := (cell_of_blk hre 0).trans rfl
    have r1 := (cell_of_blk hre 1).trans rfl
    have r2 := (cell_of_blk hre 2).trans rfl
    exact bodyPost_ret (v := .agg #[.int .i64 Vk5, .int .i64 Vn5, .slice Va5 Vl5 Vc5]) (by simp [results, Tryz.results68, go_sem, r0, r1, r2]) rfl ⟨_, rfl, HVV5_5.out.set3 HF3.out HZr.out _ _ _, below_set3 (HBw.out.trans (HVB5.out.mono HBw.out.size)) (by omega) _ _ _⟩
end Go.Proofs.YtnmkbpflbfhpnaaGreat.W

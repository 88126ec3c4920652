/-
  How large what hands on is, and how far its variables are. No program here.
-/
import Derived.Test.YtnmkbpflbfhpnaaHnK
namespace Go.Proofs.Ytnmkbpflbfhpnaa.W
set_option linter.unusedVariables false

def cokv (B : Int) (x : Cc) : Prop := if x.k = 1 then 0 ≤ x.n ∧ x.n ≤ B else if x.k = 2 then -1000000 ≤ x.n ∧ x.n ≤ 1000000 else x.n = 0 ∧ 3 ≤ x.k ∧ x.k ≤ 7
/-- Terms whose variables are at most so far. -/
def F.okv (B : Int) : F → Prop
  | .nil => True
  | .cons x k r => cokv B x ∧ k.len = ar x.k ∧ k.okv B ∧ r.okv B
theorem cokv_mono {B C : Int} {x : Cc} (h : cokv B x) (hc : B ≤ C) : cokv C x := by
  unfold cokv at *
  split
  · rename_i h1; rw [if_pos h1] at h; omega
  · rename_i h1; rw [if_neg h1] at h; exact h
theorem okv_mono {B C : Int} (hc : B ≤ C) : ∀ {a : F}, a.okv B → a.okv C
  | .nil, _ => trivial
  | .cons x k r, ⟨h1, h2, h3, h4⟩ => ⟨cokv_mono h1 hc, h2, okv_mono hc h3, okv_mono hc h4⟩
theorem ok_okv : ∀ {a : F}, a.ok → a.okv 99
  | .nil, _ => trivial
  | .cons x k r, ⟨h1, h2, h3, h4⟩ => ⟨by
      unfold goodC at h1
      unfold cokv
      split
      · rename_i e; rw [if_pos e] at h1; unfold inB at h1; simp at h1; exact h1
      · rename_i e
        rw [if_neg e] at h1
        split
        · rename_i e2; rw [if_pos e2] at h1; unfold inB at h1; simp at h1; exact h1
        · rename_i e2; rw [if_neg e2] at h1; unfold inB at h1; simp at h1; omega, h2, ok_okv h3, ok_okv h4⟩
theorem okv_okw {B : Int} (hB : B ≤ 900000) : ∀ {a : F}, a.okv B → a.okw
  | .nil, _ => trivial
  | .cons x k r, ⟨h1, h2, h3, h4⟩ => ⟨by
      unfold cokv at h1
      unfold V.goodC
      split
      · rename_i e; rw [if_pos e] at h1; unfold inB; simp; omega
      · rename_i e
        rw [if_neg e] at h1
        split
        · rename_i e2; rw [if_pos e2] at h1; unfold inB; simp; omega
        · rename_i e2; rw [if_neg e2] at h1; unfold inB; simp; omega, h2, okv_okw hB h3, okv_okw hB h4⟩
theorem app_okv (B : Int) : ∀ a b : F, (a.app b).okv B ↔ a.okv B ∧ b.okv B
  | .nil, b => by simp [F.app, F.okv]
  | .cons x k r, b => by simp [F.app, F.okv, app_okv B r b, and_assoc]
theorem shf_okv {B by_ : Int} (hb : 0 ≤ by_) : ∀ (a : F) (pk : Int) (f i : Nat), a.okv B → (shf by_ pk f i a).okv (B + by_)
  | .nil, _, _, _, _ => trivial
  | .cons x k r, pk, f, i, ⟨h1, h2, h3, h4⟩ => by
    rw [shf]
    have hx : (shc by_ (f + binds pk i) x).k = x.k := by unfold shc; split <;> rfl
    refine ⟨?_, by rw [shf_len, h2, hx], shf_okv hb k _ _ _ h3, shf_okv hb r _ _ _ h4⟩
    unfold shc
    split
    · rename_i e
      unfold cokv at *
      rw [if_pos e.1] at h1
      rw [if_pos e.1]
      simp only
      omega
    · exact cokv_mono h1 (by omega)
theorem sh_okv {B by_ : Int} (hb : 0 ≤ by_) (f : Nat) {a : F} (h : a.okv B) : (sh by_ f a).okv (B + by_) := shf_okv hb a _ _ _ h
theorem nt_okv {B : Int} : ∀ (a : F) (i : Nat), a.okv B → (nt a i).okv B
  | .nil, _, _ => trivial
  | .cons x k r, 0, h => ⟨h.1, h.2.1, h.2.2.1, trivial⟩
  | .cons x k r, i + 1, h => nt_okv r i h.2.2.2
theorem varT_okv {B n : Int} (h0 : 0 ≤ n) (h : n ≤ B) : (varT n).okv B := ⟨by unfold cokv; rw [if_pos rfl]; exact ⟨h0, h⟩, rfl, trivial, trivial⟩
theorem lamT_okv {B : Int} {a : F} (h1 : a.len = 1) (h : a.okv B) : (lamT a).okv B := ⟨⟨rfl, by decide, by decide⟩, h1, h, trivial⟩
theorem appT_okv {B : Int} {a b : F} (h1 : a.len = 1) (h2 : b.len = 1) (ha : a.okv B) (hb : b.okv B) : (appT a b).okv B := ⟨⟨rfl, by decide, by decide⟩, by rw [F.app_len, h1, h2]; rfl, (app_okv _ _ _).2 ⟨ha, hb⟩, trivial⟩
theorem addT_okv {B : Int} {a b : F} (h1 : a.len = 1) (h2 : b.len = 1) (ha : a.okv B) (hb : b.okv B) : (addT a b).okv B := ⟨⟨rfl, by decide, by decide⟩, by rw [F.app_len, h1, h2]; rfl, (app_okv _ _ _).2 ⟨ha, hb⟩, trivial⟩
theorem ifT_okv {B : Int} {a b c : F} (h1 : a.len = 1) (h2 : b.len = 1) (h3 : c.len = 1) (ha : a.okv B) (hb : b.okv B) (hc : c.okv B) : (ifT a b c).okv B := ⟨⟨rfl, by decide, by decide⟩, by rw [F.app_len, F.app_len, h1, h2, h3]; rfl, (app_okv _ _ _).2 ⟨ha, (app_okv _ _ _).2 ⟨hb, hc⟩⟩, trivial⟩
theorem hn1_okv {B : Int} (hB : 100 ≤ B) {x : Cc} {k kk : F} (hx : cokv 99 x) (hk : k.len = ar x.k) (hko : k.okv 99) (hl : kk.len = k.len) (h : kk.okv B) : (hn1 x k kk).okv (B + 2) := by
  have s1 : ∀ f i, (sh 1 f (nt kk i)).okv (B + 2) := fun f i => okv_mono (by omega) (sh_okv (by decide) f (nt_okv kk i h))
  have s2 : ∀ f i, (sh 2 f (nt kk i)).okv (B + 2) := fun f i => sh_okv (by decide) f (nt_okv kk i h)
  have l : ∀ b f i, i < k.len → (sh b f (nt kk i)).len = 1 := fun b f i hi => by rw [sh_len]; exact nt_len _ _ (by omega)
  have v : ∀ n : Int, 0 ≤ n → n ≤ 100 → (varT n).okv (B + 2) := fun n h0 h1 => varT_okv h0 (by omega)
  unfold hn1 two
  by_cases c1 : x.k = 1
  · rw [if_pos c1]
    unfold cokv at hx
    rw [if_pos c1] at hx
    exact lamT_okv rfl (appT_okv rfl rfl (v 0 (by decide) (by decide)) (v _ (by omega) (by omega)))
  · rw [if_neg c1]
    by_cases c3 : x.k = 3
    · rw [if_pos c3]
      have hk1 : k.len = 1 := by rw [hk, c3]; decide
      exact lamT_okv rfl (appT_okv rfl rfl (v 0 (by decide) (by decide)) (lamT_okv (l 1 1 0 (by omega)) (s1 1 0)))
    · rw [if_neg c3]
      by_cases c4 : x.k = 4
      · rw [if_pos c4]
        have hk2 : k.len = 2 := by rw [hk, c4]; decide
        exact lamT_okv rfl (appT_okv (l 1 0 0 (by omega)) rfl (s1 0 0) (lamT_okv rfl (appT_okv (l 2 0 1 (by omega)) rfl (s2 0 1) (lamT_okv rfl (appT_okv rfl rfl (appT_okv rfl rfl (v 1 (by decide) (by decide)) (v 0 (by decide) (by decide))) (v 2 (by decide) (by decide)))))))
      · rw [if_neg c4]
        by_cases c5 : x.k = 5
        · rw [if_pos c5]
          have hk2 : k.len = 2 := by rw [hk, c5]; decide
          exact lamT_okv rfl (appT_okv (l 1 0 0 (by omega)) rfl (s1 0 0) (lamT_okv rfl (appT_okv (l 2 0 1 (by omega)) rfl (s2 0 1) (lamT_okv rfl (appT_okv rfl rfl (v 2 (by decide) (by decide)) (addT_okv rfl rfl (v 1 (by decide) (by decide)) (v 0 (by decide) (by decide))))))))
        · rw [if_neg c5]
          by_cases c6 : x.k = 6
          · rw [if_pos c6]
            have hk3 : k.len = 3 := by rw [hk, c6]; decide
            exact lamT_okv rfl (appT_okv (l 1 0 0 (by omega)) rfl (s1 0 0) (lamT_okv rfl (ifT_okv rfl rfl rfl (v 0 (by decide) (by decide)) (appT_okv (l 2 0 1 (by omega)) rfl (s2 0 1) (v 1 (by decide) (by decide))) (appT_okv (l 2 0 2 (by omega)) rfl (s2 0 2) (v 1 (by decide) (by decide))))))
          · rw [if_neg c6]
            by_cases c7 : x.k = 7
            · rw [if_pos c7]
              have hk2 : k.len = 2 := by rw [hk, c7]; decide
              exact lamT_okv rfl (appT_okv (l 1 0 0 (by omega)) rfl (s1 0 0) (lamT_okv rfl (appT_okv (l 1 1 1 (by omega)) rfl (s1 1 1) (v 1 (by decide) (by decide)))))
            · rw [if_neg c7]
              exact lamT_okv rfl (appT_okv rfl rfl (v 0 (by decide) (by decide)) ⟨cokv_mono hx (by omega), hk, okv_mono (by omega) hko, trivial⟩)
theorem hn_okv : ∀ a : F, a.ok → (hn a).okv (100 + 2 * a.flat.length)
  | .nil, _ => trivial
  | .cons x k r, h => by
    have hx := (ok_okv h).1
    obtain ⟨h1, h2, h3, h4⟩ := h
    rw [hn, app_okv]
    have e : ((F.cons x k r).flat.length : Int) = 1 + k.flat.length + r.flat.length := by simp [F.flat]; omega
    exact ⟨okv_mono (by omega) (hn1_okv (by omega) hx h2 (ok_okv h3) (hn_len k) (hn_okv k h3)), okv_mono (by omega) (hn_okv r h4)⟩

theorem nt_sum : ∀ a : F, (nt a 0).flat.length + ((nt a 1).flat.length + (nt a 2).flat.length) ≤ a.flat.length
  | .nil => by simp [nt, F.flat]
  | .cons x k .nil => by simp [nt, F.flat]
  | .cons x k (.cons y ky .nil) => by simp [nt, F.flat]; omega
  | .cons x k (.cons y ky (.cons z kz r)) => by simp [nt, F.flat]; omega
theorem hn1_size {x : Cc} {k kk : F} (hg : goodC x = true) (hk : k.len = ar x.k) : (hn1 x k kk).flat.length ≤ 12 + kk.flat.length := by
  have h0 := nt_sum kk
  have hx := good_ar hg
  unfold inB at hx
  simp at hx
  unfold hn1 two
  split
  · simp [lamT, appT, varT, F.app_flat, F.flat]; omega
  · split
    · simp [lamT, appT, varT, F.app_flat, F.flat, sh_flat]; omega
    · split
      · simp [lamT, appT, varT, F.app_flat, F.flat, sh_flat]; omega
      · split
        · simp [lamT, appT, addT, varT, F.app_flat, F.flat, sh_flat]; omega
        · split
          · simp [lamT, appT, ifT, varT, F.app_flat, F.flat, sh_flat]; omega
          · split
            · simp [lamT, appT, varT, F.app_flat, F.flat, sh_flat]; omega
            · have e : k = .nil := F.len_0 (by rw [hk, show x.k = 2 by omega]; decide)
              subst e
              simp [lamT, appT, varT, F.app_flat, F.flat]; omega
theorem hn_size : ∀ a : F, a.ok → (hn a).flat.length ≤ 12 * a.flat.length
  | .nil, _ => by simp [hn, F.flat]
  | .cons x k r, ⟨h1, h2, h3, h4⟩ => by
    rw [hn, F.app_flat, List.length_append]
    have e1 := hn1_size (kk := hn k) h1 h2
    have e2 := hn_size k h3
    have e3 := hn_size r h4
    simp [F.flat]; omega
end Go.Proofs.Ytnmkbpflbfhpnaa.W

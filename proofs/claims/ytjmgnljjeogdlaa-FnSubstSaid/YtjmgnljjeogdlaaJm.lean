/-
  Some texts of this proof in one: TeH, SbA.
-/
import Derived.Test.YtjmgnljjeogdlaaJh
import Derived.Test.YtjmgnljjeogdlaaJj
import Derived.Test.YtjmgnljjeogdlaaJg
/-
  The program's marks and the specification's list tell the same variables. No program here.
-/
namespace Go.Proofs.Ytjmgnljjeogdlaa.W
set_option linter.unusedVariables false

theorem mkd_lt (s : List Bool) (j : Nat) : ∀ x ∈ mkd s j, x < (j : Int) := by
  intro x hx
  unfold mkd at hx
  obtain ⟨i, hi, rfl⟩ := List.mem_map.1 hx
  have := List.mem_range.1 (List.mem_filter.1 hi).1
  show (i : Int) < (j : Int)
  omega
theorem putAt_all {l : List Int} {n : Int} (h : ∀ x ∈ l, x < n) (r : List Int) (hr : ∀ x, r[0]? = some x → ¬ x < n) : putAt (l ++ r) n = l.length := by
  refine putAt_is (by simp) (fun i hi hlt => ?_) (fun hlt => ?_)
  · rw [List.getElem_append_left hlt]; exact h _ (List.getElem_mem hlt)
  · rw [List.getElem_append_right (Nat.le_refl _)]
    refine hr _ ?_
    rw [List.getElem?_eq_getElem (by simp at hlt ⊢; omega)]
    simp
theorem put_snoc {l : List Int} {n m : Int} (h : n < m) (hl : ∀ x ∈ l, x < m) : put (l ++ [m]) n = put l n ++ [m] := by
  have hle := putAt_le l n
  have hp : putAt (l ++ [m]) n = putAt l n := by
    refine putAt_is (by simp; omega) (fun i hi hlt => ?_) (fun hlt => ?_)
    · rw [List.getElem_append_left (by omega)]; exact putAt_lt l n i hlt
    · by_cases hlt2 : putAt l n < l.length
      · rw [List.getElem_append_left hlt2]; exact putAt_ge l n hlt2
      · rw [List.getElem_append_right (by omega)]; simp; omega
  unfold put
  rw [hp]
  by_cases hlt2 : putAt l n < l.length
  · rw [List.getElem?_append_left hlt2]
    split
    · rfl
    · rw [List.take_append_of_le_length hle, List.drop_append_of_le_length hle]; simp
  · have he : putAt l n = l.length := by omega
    rw [he, List.getElem?_append_right (Nat.le_refl _), List.getElem?_eq_none (Nat.le_refl _)]
    have hmn : m ≠ n := by omega
    simp [hmn]
theorem set_getD_ne (s : List Bool) (j i : Nat) (h : i ≠ j) : (s.set j true).getD i false = s.getD i false := by
  simp [List.getD, Ne.symm h]
theorem set_getD_eq (s : List Bool) (j : Nat) (h : j < s.length) : (s.set j true).getD j false = true := by
  simp [List.getD, h]
theorem mkd_set_below (s : List Bool) (j : Nat) : ∀ m, m ≤ j → mkd (s.set j true) m = mkd s m
  | 0, _ => rfl
  | m + 1, h => by rw [mkd_succ, mkd_succ, mkd_set_below s j m (by omega), set_getD_ne s j m (by omega)]
theorem mkd_set (s : List Bool) (j : Nat) (hj : j < s.length) : ∀ m, j < m → mkd (s.set j true) m = put (mkd s m) (j : Int)
  | 0, h => by omega
  | m + 1, h => by
    by_cases e : m = j
    · subst e
      rw [mkd_succ, mkd_set_below s m m (Nat.le_refl _), set_getD_eq s m hj, if_pos rfl, mkd_succ]
      split
      · unfold put
        rw [putAt_all (mkd_lt s m) [(m : Int)] (fun x hx => by simp at hx; omega), List.getElem?_append_right (Nat.le_refl _)]
        simp
      · have hp := putAt_all (mkd_lt s m) [] (fun x hx => by cases hx)
        rw [List.append_nil] at hp
        unfold put
        rw [hp, List.getElem?_eq_none (Nat.le_refl _)]
        simp
    · rw [mkd_succ, mkd_succ, mkd_set s j hj m (by omega), set_getD_ne s j m e]
      split
      · exact (put_snoc (by omega) (mkd_lt s m)).symm
      · rfl

theorem bitS_mkd (s : List Bool) (hs : s.length = 100) (n : Int) (d : Nat) (hn : n ≤ 99) : mkd (bitS s n d) 100 = if (d : Int) ≤ n then put (mkd s 100) (n - (d : Int)) else mkd s 100 := by
  unfold bitS
  by_cases hd : (d : Int) ≤ n
  · rw [if_pos hd, if_pos hd]
    obtain ⟨j, hj⟩ := Int.eq_ofNat_of_zero_le (show 0 ≤ n - (d : Int) by omega)
    rw [hj, Int.toNat_natCast]
    exact mkd_set s j (by omega) 100 (by omega)
  · rw [if_neg hd, if_neg hd]

theorem bits_fre : ∀ (a : F) (pk : Int) (d i : Nat) (s : {s : List Bool // s.length = 100}), a.ok →
    mkd (wv (fun (s : {s : List Bool // s.length = 100}) n d => sameV s.1 n d) (fun s n d => ⟨bitS s.1 n d, by unfold bitS; split <;> simp [s.2]⟩) pk d i a s).2.1 100 = fre pk d i a (mkd s.1 100)
  | .nil, _, _, _, _, _ => rfl
  | .cons x k r, pk, d, i, s, h => by
    obtain ⟨g1, l1, o1, r1⟩ := ok_cons h
    by_cases hx : x.k = 1
    · have hk0 : k = .nil := F.len_0 (by rw [l1, hx]; rfl)
      have hn : 0 ≤ x.n ∧ x.n ≤ 99 := by
        unfold goodC at g1
        rw [if_pos hx] at g1
        simpa [inB] using g1
      simp only [wv, hx, if_true]
      rw [bits_fre r pk d (i + 1) _ r1, fre_cons]
      congr 1
      show mkd (bitS s.1 x.n (d + binds pk i)) 100 = fr1 (d + binds pk i) x k (mkd s.1 100)
      rw [bitS_mkd s.1 s.2 x.n _ hn.2]
      unfold fr1
      by_cases hd : ((d + binds pk i : Nat) : Int) ≤ x.n
      · rw [if_pos hd, if_pos ⟨hx, hd⟩]
      · rw [if_neg hd, if_neg (fun hc => hd hc.2), hk0]
        rfl
    · simp only [wv, hx, if_false]
      rw [bits_fre r pk d (i + 1) _ r1, bits_fre k x.k (d + binds pk i) 0 s o1, fre_cons]
      congr 1
      unfold fr1
      rw [if_neg (fun hc => hx hc.1)]

theorem mkd_none : ∀ m, mkd (List.replicate 100 false) m = []
  | 0 => rfl
  | m + 1 => by
    rw [mkd_succ, mkd_none m, if_neg]
    simp only [List.getD, List.getElem?_replicate]
    split <;> simp
theorem marked_bits (x : Cc) (k : F) (h : (F.cons x k .nil).ok) : marked (bits x k) = fr1 0 x k [] := by
  unfold marked bits w1
  rw [bits_fre _ _ _ _ _ h, mkd_none, fre_cons]
  rfl
end Go.Proofs.Ytjmgnljjeogdlaa.W

/-
  Terms put in the place of variables: what is put in the one order or the other is the same (the substitution lemma), and which variables are left. No program here.
-/
namespace Go.Proofs.Ytjmgnljjeogdlaa.W
set_option linter.unusedVariables false
set_option linter.unusedSimpArgs false

/-- Variables have nothing behind them, and are not below 0. -/
def F.nv : F → Prop
  | .nil => True
  | .cons x k r => (x.k = 1 → k = .nil ∧ 0 ≤ x.n) ∧ k.nv ∧ r.nv
theorem binds0 (i : Nat) : binds 0 i = 0 := by unfold binds; simp
theorem shc_kV (b : Int) (f : Nat) (x : Cc) : (shc b f x).k = x.k := by unfold shc; split <;> rfl
theorem shc_shc {c d j f : Nat} (h1 : j ≤ f) (h2 : f ≤ j + c) (x : Cc) : shc (d : Int) f (shc (c : Int) j x) = shc ((c + d : Nat) : Int) j x := by
  obtain ⟨xk, xn⟩ := x
  unfold shc
  by_cases hx : xk = 1
  · subst hx
    by_cases hn : (j : Int) ≤ xn
    · have h3 : (f : Int) ≤ xn + (c : Int) := by omega
      simp only [hn, h3, and_self, if_true, Cc.mk.injEq, true_and]
      omega
    · have h3 : ¬ (f : Int) ≤ xn := by omega
      simp only [hn, h3, and_false, if_false]
  · simp [hx]
theorem shf_shf {c d : Nat} : ∀ (a : F) (pk : Int) (j f i : Nat), j ≤ f → f ≤ j + c → shf (d : Int) pk f i (shf (c : Int) pk j i a) = shf ((c + d : Nat) : Int) pk j i a
  | .nil, _, _, _, _, _, _ => rfl
  | .cons x k r, pk, j, f, i, h1, h2 => by
    simp only [shf, shc_kV]
    rw [shc_shc (by omega) (by omega), shf_shf k x.k _ _ 0 (by omega) (by omega), shf_shf r pk j f (i + 1) h1 h2]
theorem sbf_nil (K : Nat) (sx : Cc) (sk : F) (pk : Int) (d i : Nat) : sbf K sx sk pk d i .nil = .nil := rfl
theorem sbr_lt {K : Nat} {sx : Cc} {d : Nat} {n : Int} (h : n < (K : Int) + (d : Int)) : sbr K sx d ⟨1, n⟩ = ⟨1, n⟩ := by
  unfold sbr; simp only [if_true]; rw [if_neg (by omega), if_neg (by omega)]
theorem sbr_eq {K : Nat} {sx : Cc} {d : Nat} {n : Int} (h : n = (K : Int) + (d : Int)) : sbr K sx d ⟨1, n⟩ = shc (d : Int) 0 sx := by
  unfold sbr; simp only [if_true]; rw [if_pos h]
theorem sbr_gt {K : Nat} {sx : Cc} {d : Nat} {n : Int} (h : (K : Int) + (d : Int) < n) : sbr K sx d ⟨1, n⟩ = ⟨1, n - 1⟩ := by
  unfold sbr; simp only [if_true]; rw [if_neg (by omega), if_pos h]
theorem sbk_eq {K : Nat} {sx : Cc} {sk : F} {d : Nat} {n : Int} (k : F) (h : n = (K : Int) + (d : Int)) : sbk K sx sk d ⟨1, n⟩ k = shf (d : Int) sx.k 0 0 sk := by
  unfold sbk; simp only [if_true]; rw [if_pos h]
theorem sbk_ne {K : Nat} {sx : Cc} {sk : F} {d : Nat} {n : Int} (k : F) (h : n ≠ (K : Int) + (d : Int)) : sbk K sx sk d ⟨1, n⟩ k = .nil := by
  unfold sbk; simp only [if_true]; rw [if_neg h]
theorem sbr_no {K : Nat} {sx : Cc} {d : Nat} {x : Cc} (h : x.k ≠ 1) : sbr K sx d x = x := by unfold sbr; rw [if_neg h]
theorem sbk_no {K : Nat} {sx : Cc} {sk : F} {d : Nat} {x : Cc} {k : F} (h : x.k ≠ 1) : sbk K sx sk d x k = sbf K sx sk x.k d 0 k := by unfold sbk; rw [if_neg h]
theorem shc_no {b : Int} {f : Nat} {x : Cc} (h : x.k ≠ 1) : shc b f x = x := by unfold shc; rw [if_neg (fun hc => h hc.1)]
theorem shc_lt {b : Int} {f : Nat} {n : Int} (h : n < (f : Int)) : shc b f ⟨1, n⟩ = ⟨1, n⟩ := by unfold shc; rw [if_neg (by simp only; omega)]
theorem shc_ge {b : Int} {f : Nat} {n : Int} (h : (f : Int) ≤ n) : shc b f ⟨1, n⟩ = ⟨1, n + b⟩ := by unfold shc; rw [if_pos ⟨rfl, h⟩]
/-- What is put in and then shifted is shifted and then put in. -/
theorem sbf_shf {ux : Cc} {uk : F} {d : Nat} : ∀ (a : F) (pk : Int) (c i : Nat), a.nv → sbf 0 ux uk pk (c + d) i (shf (d : Int) pk c i a) = shf (d : Int) pk c i (sbf 0 ux uk pk c i a)
  | .nil, _, _, _, _ => rfl
  | .cons x k r, pk, c, i, ⟨hv, hk, hr⟩ => by
    have ir := sbf_shf (ux := ux) (uk := uk) (d := d) r pk c (i + 1) hr
    simp only [shf, sbf_cons]
    obtain ⟨b, hb⟩ : ∃ b, b = c + binds pk i := ⟨_, rfl⟩
    rw [show c + d + binds pk i = b + d by omega, ← hb, ir]
    by_cases hx : x.k = 1
    · obtain ⟨rfl, hn0⟩ := hv hx
      obtain ⟨xk, n⟩ := x
      simp only at hx hn0
      subst hx
      simp only [shf]
      rcases Int.lt_trichotomy n (b : Int) with h | h | h
      · rw [shc_lt h, sbr_lt (by omega), sbk_ne _ (by omega), sbr_lt (by omega), sbk_ne _ (by omega), shc_lt h]; rfl
      · rw [shc_ge (by omega), sbr_eq (by omega), sbk_eq _ (by omega), sbr_eq (by omega), sbk_eq _ (by omega), shc_shc (by omega) (by omega), shc_kV, shf_shf uk _ 0 b 0 (by omega) (by omega)]
      · rw [shc_ge (by omega), sbr_gt (by omega), sbk_ne _ (by omega), sbr_gt (by omega), sbk_ne _ (by omega), shc_ge (by omega)]
        simp only [shf]
        congr 2
        omega
    · rw [shc_no hx, sbr_no hx, sbk_no hx, sbr_no hx, sbk_no hx, shc_no hx, sbf_shf k x.k b 0 hk]
/-- What was shifted one further loses that where nothing is found. -/
theorem sbf_over {ex : Cc} {ek : F} {d : Nat} : ∀ (a : F) (pk : Int) (j i : Nat), a.nv → sbf 0 ex ek pk (d + j) i (shf ((d + 1 : Nat) : Int) pk j i a) = shf (d : Int) pk j i a
  | .nil, _, _, _, _ => rfl
  | .cons x k r, pk, j, i, ⟨hv, hk, hr⟩ => by
    have ir := sbf_over (ex := ex) (ek := ek) (d := d) r pk j (i + 1) hr
    simp only [shf, sbf_cons]
    obtain ⟨b, hb⟩ : ∃ b, b = j + binds pk i := ⟨_, rfl⟩
    rw [show d + j + binds pk i = d + b by omega, ← hb, ir]
    by_cases hx : x.k = 1
    · obtain ⟨rfl, hn0⟩ := hv hx
      obtain ⟨xk, n⟩ := x
      simp only at hx hn0
      subst hx
      simp only [shf]
      by_cases h : n < (b : Int)
      · rw [shc_lt h, sbr_lt (by omega), sbk_ne _ (by omega), shc_lt h]
      · rw [shc_ge (by omega), sbr_gt (by omega), sbk_ne _ (by omega), shc_ge (by omega)]
        congr 2
        omega
    · rw [shc_no hx, sbr_no hx, sbk_no hx, shc_no hx, sbf_over k x.k b 0 hk]
/-- The substitution lemma. -/
theorem sbf_sbf {sx ux : Cc} {sk uk : F} (hs : (F.cons sx sk .nil).nv) (hu : (F.cons ux uk .nil).nv) : ∀ (a : F) (pk : Int) (d i : Nat), a.nv →
    sbf 0 ux uk pk d i (sbf 0 sx sk pk d i a) = sbf 0 (sbr 0 ux 0 sx) (sbk 0 ux uk 0 sx sk) pk d i (sbf 1 (shc 1 0 ux) (shf 1 ux.k 0 0 uk) pk d i a)
  | .nil, _, _, _, _ => rfl
  | .cons x k r, pk, d, i, ⟨hv, hk, hr⟩ => by
    have ir := sbf_sbf hs hu r pk d (i + 1) hr
    simp only [sbf_cons]
    obtain ⟨b, hb⟩ : ∃ b, b = d + binds pk i := ⟨_, rfl⟩
    rw [← hb, ir]
    by_cases hx : x.k = 1
    · obtain ⟨rfl, hn0⟩ := hv hx
      obtain ⟨xk, n⟩ := x
      simp only at hx hn0
      subst hx
      rcases Int.lt_trichotomy n (b : Int) with h | h | h
      · have r0 : ∀ (K : Nat) (sx : Cc), sbr K sx b ⟨1, n⟩ = ⟨1, n⟩ := fun K sx => sbr_lt (by omega)
        have k0 : ∀ (K : Nat) (sx : Cc) (sk k : F), sbk K sx sk b ⟨1, n⟩ k = .nil := fun K sx sk k => sbk_ne _ (by omega)
        simp only [r0, k0]
      · have hB := sbf_shf (ux := ux) (uk := uk) (d := b) (.cons sx sk .nil) 0 0 0 hs
        simp only [shf, sbf_cons, sbf_nil, binds0, Nat.add_zero, Nat.zero_add, F.cons.injEq, and_true] at hB
        have r0 : ∀ (sx : Cc), sbr 0 sx b ⟨1, n⟩ = shc (b : Int) 0 sx := fun sx => sbr_eq (by omega)
        have k0 : ∀ (sx : Cc) (sk k : F), sbk 0 sx sk b ⟨1, n⟩ k = shf (b : Int) sx.k 0 0 sk := fun sx sk k => sbk_eq _ (by omega)
        have r1 : ∀ (sx : Cc), sbr 1 sx b ⟨1, n⟩ = ⟨1, n⟩ := fun sx => sbr_lt (by omega)
        have k1 : ∀ (sx : Cc) (sk k : F), sbk 1 sx sk b ⟨1, n⟩ k = .nil := fun sx sk k => sbk_ne _ (by omega)
        simp only [r0, k0, r1, k1]
        rw [hB.1, hB.2]
      · by_cases h1 : n = (b : Int) + 1
        · have hC := sbf_over (ex := sbr 0 ux 0 sx) (ek := sbk 0 ux uk 0 sx sk) (d := b) (.cons ux uk .nil) 0 0 0 hu
          simp only [shf, sbf_cons, sbf_nil, binds0, Nat.add_zero, Nat.zero_add, F.cons.injEq, and_true] at hC
          have e1 : shc (b : Int) 0 (shc 1 0 ux) = shc ((b + 1 : Nat) : Int) 0 ux := by
            have := shc_shc (c := 1) (d := b) (j := 0) (f := 0) (by omega) (by omega) ux
            rw [show 1 + b = b + 1 by omega] at this
            exact this
          have e2 : shf (b : Int) ux.k 0 0 (shf 1 ux.k 0 0 uk) = shf ((b + 1 : Nat) : Int) ux.k 0 0 uk := by
            have := shf_shf (c := 1) (d := b) uk ux.k 0 0 0 (by omega) (by omega)
            rw [show 1 + b = b + 1 by omega] at this
            exact this
          have r0 : ∀ (sx : Cc), sbr 0 sx b ⟨1, n⟩ = ⟨1, (b : Int)⟩ := fun sx => by rw [sbr_gt (by omega)]; congr 1; omega
          have k0 : ∀ (sx : Cc) (sk k : F), sbk 0 sx sk b ⟨1, n⟩ k = .nil := fun sx sk k => sbk_ne _ (by omega)
          have r2 : ∀ (sx : Cc), sbr 0 sx b ⟨1, (b : Int)⟩ = shc (b : Int) 0 sx := fun sx => sbr_eq (by omega)
          have k2 : ∀ (sx : Cc) (sk k : F), sbk 0 sx sk b ⟨1, (b : Int)⟩ k = shf (b : Int) sx.k 0 0 sk := fun sx sk k => sbk_eq _ (by omega)
          have r1 : ∀ (sx : Cc), sbr 1 sx b ⟨1, n⟩ = shc (b : Int) 0 sx := fun sx => sbr_eq (by omega)
          have k1 : ∀ (sx : Cc) (sk k : F), sbk 1 sx sk b ⟨1, n⟩ k = shf (b : Int) sx.k 0 0 sk := fun sx sk k => sbk_eq _ (by omega)
          simp only [r0, k0, r1, k1, r2, k2, shc_kV, e1, e2]
          rw [hC.1, hC.2]
        · have r0 : ∀ (K : Nat) (sx : Cc), K ≤ 1 → sbr K sx b ⟨1, n⟩ = ⟨1, n - 1⟩ := fun K sx hK => sbr_gt (by omega)
          have k0 : ∀ (K : Nat) (sx : Cc) (sk k : F), K ≤ 1 → sbk K sx sk b ⟨1, n⟩ k = .nil := fun K sx sk k hK => sbk_ne _ (by omega)
          have r2 : ∀ (sx : Cc), sbr 0 sx b ⟨1, n - 1⟩ = ⟨1, n - 1 - 1⟩ := fun sx => sbr_gt (by omega)
          have k2 : ∀ (sx : Cc) (sk k : F), sbk 0 sx sk b ⟨1, n - 1⟩ k = .nil := fun sx sk k => sbk_ne _ (by omega)
          simp only [r0 0 _ (by omega), r0 1 _ (by omega), k0 0 _ _ _ (by omega), k0 1 _ _ _ (by omega), r2, k2]
    · rw [sbr_no hx, sbk_no hx, sbr_no hx, sbk_no hx, sbr_no hx, sbk_no hx, sbr_no hx, sbk_no hx, sbf_sbf hs hu k x.k b 0 hk]
theorem ok_nv : ∀ {a : F}, a.ok → a.nv
  | .nil, _ => trivial
  | .cons x k r, h => ⟨fun hx => ⟨F.len_0 (by rw [h.2.1, hx]; rfl), by
      have := h.1
      unfold goodC at this
      simp [hx, inB] at this
      omega⟩, ok_nv h.2.2.1, ok_nv h.2.2.2⟩

/-- A variable that is bound nowhere. -/
def hv (pk : Int) (d : Nat) : Nat → F → Int → Prop
  | _, .nil, _ => False
  | i, .cons x k r, n => (x.k = 1 ∧ x.n = n + ((d + binds pk i : Nat) : Int)) ∨ hv x.k (d + binds pk i) 0 k n ∨ hv pk d (i + 1) r n
theorem mem_putV (l : List Int) (n m : Int) : m ∈ put l n ↔ m = n ∨ m ∈ l := by
  unfold put
  split
  · rename_i h
    constructor
    · exact .inr
    · rintro (rfl | h2)
      · exact List.mem_of_getElem? h
      · exact h2
  · constructor
    · intro h
      rcases List.mem_append.1 h with h | h
      · exact .inr (List.mem_of_mem_take h)
      · rcases List.mem_cons.1 h with h | h
        · exact .inl h
        · exact .inr (List.mem_of_mem_drop h)
    · rintro (rfl | h)
      · simp
      · rw [← List.take_append_drop (putAt l n) l] at h
        rcases List.mem_append.1 h with h | h
        · exact List.mem_append.2 (.inl h)
        · exact List.mem_append.2 (.inr (List.mem_cons_of_mem _ h))
theorem mem_fre : ∀ (a : F) (pk : Int) (d i : Nat) (o : List Int) (n : Int), a.nv → 0 ≤ n → (n ∈ fre pk d i a o ↔ n ∈ o ∨ hv pk d i a n)
  | .nil, pk, d, i, o, n, _, _ => by simp [fre, hv]
  | .cons x k r, pk, d, i, o, n, ⟨hx, hk, hr⟩, hn => by
    rw [fre_cons, mem_fre r pk d (i + 1) _ n hr hn]
    unfold fr1
    simp only [hv]
    split
    · rename_i h
      obtain ⟨rfl, -⟩ := hx h.1
      rw [mem_putV]
      simp only [hv, false_or]
      constructor
      · rintro ((h1 | h1) | h1)
        · exact .inr (.inl ⟨h.1, by omega⟩)
        · exact .inl h1
        · exact .inr (.inr h1)
      · rintro (h1 | ⟨-, h1⟩ | h1)
        · exact .inl (.inr h1)
        · exact .inl (.inl (by omega))
        · exact .inr h1
    · rename_i h
      rw [mem_fre k x.k _ 0 o n hk hn]
      constructor
      · rintro ((h1 | h1) | h1)
        · exact .inl h1
        · exact .inr (.inr (.inl h1))
        · exact .inr (.inr (.inr h1))
      · rintro (h1 | ⟨h2, h1⟩ | h1 | h1)
        · exact .inl (.inl h1)
        · exact absurd ⟨h2, by omega⟩ h
        · exact .inl (.inr h1)
        · exact .inr h1
theorem fre_pos : ∀ (a : F) (pk : Int) (d i : Nat) (o : List Int), (∀ n ∈ o, (0 : Int) ≤ n) → ∀ n ∈ fre pk d i a o, (0 : Int) ≤ n
  | .nil, pk, d, i, o, ho, n, h => ho n h
  | .cons x k r, pk, d, i, o, ho, n, h => by
    rw [fre_cons] at h
    refine fre_pos r pk d (i + 1) _ (fun m hm => ?_) n h
    unfold fr1 at hm
    split at hm
    · rename_i h2
      rcases (mem_putV _ _ _).1 hm with h3 | h3
      · omega
      · exact ho m h3
    · exact fre_pos k x.k _ 0 o ho m hm
theorem hv_shf {c : Nat} : ∀ (a : F) (pk : Int) (j i : Nat) (n : Int), 0 ≤ n → hv pk (c + j) i (shf (c : Int) pk j i a) n → hv pk j i a n
  | .nil, _, _, _, _, _, h => h
  | .cons x k r, pk, j, i, n, hn, h => by
    simp only [shf, hv, shc_kV] at h ⊢
    rw [show c + j + binds pk i = c + (j + binds pk i) by omega] at h
    rcases h with ⟨h1, h2⟩ | h | h
    · refine .inl ⟨h1, ?_⟩
      obtain ⟨xk, xn⟩ := x
      simp only at h1
      subst h1
      by_cases hc : xn < ((j + binds pk i : Nat) : Int)
      · rw [shc_lt hc] at h2; simp only at h2 ⊢; omega
      · rw [shc_ge (by omega)] at h2; simp only at h2 ⊢; omega
    · exact .inr (.inl (hv_shf k x.k _ 0 n hn h))
    · exact .inr (.inr (hv_shf r pk j (i + 1) n hn h))
/-- Which variables what is put together has. -/
theorem hv_sbf {K : Nat} {sx : Cc} {sk : F} : ∀ (a : F) (pk : Int) (d i : Nat) (n : Int), 0 ≤ n → a.nv → hv pk d i (sbf K sx sk pk d i a) n →
    (hv pk d i a n ∧ n < (K : Int)) ∨ (hv pk d i a (n + 1) ∧ (K : Int) ≤ n) ∨ (hv pk d i a (K : Int) ∧ hv 0 0 0 (.cons sx sk .nil) n)
  | .nil, _, _, _, _, _, _, h => absurd h id
  | .cons x k r, pk, d, i, n, hn, ⟨hx, hk, hr⟩, h => by
    have hR := fun h => hv_sbf (K := K) (sx := sx) (sk := sk) r pk d (i + 1) n hn hr h
    have hQ := fun (c : Nat) (h : hv x.k c 0 (sbf K sx sk x.k c 0 k) n) => hv_sbf (K := K) (sx := sx) (sk := sk) k x.k c 0 n hn hk h
    obtain ⟨Z, hZ⟩ : ∃ Z, Z = hv 0 0 0 (.cons sx sk .nil) n := ⟨_, rfl⟩
    rw [← hZ]
    simp only [← hZ] at hR hQ
    simp only [sbf_cons, hv] at h ⊢
    obtain ⟨b, hb⟩ : ∃ b, b = d + binds pk i := ⟨_, rfl⟩
    rw [← hb] at h ⊢
    by_cases hx1 : x.k = 1
    · obtain ⟨rfl, hn0⟩ := hx hx1
      obtain ⟨xk, m⟩ := x
      simp only at hx1 hn0
      subst hx1
      rcases Int.lt_trichotomy m ((K : Int) + (b : Int)) with h1 | h1 | h1
      · rw [sbr_lt h1, sbk_ne _ (by omega)] at h
        rcases h with h | h | h
        · exact .inl ⟨.inl h, by have := h.2; simp only at this; omega⟩
        · exact absurd h id
        · rcases hR h with h | h | h
          · exact .inl ⟨.inr (.inr h.1), h.2⟩
          · exact .inr (.inl ⟨.inr (.inr h.1), h.2⟩)
          · exact .inr (.inr ⟨.inr (.inr h.1), h.2⟩)
      · rw [sbr_eq h1, sbk_eq _ h1, shc_kV] at h
        have hs : hv 0 (b + 0) 0 (shf (b : Int) 0 0 0 (.cons sx sk .nil)) n → Z := fun h => by rw [hZ]; exact hv_shf _ 0 0 0 n hn h
        simp only [shf, hv, binds0, Nat.add_zero, shc_kV, or_false] at hs
        rcases h with h | h | h
        · exact .inr (.inr ⟨.inl ⟨rfl, by simp only; omega⟩, hs (.inl h)⟩)
        · exact .inr (.inr ⟨.inl ⟨rfl, by simp only; omega⟩, hs (.inr h)⟩)
        · rcases hR h with h | h | h
          · exact .inl ⟨.inr (.inr h.1), h.2⟩
          · exact .inr (.inl ⟨.inr (.inr h.1), h.2⟩)
          · exact .inr (.inr ⟨.inr (.inr h.1), h.2⟩)
      · rw [sbr_gt h1, sbk_ne _ (by omega)] at h
        rcases h with h | h | h
        · exact .inr (.inl ⟨.inl ⟨rfl, by have := h.2; simp only at this ⊢; omega⟩, by have := h.2; simp only at this; omega⟩)
        · exact absurd h id
        · rcases hR h with h | h | h
          · exact .inl ⟨.inr (.inr h.1), h.2⟩
          · exact .inr (.inl ⟨.inr (.inr h.1), h.2⟩)
          · exact .inr (.inr ⟨.inr (.inr h.1), h.2⟩)
    · rw [sbr_no hx1, sbk_no hx1] at h
      rcases h with h | h | h
      · exact absurd h.1 hx1
      · rcases hQ b h with h | h | h
        · exact .inl ⟨.inr (.inl h.1), h.2⟩
        · exact .inr (.inl ⟨.inr (.inl h.1), h.2⟩)
        · exact .inr (.inr ⟨.inr (.inl h.1), h.2⟩)
      · rcases hR h with h | h | h
        · exact .inl ⟨.inr (.inr h.1), h.2⟩
        · exact .inr (.inl ⟨.inr (.inr h.1), h.2⟩)
        · exact .inr (.inr ⟨.inr (.inr h.1), h.2⟩)
end Go.Proofs.Ytjmgnljjeogdlaa.W

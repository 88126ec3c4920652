/-
  Some texts of this proof in one: TeD, TeE.
-/
import Derived.Test.YtjmgnljjeogdlaaTeC
import Derived.Test.YtjmgnljjeogdlaaJf
/-
  A whole term told as cells, and whether they are good: contracts of goodCells. Conditions: as the theorems state.
-/
namespace Go.Proofs.Ytjmgnljjeogdlaa.W
open Go.ChangeShapes Go.WideShapes Go.ChangeAt Go.RowKit
set_option linter.unusedVariables false

/-- Terms of a form that parts can have. -/
def F.fit : F → Prop
  | .nil => True
  | .cons x k r => inB x.k 1 7 = true ∧ (3 ≤ x.k → x.n = 0) ∧ k.len = ar x.k ∧ k.fit ∧ r.fit
theorem F.app_fit : ∀ a b : F, (a.app b).fit ↔ a.fit ∧ b.fit
  | .nil, b => by simp [F.app, F.fit]
  | .cons x k r, b => by simp [F.app, F.fit, F.app_fit r b, and_assoc]
theorem F.ok_fit : ∀ {a : F}, a.ok → a.fit
  | .nil, _ => trivial
  | .cons x k r, h => by
    obtain ⟨h1, h2, h3, h4⟩ := ok_cons h
    refine ⟨good_ar h1, fun h => ?_, h2, F.ok_fit h3, F.ok_fit h4⟩
    unfold goodC at h1
    rw [if_neg (by omega), if_neg (by omega)] at h1
    simp only [Bool.and_eq_true, decide_eq_true_eq] at h1
    exact h1.1

def MCGoal (k : F) : Prop := ∀ x : Cc, (F.cons x k .nil).fit → MC (pv x.k x.n (pvs k)) (x :: k.flat)
theorem mc_any : ∀ k, MCGoal k := by
  apply F.rec_kids
  intro k ih x hfit
  obtain ⟨xk, xn⟩ := x
  obtain ⟨h1, h2, h3, h4, -⟩ := hfit
  simp only [inB, Bool.and_eq_true, decide_eq_true_eq] at h1 h2 h3
  have hx : xk = 1 ∨ xk = 2 ∨ xk = 3 ∨ xk = 4 ∨ xk = 5 ∨ xk = 6 ∨ xk = 7 := by omega
  rcases hx with h | h | h | h | h | h | h
  · subst h
    have hk0 : k = .nil := F.len_0 (by rw [h3]; rfl)
    subst hk0
    exact ⟨_, _, _, rfl, cm_var _, cf_var, fun base n xs v w ho hn hb => mc_var xn base n xs v w ho hn hb⟩
  · subst h
    have hk0 : k = .nil := F.len_0 (by rw [h3]; rfl)
    subst hk0
    exact ⟨_, _, _, rfl, cm_num _, cf_num, fun base n xs v w ho hn hb => mc_num xn base n xs v w ho hn hb⟩
  · subst h
    obtain rfl : xn = 0 := h2 (by omega)
    obtain ⟨y0, k0, rfl⟩ := F.len_1 (show k.len = 1 by rw [h3]; rfl)
    obtain ⟨p0, q0, r0, s0, -⟩ := h4
    have i0 := ih.1 y0 ⟨p0, q0, r0, s0, trivial⟩
    refine ⟨_, _, _, rfl, cm_lam _, cf_lam, fun base n xs v w ho hn hb => ?_⟩
    have := mc_lam _ _ i0 base n xs v w ho (by simp [F.flat] at hn ⊢; omega) hb
    refine this.mono fun e w' ⟨v', he, hw, hg, ha⟩ => ⟨v', he, ?_, hg, ha⟩
    simp only [F.flat, List.length_cons, List.append_nil] at hw ⊢
    rw [show n + (k0.flat.length + 1 + 1) = n + (1 + (k0.flat.length + 1)) by omega]
    exact hw
  · subst h
    obtain rfl : xn = 0 := h2 (by omega)
    obtain ⟨y0, k0, y1, k1, rfl⟩ := F.len_2 (show k.len = 2 by rw [h3]; rfl)
    obtain ⟨p0, q0, r0, s0, p1, q1, r1, s1, -⟩ := h4
    have i0 := ih.1 y0 ⟨p0, q0, r0, s0, trivial⟩
    have i1 := ih.2.1 y1 ⟨p1, q1, r1, s1, trivial⟩
    refine ⟨_, _, _, rfl, cm_app _, cf_app, fun base n xs v w ho hn hb => ?_⟩
    have := mc_app _ _ i0 _ _ i1 base n xs v w ho (by simp [F.flat] at hn ⊢; omega) hb
    refine this.mono fun e w' ⟨v', he, hw, hg, ha⟩ => ⟨v', he, ?_, hg, ha⟩
    have e1 : (⟨4, 0⟩ :: (F.cons y0 k0 (.cons y1 k1 .nil)).flat : List Cc) = ⟨4, 0⟩ :: ((y0 :: k0.flat) ++ (y1 :: k1.flat)) := by simp [F.flat]
    rw [e1]
    have e2 : (⟨4, 0⟩ :: ((y0 :: k0.flat) ++ (y1 :: k1.flat)) : List Cc).length = 1 + (y0 :: k0.flat).length + (y1 :: k1.flat).length := by simp; omega
    rw [e2]
    exact hw
  · subst h
    obtain rfl : xn = 0 := h2 (by omega)
    obtain ⟨y0, k0, y1, k1, rfl⟩ := F.len_2 (show k.len = 2 by rw [h3]; rfl)
    obtain ⟨p0, q0, r0, s0, p1, q1, r1, s1, -⟩ := h4
    have i0 := ih.1 y0 ⟨p0, q0, r0, s0, trivial⟩
    have i1 := ih.2.1 y1 ⟨p1, q1, r1, s1, trivial⟩
    refine ⟨_, _, _, rfl, cm_add _, cf_add, fun base n xs v w ho hn hb => ?_⟩
    have := mc_add _ _ i0 _ _ i1 base n xs v w ho (by simp [F.flat] at hn ⊢; omega) hb
    refine this.mono fun e w' ⟨v', he, hw, hg, ha⟩ => ⟨v', he, ?_, hg, ha⟩
    have e1 : (⟨5, 0⟩ :: (F.cons y0 k0 (.cons y1 k1 .nil)).flat : List Cc) = ⟨5, 0⟩ :: ((y0 :: k0.flat) ++ (y1 :: k1.flat)) := by simp [F.flat]
    rw [e1]
    have e2 : (⟨5, 0⟩ :: ((y0 :: k0.flat) ++ (y1 :: k1.flat)) : List Cc).length = 1 + (y0 :: k0.flat).length + (y1 :: k1.flat).length := by simp; omega
    rw [e2]
    exact hw
  · subst h
    obtain rfl : xn = 0 := h2 (by omega)
    obtain ⟨y0, k0, y1, k1, y2, k2, rfl⟩ := F.len_3 (show k.len = 3 by rw [h3]; rfl)
    obtain ⟨p0, q0, r0, s0, p1, q1, r1, s1, p2, q2, r2, s2, -⟩ := h4
    have i0 := ih.1 y0 ⟨p0, q0, r0, s0, trivial⟩
    have i1 := ih.2.1 y1 ⟨p1, q1, r1, s1, trivial⟩
    have i2 := ih.2.2.1 y2 ⟨p2, q2, r2, s2, trivial⟩
    refine ⟨_, _, _, rfl, cm_if _, cf_if, fun base n xs v w ho hn hb => ?_⟩
    have := mc_if _ _ i0 _ _ i1 _ _ i2 base n xs v w ho (by simp [F.flat] at hn ⊢; omega) hb
    refine this.mono fun e w' ⟨v', he, hw, hg, ha⟩ => ⟨v', he, ?_, hg, ha⟩
    have e1 : (⟨6, 0⟩ :: (F.cons y0 k0 (.cons y1 k1 (.cons y2 k2 .nil))).flat : List Cc) = ⟨6, 0⟩ :: ((y0 :: k0.flat) ++ (y1 :: k1.flat) ++ (y2 :: k2.flat)) := by simp [F.flat]
    rw [e1]
    have e2 : (⟨6, 0⟩ :: ((y0 :: k0.flat) ++ (y1 :: k1.flat) ++ (y2 :: k2.flat)) : List Cc).length = 1 + (y0 :: k0.flat).length + (y1 :: k1.flat).length + (y2 :: k2.flat).length := by simp; omega
    rw [e2]
    exact hw
  · subst h
    obtain rfl : xn = 0 := h2 (by omega)
    obtain ⟨y0, k0, y1, k1, rfl⟩ := F.len_2 (show k.len = 2 by rw [h3]; rfl)
    obtain ⟨p0, q0, r0, s0, p1, q1, r1, s1, -⟩ := h4
    have i0 := ih.1 y0 ⟨p0, q0, r0, s0, trivial⟩
    have i1 := ih.2.1 y1 ⟨p1, q1, r1, s1, trivial⟩
    refine ⟨_, _, _, rfl, cm_let _, cf_let, fun base n xs v w ho hn hb => ?_⟩
    have := mc_let _ _ i0 _ _ i1 base n xs v w ho (by simp [F.flat] at hn ⊢; omega) hb
    refine this.mono fun e w' ⟨v', he, hw, hg, ha⟩ => ⟨v', he, ?_, hg, ha⟩
    have e1 : (⟨7, 0⟩ :: (F.cons y0 k0 (.cons y1 k1 .nil)).flat : List Cc) = ⟨7, 0⟩ :: ((y0 :: k0.flat) ++ (y1 :: k1.flat)) := by simp [F.flat]
    rw [e1]
    have e2 : (⟨7, 0⟩ :: ((y0 :: k0.flat) ++ (y1 :: k1.flat)) : List Cc).length = 1 + (y0 :: k0.flat).length + (y1 :: k1.flat).length := by simp; omega
    rw [e2]
    exact hw

theorem mcT {a : F} (h : a.fit) (h1 : a.len = 1) : MC (pvT a) a.flat := by
  obtain ⟨x, k, rfl⟩ := F.len_1 h1
  have := mc_any k x h
  simpa [F.flat, pvT] using this

theorem cv_get : ∀ (l : List Cc) (i : Nat) (h : i < l.length), (cv l)[i * 2]? = some (.int .i64 l[i].k) ∧ (cv l)[i * 2 + 1]? = some (.int .i64 l[i].n)
  | x :: l, 0, h => ⟨rfl, rfl⟩
  | x :: l, i + 1, h => by
    have := cv_get l i (by simpa using h)
    rw [show (i + 1) * 2 = i * 2 + 1 + 1 by omega, show i * 2 + 1 + 1 + 1 = (i * 2 + 1) + 1 + 1 by omega]
    simpa [cv] using this
theorem cOwn_row {w : World} {base : Nat} {e : TypeId} {v : Value} {l : List Cc} (h : w.ownsRow base e 2 v l.length (cv l)) : ∃ ad c, v = .slice ad l.length c ∧ l.length ≤ c ∧ CRow w ad l := by
  rcases h.2 with ⟨h1, h2⟩ | ⟨g, cap, cur, hv, hg, hh, h1, h2, h3, h4⟩
  · exact ⟨none, 0, by rw [h1, h2], by omega, .inl (List.eq_nil_of_length_eq_zero h2)⟩
  · refine ⟨_, cap, hv, h1, .inr ⟨g, 0, rfl, (Array.getElem?_eq_some_iff.1 hh).1, fun i hi => ?_⟩⟩
    obtain ⟨a0, a1⟩ := cv_get l i hi
    have b : ∀ j, j < l.length * 2 → cur[j]? = (cv l)[j]? := fun j hj => by rw [← h4, List.getElem?_take_of_lt hj]; simp
    refine ⟨?_, ?_⟩
    · rw [cell_of_blk hh, Nat.zero_add, b _ (by omega)]; exact a0
    · rw [cell_of_blk hh, Nat.zero_add, b _ (by omega)]; exact a1

/-- The cells that are told where they are good. -/
def gd (cs : List Cc) : List Cc := if goodT cs = true then cs else []

set_option maxRecDepth 20000 in
set_option maxHeartbeats 1000000 in
theorem goodCells_any (V : Value) (cs : List Cc) (h : MC V cs) (hl : cs.length ≤ 1048576) (w : World) :
    Calls Try.prog 34 #[V] w fun e w' => ∃ s', e = .returned (.tuple #[s', .bool (goodT cs)]) ∧ w'.ownsRow w.heap.size 62 2 s' (gd cs).length (cv (gd cs)) ∧ Below w.heap.size w w' := by
  obtain ⟨T, u, f, rfl, hm, hf, hc⟩ := h
  have HC := hide (hc w.heap.size 0 [] (.slice none 0 0) w (World.ownsRow_nil _ _ _ _) (by omega) (Nat.le_refl _))
  have HG := hide (fun (ad : Option Addr) (c : Nat) (w : World) (h : CRow w ad cs) => implGoodT_any ad c cs w hl h)
  clear hc
  by_cases hgd : goodT cs = true
  · have e1 : gd cs = cs := if_pos hgd
    rw [e1, hgd]
    rw [hgd] at HG
    clear hgd e1
    go_enter Try.func34, Try.ntmps34
    go_wp2_with fail
    refine Calls.mono HC.out ?_
    rintro e w1 ⟨v1, rfl, ho1, hg1, -⟩
    rw [Nat.zero_add, List.nil_append] at ho1
    obtain ⟨ad, c, rfl, hlc, hR⟩ := cOwn_row ho1
    have HO := hide ho1
    have HR := hide hR
    have hB1 : Below w.heap.size w w1 := ⟨hg1.os, hg1.tape, hg1.output, hg1.size, fun k hk => hg1.block k hk (by simp [Value.ownBlock])⟩
    clear ho1 hR hg1
    go_wp2_with fail
    refine (HG.out _ _ _ HR.out).mono ?_
    rintro e w2 ⟨rfl, hb2⟩
    have hB2 : Below w.heap.size w w2 := hB1.trans (hb2.mono hB1.size)
    have HO2 := hide (tOwn_keep HO.out (fun k _ hk => hb2.block k hk))
    clear hb2
    go_wp2_with fail
    exact bodyPost_ret (v := .tuple #[.slice ad cs.length c, .bool true]) (by simp [results, Try.results34, go_sem]) rfl ⟨_, rfl, HO2.out, hB2⟩
  · have e1 : gd cs = [] := if_neg hgd
    rw [Bool.not_eq_true] at hgd
    rw [e1, hgd]
    rw [hgd] at HG
    clear hgd e1
    go_enter Try.func34, Try.ntmps34
    go_wp2_with fail
    refine Calls.mono HC.out ?_
    rintro e w1 ⟨v1, rfl, ho1, hg1, -⟩
    rw [Nat.zero_add, List.nil_append] at ho1
    obtain ⟨ad, c, rfl, hlc, hR⟩ := cOwn_row ho1
    have HO := hide ho1
    have HR := hide hR
    have hB1 : Below w.heap.size w w1 := ⟨hg1.os, hg1.tape, hg1.output, hg1.size, fun k hk => hg1.block k hk (by simp [Value.ownBlock])⟩
    clear ho1 hR hg1
    go_wp2_with fail
    refine (HG.out _ _ _ HR.out).mono ?_
    rintro e w2 ⟨rfl, hb2⟩
    have hB2 : Below w.heap.size w w2 := hB1.trans (hb2.mono hB1.size)
    have HO2 := hide (tOwn_keep HO.out (fun k _ hk => hb2.block k hk))
    clear hb2
    go_wp2_with fail
    exact bodyPost_ret (v := .tuple #[.slice none 0 0, .bool false]) (by simp [results, Try.results34, go_sem]) rfl ⟨_, rfl, World.ownsRow_nil _ _ _ _, hB2⟩
end Go.Proofs.Ytjmgnljjeogdlaa.W

/-
  The variables that are bound nowhere, by the specification: contracts of l3Free and FreeIn. Conditions: at most 1048576 cells.
-/
namespace Go.Proofs.Ytjmgnljjeogdlaa.W
open Go.ChangeShapes Go.WideShapes Go.ChangeAt Go.RowKit
set_option linter.unusedVariables false

theorem belowDrew {B : Nat} {x y : World} (h : Below B x y) : Below B x y.drew := ⟨h.os, h.tape, h.output, h.size, h.block⟩
theorem put_len (l : List Int) (n : Int) : (put l n).length ≤ l.length + 1 := by
  unfold put
  split
  · omega
  · simp; omega
/-- The variables of terms that are bound nowhere, put into a list. -/
def fre (pk : Int) (d : Nat) : Nat → F → List Int → List Int
  | _, .nil, o => o
  | i, .cons x k r, o => fre pk d (i + 1) r (if x.k = 1 ∧ ((d + binds pk i : Nat) : Int) ≤ x.n then put o (x.n - ((d + binds pk i : Nat) : Int)) else fre x.k (d + binds pk i) 0 k o)
def fr1 (d : Nat) (x : Cc) (k : F) (o : List Int) : List Int := if x.k = 1 ∧ (d : Int) ≤ x.n then put o (x.n - (d : Int)) else fre x.k d 0 k o
theorem fre_cons (pk : Int) (d i : Nat) (x : Cc) (k r : F) (o : List Int) : fre pk d i (.cons x k r) o = fre pk d (i + 1) r (fr1 (d + binds pk i) x k o) := rfl
theorem fre_app (pk : Int) (d : Nat) : ∀ (a b : F) (i : Nat) (o : List Int), fre pk d i (a.app b) o = fre pk d (i + a.len) b (fre pk d i a o)
  | .nil, b, i, o => rfl
  | .cons x k r, b, i, o => by
    simp only [F.app, fre_cons, fre_app pk d r b, F.len]
    congr 1
    omega
theorem fre_len : ∀ (a : F) (pk : Int) (d i : Nat) (o : List Int), (fre pk d i a o).length ≤ o.length + a.flat.length
  | .nil, _, _, _, o => by simp [fre]
  | .cons x k r, pk, d, i, o => by
    rw [fre]
    refine Nat.le_trans (fre_len r _ _ _ _) ?_
    simp only [F.flat, List.length_cons, List.length_append]
    split
    · have := put_len o (x.n - ((d + binds pk i : Nat) : Int)); omega
    · have := fre_len k x.k (d + binds pk i) 0 o; omega

theorem good_n {x : Cc} (h : goodC x = true) : -1000000 ≤ x.n ∧ x.n ≤ 1000000 := by
  unfold goodC at h
  unfold inB at h
  split at h
  · simp at h; omega
  · split at h
    · simp at h; omega
    · simp at h; omega

/-- The variables that are bound nowhere. -/
def freT : F → List Int
  | .nil => []
  | .cons x k _ => fr1 0 x k []
end Go.Proofs.Ytjmgnljjeogdlaa.W

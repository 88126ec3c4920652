/-
  Some texts of this proof in one: TeD, TeE, TeT, TeI.
-/
import Derived.Test.YtjmgnljjeogdlaaTeC
import Derived.Test.YtjmgnljjeogdlaaJac
/-
  A whole term told as cells, and whether they are good: contracts of goodCells. Conditions: as the theorems state.
-/
namespace Go.Proofs.Ytjmgnljjeogdlaa.W
open Go.ChangeShapes Go.WideShapes Go.ChangeAt Go.RowKit
set_option linter.unusedVariables false

/-- Terms of a form that parts can have. -/
def F.fit : F → Prop
  | .nil => True
  | .cons x k r => inB x.k 1 7 = true ∧ (3 ≤ x.k → x.n = 0) ∧ k.len = ar x.k ∧ k.fit ∧ r.fit
theorem F.app_fit : ∀ a b : F, (a.app b).fit ↔ a.fit ∧ b.fit
  | .nil, b => by simp [F.app, F.fit]
  | .cons x k r, b => by simp [F.app, F.fit, F.app_fit r b, and_assoc]
theorem F.ok_fit : ∀ {a : F}, a.ok → a.fit
  | .nil, _ => trivial
  | .cons x k r, h => by
    obtain ⟨h1, h2, h3, h4⟩ := ok_cons h
    refine ⟨good_ar h1, fun h => ?_, h2, F.ok_fit h3, F.ok_fit h4⟩
    unfold goodC at h1
    rw [if_neg (by omega), if_neg (by omega)] at h1
    simp only [Bool.and_eq_true, decide_eq_true_eq] at h1
    exact h1.1

def MCGoal (k : F) : Prop := ∀ x : Cc, (F.cons x k .nil).fit → MC (pv x.k x.n (pvs k)) (x :: k.flat)
theorem mc_any : ∀ k, MCGoal k := by
  apply F.rec_kids
  intro k ih x hfit
  obtain ⟨xk, xn⟩ := x
  obtain ⟨h1, h2, h3, h4, -⟩ := hfit
  simp only [inB, Bool.and_eq_true, decide_eq_true_eq] at h1 h2 h3
  have hx : xk = 1 ∨ xk = 2 ∨ xk = 3 ∨ xk = 4 ∨ xk = 5 ∨ xk = 6 ∨ xk = 7 := by omega
  rcases hx with h | h | h | h | h | h | h
  · subst h
    have hk0 : k = .nil := F.len_0 (by rw [h3]; rfl)
    subst hk0
    exact ⟨_, _, _, rfl, cm_var _, cf_var, fun base n xs v w ho hn hb => mc_var xn base n xs v w ho hn hb⟩
  · subst h
    have hk0 : k = .nil := F.len_0 (by rw [h3]; rfl)
    subst hk0
    exact ⟨_, _, _, rfl, cm_num _, cf_num, fun base n xs v w ho hn hb => mc_num xn base n xs v w ho hn hb⟩
  · subst h
    obtain rfl : xn = 0 := h2 (by omega)
    obtain ⟨y0, k0, rfl⟩ := F.len_1 (show k.len = 1 by rw [h3]; rfl)
    obtain ⟨p0, q0, r0, s0, -⟩ := h4
    have i0 := ih.1 y0 ⟨p0, q0, r0, s0, trivial⟩
    refine ⟨_, _, _, rfl, cm_lam _, cf_lam, fun base n xs v w ho hn hb => ?_⟩
    have := mc_lam _ _ i0 base n xs v w ho (by simp [F.flat] at hn ⊢; omega) hb
    refine this.mono fun e w' ⟨v', he, hw, hg, ha⟩ => ⟨v', he, ?_, hg, ha⟩
    simp only [F.flat, List.length_cons, List.append_nil] at hw ⊢
    rw [show n + (k0.flat.length + 1 + 1) = n + (1 + (k0.flat.length + 1)) by omega]
    exact hw
  · subst h
    obtain rfl : xn = 0 := h2 (by omega)
    obtain ⟨y0, k0, y1, k1, rfl⟩ := F.len_2 (show k.len = 2 by rw [h3]; rfl)
    obtain ⟨p0, q0, r0, s0, p1, q1, r1, s1, -⟩ := h4
    have i0 := ih.1 y0 ⟨p0, q0, r0, s0, trivial⟩
    have i1 := ih.2.1 y1 ⟨p1, q1, r1, s1, trivial⟩
    refine ⟨_, _, _, rfl, cm_app _, cf_app, fun base n xs v w ho hn hb => ?_⟩
    have := mc_app _ _ i0 _ _ i1 base n xs v w ho (by simp [F.flat] at hn ⊢; omega) hb
    refine this.mono fun e w' ⟨v', he, hw, hg, ha⟩ => ⟨v', he, ?_, hg, ha⟩
    have e1 : (⟨4, 0⟩ :: (F.cons y0 k0 (.cons y1 k1 .nil)).flat : List Cc) = ⟨4, 0⟩ :: ((y0 :: k0.flat) ++ (y1 :: k1.flat)) := by simp [F.flat]
    rw [e1]
    have e2 : (⟨4, 0⟩ :: ((y0 :: k0.flat) ++ (y1 :: k1.flat)) : List Cc).length = 1 + (y0 :: k0.flat).length + (y1 :: k1.flat).length := by simp; omega
    rw [e2]
    exact hw
  · subst h
    obtain rfl : xn = 0 := h2 (by omega)
    obtain ⟨y0, k0, y1, k1, rfl⟩ := F.len_2 (show k.len = 2 by rw [h3]; rfl)
    obtain ⟨p0, q0, r0, s0, p1, q1, r1, s1, -⟩ := h4
    have i0 := ih.1 y0 ⟨p0, q0, r0, s0, trivial⟩
    have i1 := ih.2.1 y1 ⟨p1, q1, r1, s1, trivial⟩
    refine ⟨_, _, _, rfl, cm_add _, cf_add, fun base n xs v w ho hn hb => ?_⟩
    have := mc_add _ _ i0 _ _ i1 base n xs v w ho (by simp [F.flat] at hn ⊢; omega) hb
    refine this.mono fun e w' ⟨v', he, hw, hg, ha⟩ => ⟨v', he, ?_, hg, ha⟩
    have e1 : (⟨5, 0⟩ :: (F.cons y0 k0 (.cons y1 k1 .nil)).flat : List Cc) = ⟨5, 0⟩ :: ((y0 :: k0.flat) ++ (y1 :: k1.flat)) := by simp [F.flat]
    rw [e1]
    have e2 : (⟨5, 0⟩ :: ((y0 :: k0.flat) ++ (y1 :: k1.flat)) : List Cc).length = 1 + (y0 :: k0.flat).length + (y1 :: k1.flat).length := by simp; omega
    rw [e2]
    exact hw
  · subst h
    obtain rfl : xn = 0 := h2 (by omega)
    obtain ⟨y0, k0, y1, k1, y2, k2, rfl⟩ := F.len_3 (show k.len = 3 by rw [h3]; rfl)
    obtain ⟨p0, q0, r0, s0, p1, q1, r1, s1, p2, q2, r2, s2, -⟩ := h4
    have i0 := ih.1 y0 ⟨p0, q0, r0, s0, trivial⟩
    have i1 := ih.2.1 y1 ⟨p1, q1, r1, s1, trivial⟩
    have i2 := ih.2.2.1 y2 ⟨p2, q2, r2, s2, trivial⟩
    refine ⟨_, _, _, rfl, cm_if _, cf_if, fun base n xs v w ho hn hb => ?_⟩
    have := mc_if _ _ i0 _ _ i1 _ _ i2 base n xs v w ho (by simp [F.flat] at hn ⊢; omega) hb
    refine this.mono fun e w' ⟨v', he, hw, hg, ha⟩ => ⟨v', he, ?_, hg, ha⟩
    have e1 : (⟨6, 0⟩ :: (F.cons y0 k0 (.cons y1 k1 (.cons y2 k2 .nil))).flat : List Cc) = ⟨6, 0⟩ :: ((y0 :: k0.flat) ++ (y1 :: k1.flat) ++ (y2 :: k2.flat)) := by simp [F.flat]
    rw [e1]
    have e2 : (⟨6, 0⟩ :: ((y0 :: k0.flat) ++ (y1 :: k1.flat) ++ (y2 :: k2.flat)) : List Cc).length = 1 + (y0 :: k0.flat).length + (y1 :: k1.flat).length + (y2 :: k2.flat).length := by simp; omega
    rw [e2]
    exact hw
  · subst h
    obtain rfl : xn = 0 := h2 (by omega)
    obtain ⟨y0, k0, y1, k1, rfl⟩ := F.len_2 (show k.len = 2 by rw [h3]; rfl)
    obtain ⟨p0, q0, r0, s0, p1, q1, r1, s1, -⟩ := h4
    have i0 := ih.1 y0 ⟨p0, q0, r0, s0, trivial⟩
    have i1 := ih.2.1 y1 ⟨p1, q1, r1, s1, trivial⟩
    refine ⟨_, _, _, rfl, cm_let _, cf_let, fun base n xs v w ho hn hb => ?_⟩
    have := mc_let _ _ i0 _ _ i1 base n xs v w ho (by simp [F.flat] at hn ⊢; omega) hb
    refine this.mono fun e w' ⟨v', he, hw, hg, ha⟩ => ⟨v', he, ?_, hg, ha⟩
    have e1 : (⟨7, 0⟩ :: (F.cons y0 k0 (.cons y1 k1 .nil)).flat : List Cc) = ⟨7, 0⟩ :: ((y0 :: k0.flat) ++ (y1 :: k1.flat)) := by simp [F.flat]
    rw [e1]
    have e2 : (⟨7, 0⟩ :: ((y0 :: k0.flat) ++ (y1 :: k1.flat)) : List Cc).length = 1 + (y0 :: k0.flat).length + (y1 :: k1.flat).length := by simp; omega
    rw [e2]
    exact hw

theorem mcT {a : F} (h : a.fit) (h1 : a.len = 1) : MC (pvT a) a.flat := by
  obtain ⟨x, k, rfl⟩ := F.len_1 h1
  have := mc_any k x h
  simpa [F.flat, pvT] using this

theorem cv_get : ∀ (l : List Cc) (i : Nat) (h : i < l.length), (cv l)[i * 2]? = some (.int .i64 l[i].k) ∧ (cv l)[i * 2 + 1]? = some (.int .i64 l[i].n)
  | x :: l, 0, h => ⟨rfl, rfl⟩
  | x :: l, i + 1, h => by
    have := cv_get l i (by simpa using h)
    rw [show (i + 1) * 2 = i * 2 + 1 + 1 by omega, show i * 2 + 1 + 1 + 1 = (i * 2 + 1) + 1 + 1 by omega]
    simpa [cv] using this
theorem cOwn_row {w : World} {base : Nat} {e : TypeId} {v : Value} {l : List Cc} (h : w.ownsRow base e 2 v l.length (cv l)) : ∃ ad c, v = .slice ad l.length c ∧ l.length ≤ c ∧ CRow w ad l := by
  rcases h.2 with ⟨h1, h2⟩ | ⟨g, cap, cur, hv, hg, hh, h1, h2, h3, h4⟩
  · exact ⟨none, 0, by rw [h1, h2], by omega, .inl (List.eq_nil_of_length_eq_zero h2)⟩
  · refine ⟨_, cap, hv, h1, .inr ⟨g, 0, rfl, (Array.getElem?_eq_some_iff.1 hh).1, fun i hi => ?_⟩⟩
    obtain ⟨a0, a1⟩ := cv_get l i hi
    have b : ∀ j, j < l.length * 2 → cur[j]? = (cv l)[j]? := fun j hj => by rw [← h4, List.getElem?_take_of_lt hj]; simp
    refine ⟨?_, ?_⟩
    · rw [cell_of_blk hh, Nat.zero_add, b _ (by omega)]; exact a0
    · rw [cell_of_blk hh, Nat.zero_add, b _ (by omega)]; exact a1

/-- The cells that are told where they are good. -/
def gd (cs : List Cc) : List Cc := if goodT cs = true then cs else []

set_option maxRecDepth 20000 in
set_option maxHeartbeats 1000000 in
theorem goodCells_any (V : Value) (cs : List Cc) (h : MC V cs) (hl : cs.length ≤ 1048576) (w : World) :
    Calls Try.prog 34 #[V] w fun e w' => ∃ s', e = .returned (.tuple #[s', .bool (goodT cs)]) ∧ w'.ownsRow w.heap.size 62 2 s' (gd cs).length (cv (gd cs)) ∧ Below w.heap.size w w' := by
  obtain ⟨T, u, f, rfl, hm, hf, hc⟩ := h
  have HC := hide (hc w.heap.size 0 [] (.slice none 0 0) w (World.ownsRow_nil _ _ _ _) (by omega) (Nat.le_refl _))
  have HG := hide (fun (ad : Option Addr) (c : Nat) (w : World) (h : CRow w ad cs) => implGoodT_any ad c cs w hl h)
  clear hc
  by_cases hgd : goodT cs = true
  · have e1 : gd cs = cs := if_pos hgd
    rw [e1, hgd]
    rw [hgd] at HG
    clear hgd e1
    go_enter Try.func34, Try.ntmps34
    go_wp2_with fail
    refine Calls.mono HC.out ?_
    rintro e w1 ⟨v1, rfl, ho1, hg1, -⟩
    rw [Nat.zero_add, List.nil_append] at ho1
    obtain ⟨ad, c, rfl, hlc, hR⟩ := cOwn_row ho1
    have HO := hide ho1
    have HR := hide hR
    have hB1 : Below w.heap.size w w1 := ⟨hg1.os, hg1.tape, hg1.output, hg1.size, fun k hk => hg1.block k hk (by simp [Value.ownBlock])⟩
    clear ho1 hR hg1
    go_wp2_with fail
    refine (HG.out _ _ _ HR.out).mono ?_
    rintro e w2 ⟨rfl, hb2⟩
    have hB2 : Below w.heap.size w w2 := hB1.trans (hb2.mono hB1.size)
    have HO2 := hide (tOwn_keep HO.out (fun k _ hk => hb2.block k hk))
    clear hb2
    go_wp2_with fail
    exact bodyPost_ret (v := .tuple #[.slice ad cs.length c, .bool true]) (by simp [results, Try.results34, go_sem]) rfl ⟨_, rfl, HO2.out, hB2⟩
  · have e1 : gd cs = [] := if_neg hgd
    rw [Bool.not_eq_true] at hgd
    rw [e1, hgd]
    rw [hgd] at HG
    clear hgd e1
    go_enter Try.func34, Try.ntmps34
    go_wp2_with fail
    refine Calls.mono HC.out ?_
    rintro e w1 ⟨v1, rfl, ho1, hg1, -⟩
    rw [Nat.zero_add, List.nil_append] at ho1
    obtain ⟨ad, c, rfl, hlc, hR⟩ := cOwn_row ho1
    have HO := hide ho1
    have HR := hide hR
    have hB1 : Below w.heap.size w w1 := ⟨hg1.os, hg1.tape, hg1.output, hg1.size, fun k hk => hg1.block k hk (by simp [Value.ownBlock])⟩
    clear ho1 hR hg1
    go_wp2_with fail
    refine (HG.out _ _ _ HR.out).mono ?_
    rintro e w2 ⟨rfl, hb2⟩
    have hB2 : Below w.heap.size w w2 := hB1.trans (hb2.mono hB1.size)
    have HO2 := hide (tOwn_keep HO.out (fun k _ hk => hb2.block k hk))
    clear hb2
    go_wp2_with fail
    exact bodyPost_ret (v := .tuple #[.slice none 0 0, .bool false]) (by simp [results, Try.results34, go_sem]) rfl ⟨_, rfl, World.ownsRow_nil _ _ _ _, hB2⟩
end Go.Proofs.Ytjmgnljjeogdlaa.W

/-
  The variables that are bound nowhere, by the specification: contracts of l3Free and FreeIn. Conditions: at most 1048576 cells.
-/
namespace Go.Proofs.Ytjmgnljjeogdlaa.W
open Go.ChangeShapes Go.WideShapes Go.ChangeAt Go.RowKit
set_option linter.unusedVariables false

theorem belowDrew {B : Nat} {x y : World} (h : Below B x y) : Below B x y.drew := ⟨h.os, h.tape, h.output, h.size, h.block⟩
theorem put_len (l : List Int) (n : Int) : (put l n).length ≤ l.length + 1 := by
  unfold put
  split
  · omega
  · simp; omega
/-- The variables of terms that are bound nowhere, put into a list. -/
def fre (pk : Int) (d : Nat) : Nat → F → List Int → List Int
  | _, .nil, o => o
  | i, .cons x k r, o => fre pk d (i + 1) r (if x.k = 1 ∧ ((d + binds pk i : Nat) : Int) ≤ x.n then put o (x.n - ((d + binds pk i : Nat) : Int)) else fre x.k (d + binds pk i) 0 k o)
def fr1 (d : Nat) (x : Cc) (k : F) (o : List Int) : List Int := if x.k = 1 ∧ (d : Int) ≤ x.n then put o (x.n - (d : Int)) else fre x.k d 0 k o
theorem fre_cons (pk : Int) (d i : Nat) (x : Cc) (k r : F) (o : List Int) : fre pk d i (.cons x k r) o = fre pk d (i + 1) r (fr1 (d + binds pk i) x k o) := rfl
theorem fre_app (pk : Int) (d : Nat) : ∀ (a b : F) (i : Nat) (o : List Int), fre pk d i (a.app b) o = fre pk d (i + a.len) b (fre pk d i a o)
  | .nil, b, i, o => rfl
  | .cons x k r, b, i, o => by
    simp only [F.app, fre_cons, fre_app pk d r b, F.len]
    congr 1
    omega
theorem fre_len : ∀ (a : F) (pk : Int) (d i : Nat) (o : List Int), (fre pk d i a o).length ≤ o.length + a.flat.length
  | .nil, _, _, _, o => by simp [fre]
  | .cons x k r, pk, d, i, o => by
    rw [fre]
    refine Nat.le_trans (fre_len r _ _ _ _) ?_
    simp only [F.flat, List.length_cons, List.length_append]
    split
    · have := put_len o (x.n - ((d + binds pk i : Nat) : Int)); omega
    · have := fre_len k x.k (d + binds pk i) 0 o; omega

theorem good_n {x : Cc} (h : goodC x = true) : -1000000 ≤ x.n ∧ x.n ≤ 1000000 := by
  unfold goodC at h
  unfold inB at h
  split at h
  · simp at h; omega
  · split at h
    · simp at h; omega
    · simp at h; omega

/-- The variables that are bound nowhere. -/
def freT : F → List Int
  | .nil => []
  | .cons x k _ => fr1 0 x k []
end Go.Proofs.Ytjmgnljjeogdlaa.W

/-
  Trees told as cells by the specification: contracts of l3Flat and l3Tell. Conditions: at most 1048576 cells.
-/
namespace Go.Proofs.Ytjmgnljjeogdlaa.W
open Go.ChangeShapes Go.WideShapes Go.ChangeAt Go.RowKit
set_option linter.unusedVariables false

def L3TGoal (k : F) : Prop := ∀ (x : Cc) (s v : Value) (base n : Nat) (xs : List Value) (P : Nat → Prop) (w : World), (∀ g, P g → g < w.heap.size → v.ownBlock ≠ some g) → n + (k.flat.length + 1) ≤ 1048576 → base ≤ w.heap.size → KidT w P k s → w.ownsRow base 62 2 v n xs →
    Calls Try.prog 47 #[.agg #[.int .i64 x.k, .int .i64 x.n, s], v] w fun e w' => ∃ v', e = .returned v' ∧ w'.ownsRow base 62 2 v' (n + (k.flat.length + 1)) (xs ++ cv (x :: k.flat)) ∧ w.grownBy w' v.ownBlock ∧ Apart w v v'

set_option maxRecDepth 20000 in
set_option maxHeartbeats 2000000 in
theorem l3Flat_any : ∀ k, L3TGoal k := by
  apply F.rec_kids
  intro k ih x s v base n xs P w hsep hn hb hT hown
  have IH := hide ih
  have HT := hide hT
  have HO := hide hown
  have HSep := hide hsep
  obtain ⟨sad, sc, rfl⟩ := hT.form
  obtain ⟨ad, c, rfl⟩ := iOwn_form hown
  obtain ⟨i0, hi0, hz0, hz1, hz2⟩ := infoPartsT infoCe
  have Hi := hide hi0
  have M1 : Hid (n + 1 ≤ maxLen) := hide (by unfold maxLen; omega)
  clear ih hT hown hsep hi0
  have hkl := F.len_flat k
  obtain ⟨KL, hKL⟩ : ∃ KL, KL = k.len := ⟨_, rfl⟩
  rw [← hKL] at HT hkl ⊢
  have HKL := hide hKL
  clear hKL
  obtain ⟨xk, xn⟩ := x
  simp only
  go_enter Try.func47, Try.ntmps47
  go_wp2_with (at_builtin; refine wpList_append_sep rfl _ _ 23 rfl base 62 i0 (.agg #[.int .i64 0, .int .i64 0]) 2 16 Try.underlying23 Hi.out hz0 hz1 hz2 rfl (by decide) _ n xs rfl ((HO.out.alloc _).alloc _) ⟨w.heap.size + 1, 0, none⟩ 1 1 [.int .i64 xk, .int .i64 xn] rfl rfl (c2_news (by have := heap_alloc_new (w.alloc (.cells #[.int .i64 xk, .int .i64 xn, .slice sad KL sc] 55)) (.cells #[.int .i64 xk, .int .i64 xn] 62); simpa using this)) (c2_one _ _) M1.out (by omega) (by simp; omega) ?_)
  intro v1 w1 hown1 hgrow1 hap1
  obtain ⟨ad1, c1, rfl⟩ := iOwn_form hown1
  have hol : ∀ k, (Value.slice ad n c).ownBlock = some k → k < w.heap.size := fun k hk => (HO.out.lt k hk).2
  have HO1 := hide hown1
  have g1 : w.grownBy w1 (Value.slice ad n c).ownBlock := grownT (grownA w (.cells #[.int .i64 xk, .int .i64 xn, .slice sad KL sc] 55) _) (grownT (grownA _ (.cells #[.int .i64 xk, .int .i64 xn] 62) _) hgrow1 (fun k hk => .inl hk)) (fun k hk => .inl hk)
  have HG1 := hide g1
  have HA1 : Hid (Apart w (.slice ad n c) (.slice ad1 (n + 1) c1)) := hide (fun g hg => by
    rcases hap1 g hg with h | h
    · exact .inl h
    · right; simp at h; omega)
  have y2 : w1.cell? ⟨w.heap.size, 2, none⟩ = some (.slice sad KL sc) := hgrow1.cell (a := ⟨w.heap.size, 2, none⟩) (by simp) (fun e => by have := hol w.heap.size e.symm; omega)
  have HP : Hid (KidT w (fun g => P g ∧ g < w.heap.size) k (.slice sad KL sc)) := hide (HT.out.weak (fun g h1 h2 => ⟨h1, h2⟩))
  clear hown1 hgrow1 hap1 g1
  go_wp2_with fail
  clear y2
  go_loopw [1, 18] (fun v1 i w' => ∃ a b : F, k = a.app b ∧ i = .int .i64 (a.len : Int) ∧ w'.ownsRow base 62 2 v1 (n + (a.flat.length + 1)) (xs ++ cv (⟨xk, xn⟩ :: a.flat)) ∧ w.grownBy w' (Value.slice ad n c).ownBlock ∧ Apart w (.slice ad n c) v1) (fun _ i _ => KL - (intOf i).toNat)
  case atStart => exact ⟨.nil, k, rfl, rfl, HO1.out, HG1.out, HA1.out⟩
  case round =>
    obtain ⟨a, b, hk, rfl, hown, hg, hap⟩ := hrel
    obtain ⟨rad, rc, hform⟩ := iOwn_form hown
    subst hform
    have HOr := hide hown
    have HGr := hide hg
    have HAr := hide hap
    clear hown hg hap HO1 HG1 HA1
    cases b with
    | nil =>
      rw [F.app_nil] at hk
      subst hk
      have hKL := HKL.out
      rw [← hKL]
      clear hKL
      go_wp2_with fail
      go_ret
      exact ⟨_, rfl, HOr.out, HGr.out, HAr.out⟩
    | cons y ky b =>
      have hkl2 : KL = a.len + (b.len + 1) := by rw [HKL.out, hk, F.app_len]; rfl
      have hlt' : (a.len : Int) < (KL : Int) := by omega
      have hfk : k.flat.length = a.flat.length + (1 + ky.flat.length + b.flat.length) := by rw [hk, F.app_flat]; simp [F.flat]; omega
      have hI := IH.out
      rw [hk] at hI
      obtain ⟨g, cap, sy, he, hPg, hg, hTy, p0, p1, p2⟩ := KidT.kid (a := a) (k := ky) (r := b) (x := y) (s := .slice sad KL sc) (by rw [← hk]; exact HP.out)
      simp only [Value.slice.injEq] at he
      obtain ⟨rfl, -, rfl⟩ := he
      have hng : (Value.slice ad n c).ownBlock ≠ some g := HSep.out g hPg.1 hPg.2
      have q0 := HGr.out.cell p0 (fun e => hng e.symm)
      have q1 := HGr.out.cell p1 (fun e => hng e.symm)
      have q2 := HGr.out.cell p2 (fun e => hng e.symm)
      have hszr := HGr.out.size
      have hkeep : ∀ g, (P g ∧ g < w.heap.size) → g < w.heap.size → wr.heap[g]? = w.heap[g]? ∧ (P g ∧ g < w.heap.size) := fun g h1 h2 => ⟨HGr.out.block g h2 (fun e => HSep.out g h1.1 h1.2 e.symm), h1⟩
      have hTr : KidT wr (fun g => P g ∧ g < w.heap.size) ky sy := hTy.keep hszr hkeep
      have hse : ∀ g, (P g ∧ g < w.heap.size) → (Value.slice rad (n + (a.flat.length + 1)) rc).ownBlock ≠ some g := fun g h1 e => by
        rcases HAr.out g e with h | h
        · exact HSep.out g h1.1 h1.2 h
        · omega
      have HC := hide (F.all_at hI y sy (.slice rad (n + (a.flat.length + 1)) rc) base (n + (a.flat.length + 1)) (xs ++ cv (⟨xk, xn⟩ :: a.flat)) (fun g => P g ∧ g < w.heap.size) (wr.alloc (.cells #[.int .i64 y.k, .int .i64 y.n, sy] 55)) (fun g h1 _ => hse g h1) (by omega) (by simp; omega) (hTr.below ((Below.refl _ _).alloc (Nat.le_refl _) _)) (HOr.out.alloc _))
      obtain ⟨yad, yc, rfl⟩ := hTy.form
      have HSn := hide (hk.trans (F.app_snoc a ky b y))
      have HDl : Hid ((a.app (.cons y ky .nil)).len = a.len + 1) := hide (by rw [F.app_len]; rfl)
      have HDf : Hid ((a.app (.cons y ky .nil)).flat = a.flat ++ (y :: ky.flat)) := hide (by rw [F.app_flat]; simp [F.flat])
      have HKl2 := hide hkl2
      clear p0 p1 p2 hTy hTr hI hk hkl2 hfk hkeep hse
      obtain ⟨al, hal⟩ : ∃ al, al = a.len := ⟨_, rfl⟩
      obtain ⟨kn, hkn⟩ : ∃ kn, kn = ky.len := ⟨_, rfl⟩
      obtain ⟨NN, hNN⟩ : ∃ NN, NN = n + (a.flat.length + 1) := ⟨_, rfl⟩
      rw [← hal] at hlt' q0 q1 q2 HDl HKl2 ⊢
      rw [← hkn] at HC q2
      rw [← hNN] at HC HOr HAr ⊢
      have HNN := hide hNN
      clear hal hkn hNN
      go_wp2_with fail
      refine Calls.mono HC.out ?_
      rintro e w2 ⟨v2, rfl, ho2, hg2, ha2⟩
      obtain ⟨ad2, c2, rfl⟩ := iOwn_form ho2
      have HO2 := hide ho2
      have HG2 : Hid (w.grownBy w2 (Value.slice ad n c).ownBlock) := hide (grownT (grownT HGr.out (grownA wr _ _) (fun k hk => .inl hk)) hg2 (fun k hk => HAr.out k hk))
      have HA2 : Hid (Apart w (.slice ad n c) (.slice ad2 (NN + (ky.flat.length + 1)) c2)) := hide (apartT HAr.out ha2 (by simp; omega))
      clear ho2 hg2 ha2 HC q0 q1 q2
      go_wp2_with fail
      have hkl2 := HKl2.out
      refine ⟨⟨a.app (.cons y ky .nil), b, HSn.out, by rw [HDl.out]; go_num, ?_, HG2.out, HA2.out⟩, by simp [intOf]; omega⟩
      have h3 := HO2.out
      rw [HDf.out]
      have e1 : n + ((a.flat ++ (y :: ky.flat)).length + 1) = NN + (ky.flat.length + 1) := by rw [HNN.out]; simp; omega
      have e2 : xs ++ cv (⟨xk, xn⟩ :: (a.flat ++ (y :: ky.flat))) = xs ++ cv (⟨xk, xn⟩ :: a.flat) ++ cv (y :: ky.flat) := by rw [← List.cons_append, cv_app, List.append_assoc]
      rw [e1, e2]
      exact h3

set_option maxRecDepth 20000 in
set_option maxHeartbeats 1000000 in
theorem l3Tell_any (x : Cc) (k : F) (s : Value) (P : Nat → Prop) (w : World) (hl : k.flat.length + 1 ≤ 1048576) (hT : KidT w P k s) :
    Calls Try.prog 29 #[.agg #[.int .i64 x.k, .int .i64 x.n, s]] w fun e w' => ∃ s', e = .returned (.tuple #[s', .bool (goodT (x :: k.flat))]) ∧ w'.ownsRow w.heap.size 62 2 s' (gd (x :: k.flat)).length (cv (gd (x :: k.flat))) ∧ Below w.heap.size w w' := by
  obtain ⟨sad, sc, rfl⟩ := hT.form
  have HT := hide hT
  obtain ⟨cs, hcs⟩ : ∃ cs, cs = x :: k.flat := ⟨_, rfl⟩
  have hlc : cs.length ≤ 1048576 := by rw [hcs]; simpa using hl
  have HC := hide (fun (w' : World) (hw : Below w.heap.size w w') => l3Flat_any k x (.slice sad k.len sc) (.slice none 0 0) w.heap.size 0 [] P w' (fun g _ _ => by simp [Value.ownBlock]) (by omega) hw.size (HT.out.below hw) (World.ownsRow_nil _ _ _ _))
  have hlen : 0 + (k.flat.length + 1) = cs.length := by rw [hcs]; simp
  rw [hlen, List.nil_append, ← hcs] at HC
  rw [← hcs]
  have HG := hide (fun (ad : Option Addr) (c : Nat) (w : World) (h : CRow w ad cs) => specGoodT_any ad c cs w hlc h)
  obtain ⟨KL, hKL⟩ : ∃ KL, KL = k.len := ⟨_, rfl⟩
  rw [← hKL] at HT HC ⊢
  clear hT hcs hlen hKL
  by_cases hgd : goodT cs = true
  · have e1 : gd cs = cs := if_pos hgd
    rw [e1, hgd]
    rw [hgd] at HG
    clear hgd e1
    go_enter Try.func29, Try.ntmps29
    go_wp2_with fail
    refine Calls.mono (HC.out _ ((Below.refl _ _).alloc (Nat.le_refl _) _)) ?_
    rintro e w1 ⟨v1, rfl, ho1, hg1, -⟩
    obtain ⟨ad, c, rfl, hlc2, hR⟩ := cOwn_row ho1
    have HO := hide ho1
    have HR := hide hR
    have hB1 : Below w.heap.size w w1 := ((Below.refl _ _).alloc (Nat.le_refl _) _).trans ⟨hg1.os, hg1.tape, hg1.output, hg1.size, fun k hk => hg1.block k (by simp; omega) (by simp [Value.ownBlock])⟩
    clear ho1 hR hg1
    go_wp2_with fail
    refine (HG.out _ _ _ HR.out).mono ?_
    rintro e w2 ⟨rfl, hb2⟩
    have hB2 : Below w.heap.size w w2 := hB1.trans (hb2.mono hB1.size)
    have HO2 := hide (tOwn_keep HO.out (fun k _ hk => hb2.block k hk))
    clear hb2
    go_wp2_with fail
    exact bodyPost_ret (v := .tuple #[.slice ad cs.length c, .bool true]) (by simp [results, Try.results29, go_sem]) rfl ⟨_, rfl, HO2.out, hB2⟩
  · have e1 : gd cs = [] := if_neg hgd
    rw [Bool.not_eq_true] at hgd
    rw [e1, hgd]
    rw [hgd] at HG
    clear hgd e1
    go_enter Try.func29, Try.ntmps29
    go_wp2_with fail
    refine Calls.mono (HC.out _ ((Below.refl _ _).alloc (Nat.le_refl _) _)) ?_
    rintro e w1 ⟨v1, rfl, ho1, hg1, -⟩
    obtain ⟨ad, c, rfl, hlc2, hR⟩ := cOwn_row ho1
    have HO := hide ho1
    have HR := hide hR
    have hB1 : Below w.heap.size w w1 := ((Below.refl _ _).alloc (Nat.le_refl _) _).trans ⟨hg1.os, hg1.tape, hg1.output, hg1.size, fun k hk => hg1.block k (by simp; omega) (by simp [Value.ownBlock])⟩
    clear ho1 hR hg1
    go_wp2_with fail
    refine (HG.out _ _ _ HR.out).mono ?_
    rintro e w2 ⟨rfl, hb2⟩
    have hB2 : Below w.heap.size w w2 := hB1.trans (hb2.mono hB1.size)
    have HO2 := hide (tOwn_keep HO.out (fun k _ hk => hb2.block k hk))
    clear hb2
    go_wp2_with fail
    exact bodyPost_ret (v := .tuple #[.slice none 0 0, .bool false]) (by simp [results, Try.results29, go_sem]) rfl ⟨_, rfl, World.ownsRow_nil _ _ _ _, hB2⟩
end Go.Proofs.Ytjmgnljjeogdlaa.W

/-
  The variables that are bound nowhere, by the program: contracts of FreeIn's closure and of FreeIn. Conditions: at most 1048576 cells.
-/
namespace Go.Proofs.Ytjmgnljjeogdlaa.W
open Go.ChangeShapes Go.WideShapes Go.ChangeAt Go.RowKit
set_option linter.unusedVariables false

theorem iOwn_lower {w : World} {base base' n size : Nat} {e : TypeId} {v : Value} {xs : List Value} (h : w.ownsRow base e size v n xs) (hb : base' ≤ base) : w.ownsRow base' e size v n xs := by
  refine ⟨h.1, ?_⟩
  rcases h.2 with h1 | ⟨g, cap, cur, hv, hg, rest⟩
  · exact .inl h1
  · exact .inr ⟨g, cap, cur, hv, by omega, rest⟩

/-- A hundred marks. -/
def bitO (s : List Bool) : Obj := .cells (s.map Value.bool).toArray 63 (0, 0)
def bitS (s : List Bool) (n : Int) (d : Nat) : List Bool := if (d : Int) ≤ n then s.set (n - (d : Int)).toNat true else s
def sameV (_ : List Bool) (n : Int) (_ : Nat) : F := .cons ⟨1, n⟩ .nil .nil

theorem fnFree : ∀ args w, (callFunc 32 args).run Try.prog w = .ok (.enter 32 args) w := fun args w => by kernel_rfl

set_option maxRecDepth 20000 in
set_option maxHeartbeats 1000000 in
theorem chgFree (cb : Nat) : ChgOK (σ := {s : List Bool // s.length = 100}) 32 #[.pointer (some ⟨cb, 0, none⟩)] cb (fun s w => w.heap[cb]? = some (bitO s.1)) (fun s n d => sameV s.1 n d) (fun s n d => ⟨bitS s.1 n d, by unfold bitS; split <;> simp [s.2]⟩) := by
  rintro ⟨s, hs⟩ n d w h0 h1 hd hcb hinv
  have hb : w.heap[cb]? = some (bitO s) := hinv.get
  simp only
  show Calls Try.prog 32 #[.agg #[.int .i64 n], .int .i64 (d : Int), .pointer (some ⟨cb, 0, none⟩)] w _
  have HB := hide hb
  clear hb hinv
  by_cases hdn : (d : Int) ≤ n
  · obtain ⟨j, hj⟩ := Int.eq_ofNat_of_zero_le (show 0 ≤ n - (d : Int) by omega)
    have hj100 : j < 100 := by omega
    have hj100' : (j : Int) < 100 := by omega
    have hjs : j < s.length := by omega
    have hcell : w.cell? ⟨cb, j, none⟩ = some (.bool (s[j]'hjs)) := by rw [cell_of_blk HB.out]; simp [hjs]
    have hfz : w.frozen? ⟨cb, j, none⟩ = false := unfrozen_of_blk HB.out j
    have hset : bitS s n d = s.set j true := by unfold bitS; rw [if_pos hdn, hj]; rfl
    go_enter Try.func32, Try.ntmps32
    have HSet := hide hset
    have HJ := hide hj
    clear hset
    go_wp2_with fail
    go_ret
    refine ⟨rfl, Inv.blk ?_, ((Oth.refl cb w).setCell j (.bool true)).trans (Oth.alloc1 _ _ _)⟩
    show _ = some (bitO (bitS s n d))
    rw [HSet.out, heap_alloc_old _ _ (by simp [World.setCell]; exact hcb), blk_setCell HB.out]
    simp [bitO]
  · have hset : bitS s n d = s := by unfold bitS; rw [if_neg hdn]
    have HSet := hide hset
    clear hset
    go_enter Try.func32, Try.ntmps32
    go_wp2_with fail
    go_ret
    refine ⟨rfl, Inv.blk ?_, Oth.alloc1 _ _ _⟩
    show _ = some (bitO (bitS s n d))
    rw [HSet.out, heap_alloc_old _ _ hcb]
    exact HB.out

/-- The places below j that are marked. -/
def mkd (s : List Bool) (j : Nat) : List Int := ((List.range j).filter fun i => s.getD i false).map Int.ofNat
def marked (s : List Bool) : List Int := mkd s 100
theorem mkd_succ (s : List Bool) (j : Nat) : mkd s (j + 1) = if s.getD j false = true then mkd s j ++ [(j : Int)] else mkd s j := by
  unfold mkd
  rw [List.range_succ, List.filter_append, List.map_append]
  split
  · rename_i h; rw [List.filter_cons, if_pos h]; rfl
  · rename_i h; rw [List.filter_cons, if_neg h]; simp
theorem mkd_len (s : List Bool) (j : Nat) : (mkd s j).length ≤ j := by
  unfold mkd
  rw [List.length_map]
  exact Nat.le_trans (List.length_filter_le _ _) (by simp)

theorem idx_bool (B : List Bool) (hB : B.length = 100) (j : Nat) (hj : j < 100) (w : World) : (Instr.index 63 (.agg (B.map Value.bool).toArray) (.int .i64 (j : Int))).run Try.prog w = .ok (.bool (B.getD j false)) w := by
  obtain ⟨i, hi, e⟩ := Option.map_eq_some_iff.1 (show (Try.prog.info? 4).map (fun i => (i.zero, i.size, i.bytes)) = some (some (.bool false), 1, 1) by kernel_rfl)
  simp only [Prod.mk.injEq] at e
  have hjl : j < B.length := by omega
  simp [Instr.index, run_underlying Try.underlying63, sizeOf, typeInfo, hi, e.2.1, go_sem, hj, hjl]

/-- The marks of a term's variables (type 63). -/
def bits (x : Cc) (k : F) : List Bool := (w1 (σ := {s : List Bool // s.length = 100}) (fun s n d => sameV s.1 n d) (fun s n d => ⟨bitS s.1 n d, by unfold bitS; split <;> simp [s.2]⟩) 0 x k ⟨List.replicate 100 false, by simp⟩).2.1

set_option maxRecDepth 20000 in
set_option maxHeartbeats 1000000 in
theorem implFreeIn_some (ad : Option Addr) (c : Nat) (l : List Cc) (a : F) (w : World) (hl : l.length ≤ 1048576) (hc : l.length ≤ c) (h : CRow w ad l) (ht : treeT l = some a) (x : Cc) (k : F) (ha : a = .cons x k .nil) :
    Calls Try.prog 9 #[.slice ad l.length c] w fun e w' => ∃ s', e = .returned (.tuple #[s', .bool true]) ∧ w'.ownsRow w.heap.size 3 1 s' (marked (bits x k)).length ((marked (bits x k)).map (Value.int .i64)) ∧ Below w.heap.size w w' := by
  have HR := hide h
  have hg : goodT l = true := by unfold goodT; rw [ht]; rfl
  have HT := hide (treeT_flat ht)
  have HG := hide (implGoodT_any ad c l)
  rw [hg] at HG
  clear h ht hg
  go_enter Try.func9, Try.ntmps9
  go_wp2_with fail
  refine (HG.out w hl HR.out).mono ?_
  rintro e w1 ⟨rfl, hb1⟩
  go_wp2_with fail
  obtain ⟨t1, t2, t3, t4, t5⟩ := HT.out
  obtain ⟨w2, hw2⟩ : ∃ w2, w2 = w1.alloc (.cells Try.zeroCells63 63) := ⟨_, rfl⟩
  rw [← hw2]
  have hz : Try.zeroCells63 = ((List.replicate 100 false).map Value.bool).toArray := by kernel_rfl
  have hbk : w2.heap[w1.heap.size]? = some (bitO (List.replicate 100 false)) := by rw [hw2, hz]; exact heap_alloc_new _ _
  have hB12 : Below w1.heap.size w1 w2 := by rw [hw2]; exact (Below.refl _ _).alloc (Nat.le_refl _) _
  have hB2 : Below w.heap.size w w2 := hb1.trans (hB12.mono hb1.size)
  have hR2 := HR.out.below hB2
  have hpo := partOf_any a ad c w2 t2 t3 (by rw [← t1]; exact hl) (by rw [← t1]; exact hc) (by rw [← t1]; exact hR2)
  rw [← t1] at hpo
  have HPo := hide hpo
  have HBk := hide hbk
  have hsz1 := hb1.size
  have hcb : w1.heap.size < w2.heap.size := (Array.getElem?_eq_some_iff.1 hbk).1
  subst ha
  obtain ⟨g1, l1, o1, -⟩ := ok_cons t2
  have hkf : 0 + k.flat.length ≤ 1048576 := by rw [t1] at t4; simp [F.flat] at t4; omega
  have hwv := withVariables_any (σ := {s : List Bool // s.length = 100}) 32 #[.pointer (some ⟨w1.heap.size, 0, none⟩)] w1.heap.size (fun s w => w.heap[w1.heap.size]? = some (bitO s.1)) (fun s n d => sameV s.1 n d) (fun s n d => ⟨bitS s.1 n d, by unfold bitS; split <;> simp [s.2]⟩) fnFree (chgFree _) (fun s n d => rfl) k x ⟨List.replicate 100 false, by simp⟩ 0 g1 l1 o1 hkf
  have hpt : pvT (.cons x k .nil) = pv x.k x.n (pvs k) := rfl
  rw [← hpt] at hwv
  have hrl := wv_len (σ := {s : List Bool // s.length = 100}) (g := fun s n d => sameV s.1 n d) (st := fun s n d => ⟨bitS s.1 n d, by unfold bitS; split <;> simp [s.2]⟩) (fun s n d => rfl) (.cons x k .nil) 0 0 0 ⟨List.replicate 100 false, by simp⟩
  obtain ⟨RR, hRR⟩ : ∃ RR, RR = W.w1 (σ := {s : List Bool // s.length = 100}) (fun s n d => sameV s.1 n d) (fun s n d => ⟨bitS s.1 n d, by unfold bitS; split <;> simp [s.2]⟩) 0 x k ⟨List.replicate 100 false, by simp⟩ := ⟨_, rfl⟩
  have hbits : RR.2.1 = bits x k := by rw [hRR]; rfl
  unfold WVC at hwv
  rw [← hRR] at hwv
  have hrl' : RR.1.len = 1 := by rw [hRR]; exact hrl
  obtain ⟨T, u, hV⟩ := pvT_iface hrl'
  obtain ⟨T0, u0, hV0⟩ := pvT_iface (a := .cons x k .nil) rfl
  rw [hV, hV0, show ((0 : Nat) : Int) = 0 from rfl] at hwv
  rw [hV0] at HPo
  have HWV := hide hwv
  have HBits := hide hbits
  clear hw2 hz hbk hR2 hpo t1 t2 t3 t4 t5 HT HG g1 l1 o1 hkf hwv hpt hrl hRR hbits hrl' hV hV0
  refine Calls.mono HPo.out ?_
  rintro e w3 ⟨rfl, hb3⟩
  have HBk3 := hide ((hb3.block _ hcb).trans HBk.out)
  have hcb3 : w1.heap.size < w3.heap.size := Nat.lt_of_lt_of_le hcb hb3.size
  have hB3 : Below w.heap.size w w3 := hB2.trans (hb3.mono hB2.size)
  clear hb3 HBk HPo hB12
  go_wp2_with fail
  refine Calls.mono (HWV.out _ hcb3 (Inv.blk HBk3.out)) ?_
  rintro e w4 ⟨rfl, hi4, ho4⟩
  have hb4 : w4.heap[w1.heap.size]? = some (bitO (bits x k)) := by rw [← HBits.out]; exact hi4.get
  have hB4 : Below w.heap.size w w4 := hB3.trans (ho4.below (by have := hB3.size; omega) hsz1)
  have HB4 := hide hb4
  clear hi4 ho4 hb4 HBk3
  obtain ⟨i0, hi0, hz0, hz1, hz2⟩ := infoPartsT infoInt
  have Hi := hide hi0
  clear hi0
  obtain ⟨B, hB⟩ : ∃ B, B = bits x k := ⟨_, rfl⟩
  rw [← hB] at HB4
  have HBB := hide hB
  clear hB
  have hBl : B.length = 100 := by rw [HBB.out]; exact (W.w1 (σ := {s : List Bool // s.length = 100}) (fun s n d => sameV s.1 n d) (fun s n d => ⟨bitS s.1 n d, by unfold bitS; split <;> simp [s.2]⟩) 0 x k ⟨List.replicate 100 false, by simp⟩).2.2
  have HRg : Hid (w4.rangeAt w1.heap.size 0 (B.map Value.bool)) := hide (fun j v hj => by rw [cell_of_blk HB4.out, Nat.zero_add, ← hj]; simp)
  have HInf : Hid ((Try.prog.info? 63).map (·.size) = some (B.map Value.bool).length) := hide (by rw [List.length_map, hBl]; kernel_rfl)
  go_wp2_with fail
  refine wp_load_mid 63 _ rfl w1.heap.size 0 rfl (B.map Value.bool) _ HRg.out Try.underlying63 rfl HInf.out ?_
  go_wp2_with fail
  have hsz4 := hB4.size
  clear HRg HInf HB4
  go_loopw [5, 16] (fun o5 i w' => ∃ j : Nat, j ≤ 100 ∧ i = .int .i64 (j : Int) ∧ w'.ownsRow w4.heap.size 3 1 o5 (mkd B j).length ((mkd B j).map (Value.int .i64)) ∧ Below w4.heap.size w4 w') (fun _ i _ => 100 - (intOf i).toNat)
  case atStart => exact ⟨0, by omega, rfl, World.ownsRow_nil _ _ _ _, Below.refl _ _⟩
  case round =>
    obtain ⟨j, hj, rfl, hown, hBr⟩ := hrel
    obtain ⟨oad, oc, hform⟩ := iOwn_form hown
    subst hform
    have HO := hide hown
    clear hown
    have hml := mkd_len B j
    by_cases hlt : j < 100
    · have hlt' : (j : Int) < 100 := by omega
      have hidx := idx_bool B hBl j hlt
      have hms := mkd_succ B j
      cases hb : B.getD j false with
      | false =>
        rw [hb] at hidx hms
        rw [if_neg (by simp)] at hms
        have HMs := hide hms
        clear hb hms
        go_wp2_with fail
        exact ⟨⟨j + 1, by omega, by go_num, by rw [HMs.out]; exact HO.out, hBr⟩, by simp [intOf]; omega⟩
      | true =>
        rw [hb] at hidx hms
        rw [if_pos rfl] at hms
        have HMs := hide hms
        clear hb hms
        have hszr := hBr.size
        have T2 : Hid (∀ i u, [Value.int .i64 (j : Int)][i]? = some u → (wr.alloc (.cells #[.int .i64 (j : Int)] 3)).cell? ((⟨wr.heap.size, 0, none⟩ : Addr).add i) = some u) := hide (by
          intro i u hu
          rw [iAdd, Nat.zero_add, cell_of_blk (heap_alloc_new wr (.cells #[.int .i64 (j : Int)] 3)), ← hu]
          simp)
        have M2 : Hid ((mkd B j).length + 1 ≤ maxLen) := hide (by unfold maxLen; omega)
        obtain ⟨ml, hmle⟩ : ∃ ml, ml = (mkd B j).length := ⟨_, rfl⟩
        rw [← hmle] at HO M2 hml ⊢
        have HMl := hide hmle
        clear hmle
        go_wp2_with (at_builtin; refine wpList_append_own _ rfl _ _ 29 rfl w4.heap.size 3 i0 (.int .i64 0) 1 8 Try.underlying29 Hi.out hz0 hz1 hz2 rfl (by decide) _ _ _ rfl (HO.out.alloc _) ⟨wr.heap.size, 0, none⟩ 1 1 [.int .i64 (j : Int)] rfl rfl T2.out (iOne [(j : Int)]) M2.out (by omega) (by simp; omega) ?_)
        intro v2 w2' hown2 hgrow2 _
        obtain ⟨ad2, c2, rfl⟩ := iOwn_form hown2
        have hB2' : Below w4.heap.size w4 w2' := (hBr.alloc hBr.size _).grown hgrow2 (by simp; omega) (fun k hk => (HO.out.lt k hk).1)
        have HO2 := hide hown2
        clear hown2 hgrow2
        go_wp2_with fail
        refine ⟨⟨j + 1, by omega, by go_num, ?_, hB2'⟩, by simp [intOf]; omega⟩
        rw [HMs.out, List.length_append, List.map_append, ← HMl.out]
        exact HO2.out
    · obtain rfl : j = 100 := by omega
      go_wp2_with fail
      have hBw : Below w.heap.size w wr := hB4.trans (hBr.mono hB4.size)
      refine bodyPost_ret (v := .tuple #[.slice oad (mkd B 100).length oc, .bool true]) (by simp [results, Try.results9, go_sem]) rfl ⟨_, rfl, ?_, hBw⟩
      rw [← HBB.out]
      exact iOwn_lower HO.out hB4.size

set_option maxHeartbeats 1000000 in
theorem implFreeIn_none (ad : Option Addr) (c : Nat) (l : List Cc) (w : World) (hl : l.length ≤ 1048576) (h : CRow w ad l) (ht : treeT l = none) :
    Calls Try.prog 9 #[.slice ad l.length c] w fun e w' => e = .returned (.tuple #[.slice none 0 0, .bool false]) ∧ Below w.heap.size w w' := by
  have hg : goodT l = false := by unfold goodT; rw [ht]; rfl
  have HR := hide h
  have HG := hide (implGoodT_any ad c l w hl h)
  rw [hg] at HG
  clear h ht hg
  go_enter Try.func9, Try.ntmps9
  go_wp2_with fail
  refine HG.out.mono ?_
  rintro e w1 ⟨rfl, hb1⟩
  go_wp2_with fail
  exact bodyPost_ret (v := .tuple #[.slice none 0 0, .bool false]) (by simp [results, Try.results9, go_sem]) rfl ⟨rfl, hb1⟩
end Go.Proofs.Ytjmgnljjeogdlaa.W

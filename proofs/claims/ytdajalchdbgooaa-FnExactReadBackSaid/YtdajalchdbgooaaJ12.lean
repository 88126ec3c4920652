/-
  Some texts of this proof in one: TeD, RbO, GmA.
-/
import Derived.Test.YtdajalchdbgooaaJ11
import Derived.Test.YtdajalchdbgooaaJ09
import Derived.Test.YtdajalchdbgooaaJ10
import Derived.Deep.RegionHeld3
import Derived.Deep.RegionLaw
import Derived.Deep.AppendLies
import Derived.Deep.CutRange
/-
  A whole term told as cells, and whether they are good: contracts of goodCells. Conditions: as the theorems state.
-/
namespace Go.Proofs.Ytdajalchdbgooaa.W
open Go.ChangeShapes Go.WideShapes Go.ChangeAt Go.RowKit
set_option linter.unusedVariables false

/-- Terms of a form that parts can have. -/
def F.fit : F → Prop
  | .nil => True
  | .cons x k r => inB x.k 1 7 = true ∧ (3 ≤ x.k → x.n = 0) ∧ k.len = ar x.k ∧ k.fit ∧ r.fit
theorem F.app_fit : ∀ a b : F, (a.app b).fit ↔ a.fit ∧ b.fit
  | .nil, b => by simp [F.app, F.fit]
  | .cons x k r, b => by simp [F.app, F.fit, F.app_fit r b, and_assoc]
theorem F.ok_fit : ∀ {a : F}, a.ok → a.fit
  | .nil, _ => trivial
  | .cons x k r, h => by
    obtain ⟨h1, h2, h3, h4⟩ := ok_cons h
    refine ⟨good_ar h1, fun h => ?_, h2, F.ok_fit h3, F.ok_fit h4⟩
    unfold goodC at h1
    rw [if_neg (by omega), if_neg (by omega)] at h1
    simp only [Bool.and_eq_true, decide_eq_true_eq] at h1
    exact h1.1

def MCGoal (k : F) : Prop := ∀ x : Cc, (F.cons x k .nil).fit → MC (pv x.k x.n (pvs k)) (x :: k.flat)
theorem mc_any : ∀ k, MCGoal k := by
  apply F.rec_kids
  intro k ih x hfit
  obtain ⟨xk, xn⟩ := x
  obtain ⟨h1, h2, h3, h4, -⟩ := hfit
  simp only [inB, Bool.and_eq_true, decide_eq_true_eq] at h1 h2 h3
  have hx : xk = 1 ∨ xk = 2 ∨ xk = 3 ∨ xk = 4 ∨ xk = 5 ∨ xk = 6 ∨ xk = 7 := by omega
  rcases hx with h | h | h | h | h | h | h
  · subst h
    have hk0 : k = .nil := F.len_0 (by rw [h3]; rfl)
    subst hk0
    exact ⟨_, _, _, rfl, cm_var _, cf_var, fun base n xs v w ho hn hb => mc_var xn base n xs v w ho hn hb⟩
  · subst h
    have hk0 : k = .nil := F.len_0 (by rw [h3]; rfl)
    subst hk0
    exact ⟨_, _, _, rfl, cm_num _, cf_num, fun base n xs v w ho hn hb => mc_num xn base n xs v w ho hn hb⟩
  · subst h
    obtain rfl : xn = 0 := h2 (by omega)
    obtain ⟨y0, k0, rfl⟩ := F.len_1 (show k.len = 1 by rw [h3]; rfl)
    obtain ⟨p0, q0, r0, s0, -⟩ := h4
    have i0 := ih.1 y0 ⟨p0, q0, r0, s0, trivial⟩
    refine ⟨_, _, _, rfl, cm_lam _, cf_lam, fun base n xs v w ho hn hb => ?_⟩
    have := mc_lam _ _ i0 base n xs v w ho (by simp [F.flat] at hn ⊢; omega) hb
    refine this.mono fun e w' ⟨v', he, hw, hg, ha⟩ => ⟨v', he, ?_, hg, ha⟩
    simp only [F.flat, List.length_cons, List.append_nil] at hw ⊢
    rw [show n + (k0.flat.length + 1 + 1) = n + (1 + (k0.flat.length + 1)) by omega]
    exact hw
  · subst h
    obtain rfl : xn = 0 := h2 (by omega)
    obtain ⟨y0, k0, y1, k1, rfl⟩ := F.len_2 (show k.len = 2 by rw [h3]; rfl)
    obtain ⟨p0, q0, r0, s0, p1, q1, r1, s1, -⟩ := h4
    have i0 := ih.1 y0 ⟨p0, q0, r0, s0, trivial⟩
    have i1 := ih.2.1 y1 ⟨p1, q1, r1, s1, trivial⟩
    refine ⟨_, _, _, rfl, cm_app _, cf_app, fun base n xs v w ho hn hb => ?_⟩
    have := mc_app _ _ i0 _ _ i1 base n xs v w ho (by simp [F.flat] at hn ⊢; omega) hb
    refine this.mono fun e w' ⟨v', he, hw, hg, ha⟩ => ⟨v', he, ?_, hg, ha⟩
    have e1 : (⟨4, 0⟩ :: (F.cons y0 k0 (.cons y1 k1 .nil)).flat : List Cc) = ⟨4, 0⟩ :: ((y0 :: k0.flat) ++ (y1 :: k1.flat)) := by simp [F.flat]
    rw [e1]
    have e2 : (⟨4, 0⟩ :: ((y0 :: k0.flat) ++ (y1 :: k1.flat)) : List Cc).length = 1 + (y0 :: k0.flat).length + (y1 :: k1.flat).length := by simp; omega
    rw [e2]
    exact hw
  · subst h
    obtain rfl : xn = 0 := h2 (by omega)
    obtain ⟨y0, k0, y1, k1, rfl⟩ := F.len_2 (show k.len = 2 by rw [h3]; rfl)
    obtain ⟨p0, q0, r0, s0, p1, q1, r1, s1, -⟩ := h4
    have i0 := ih.1 y0 ⟨p0, q0, r0, s0, trivial⟩
    have i1 := ih.2.1 y1 ⟨p1, q1, r1, s1, trivial⟩
    refine ⟨_, _, _, rfl, cm_add _, cf_add, fun base n xs v w ho hn hb => ?_⟩
    have := mc_add _ _ i0 _ _ i1 base n xs v w ho (by simp [F.flat] at hn ⊢; omega) hb
    refine this.mono fun e w' ⟨v', he, hw, hg, ha⟩ => ⟨v', he, ?_, hg, ha⟩
    have e1 : (⟨5, 0⟩ :: (F.cons y0 k0 (.cons y1 k1 .nil)).flat : List Cc) = ⟨5, 0⟩ :: ((y0 :: k0.flat) ++ (y1 :: k1.flat)) := by simp [F.flat]
    rw [e1]
    have e2 : (⟨5, 0⟩ :: ((y0 :: k0.flat) ++ (y1 :: k1.flat)) : List Cc).length = 1 + (y0 :: k0.flat).length + (y1 :: k1.flat).length := by simp; omega
    rw [e2]
    exact hw
  · subst h
    obtain rfl : xn = 0 := h2 (by omega)
    obtain ⟨y0, k0, y1, k1, y2, k2, rfl⟩ := F.len_3 (show k.len = 3 by rw [h3]; rfl)
    obtain ⟨p0, q0, r0, s0, p1, q1, r1, s1, p2, q2, r2, s2, -⟩ := h4
    have i0 := ih.1 y0 ⟨p0, q0, r0, s0, trivial⟩
    have i1 := ih.2.1 y1 ⟨p1, q1, r1, s1, trivial⟩
    have i2 := ih.2.2.1 y2 ⟨p2, q2, r2, s2, trivial⟩
    refine ⟨_, _, _, rfl, cm_if _, cf_if, fun base n xs v w ho hn hb => ?_⟩
    have := mc_if _ _ i0 _ _ i1 _ _ i2 base n xs v w ho (by simp [F.flat] at hn ⊢; omega) hb
    refine this.mono fun e w' ⟨v', he, hw, hg, ha⟩ => ⟨v', he, ?_, hg, ha⟩
    have e1 : (⟨6, 0⟩ :: (F.cons y0 k0 (.cons y1 k1 (.cons y2 k2 .nil))).flat : List Cc) = ⟨6, 0⟩ :: ((y0 :: k0.flat) ++ (y1 :: k1.flat) ++ (y2 :: k2.flat)) := by simp [F.flat]
    rw [e1]
    have e2 : (⟨6, 0⟩ :: ((y0 :: k0.flat) ++ (y1 :: k1.flat) ++ (y2 :: k2.flat)) : List Cc).length = 1 + (y0 :: k0.flat).length + (y1 :: k1.flat).length + (y2 :: k2.flat).length := by simp; omega
    rw [e2]
    exact hw
  · subst h
    obtain rfl : xn = 0 := h2 (by omega)
    obtain ⟨y0, k0, y1, k1, rfl⟩ := F.len_2 (show k.len = 2 by rw [h3]; rfl)
    obtain ⟨p0, q0, r0, s0, p1, q1, r1, s1, -⟩ := h4
    have i0 := ih.1 y0 ⟨p0, q0, r0, s0, trivial⟩
    have i1 := ih.2.1 y1 ⟨p1, q1, r1, s1, trivial⟩
    refine ⟨_, _, _, rfl, cm_let _, cf_let, fun base n xs v w ho hn hb => ?_⟩
    have := mc_let _ _ i0 _ _ i1 base n xs v w ho (by simp [F.flat] at hn ⊢; omega) hb
    refine this.mono fun e w' ⟨v', he, hw, hg, ha⟩ => ⟨v', he, ?_, hg, ha⟩
    have e1 : (⟨7, 0⟩ :: (F.cons y0 k0 (.cons y1 k1 .nil)).flat : List Cc) = ⟨7, 0⟩ :: ((y0 :: k0.flat) ++ (y1 :: k1.flat)) := by simp [F.flat]
    rw [e1]
    have e2 : (⟨7, 0⟩ :: ((y0 :: k0.flat) ++ (y1 :: k1.flat)) : List Cc).length = 1 + (y0 :: k0.flat).length + (y1 :: k1.flat).length := by simp; omega
    rw [e2]
    exact hw

theorem mcT {a : F} (h : a.fit) (h1 : a.len = 1) : MC (pvT a) a.flat := by
  obtain ⟨x, k, rfl⟩ := F.len_1 h1
  have := mc_any k x h
  simpa [F.flat, pvT] using this

theorem cv_get : ∀ (l : List Cc) (i : Nat) (h : i < l.length), (cv l)[i * 2]? = some (.int .i64 l[i].k) ∧ (cv l)[i * 2 + 1]? = some (.int .i64 l[i].n)
  | x :: l, 0, h => ⟨rfl, rfl⟩
  | x :: l, i + 1, h => by
    have := cv_get l i (by simpa using h)
    rw [show (i + 1) * 2 = i * 2 + 1 + 1 by omega, show i * 2 + 1 + 1 + 1 = (i * 2 + 1) + 1 + 1 by omega]
    simpa [cv] using this
theorem cOwn_row {w : World} {base : Nat} {e : TypeId} {v : Value} {l : List Cc} (h : w.ownsRow base e 2 v l.length (cv l)) : ∃ ad c, v = .slice ad l.length c ∧ l.length ≤ c ∧ CRow w ad l := by
  rcases h.2 with ⟨h1, h2⟩ | ⟨g, cap, cur, hv, hg, hh, h1, h2, h3, h4⟩
  · exact ⟨none, 0, by rw [h1, h2], by omega, .inl (List.eq_nil_of_length_eq_zero h2)⟩
  · refine ⟨_, cap, hv, h1, .inr ⟨g, 0, rfl, (Array.getElem?_eq_some_iff.1 hh).1, fun i hi => ?_⟩⟩
    obtain ⟨a0, a1⟩ := cv_get l i hi
    have b : ∀ j, j < l.length * 2 → cur[j]? = (cv l)[j]? := fun j hj => by rw [← h4, List.getElem?_take_of_lt hj]; simp
    refine ⟨?_, ?_⟩
    · rw [cell_of_blk hh, Nat.zero_add, b _ (by omega)]; exact a0
    · rw [cell_of_blk hh, Nat.zero_add, b _ (by omega)]; exact a1

/-- The cells that are told where they are good. -/
def gd (cs : List Cc) : List Cc := if goodT cs = true then cs else []

set_option maxRecDepth 20000 in
set_option maxHeartbeats 1000000 in
theorem goodCells_any (V : Value) (cs : List Cc) (h : MC V cs) (hl : cs.length ≤ 1048576) (w : World) :
    Calls Try.prog 63 #[V] w fun e w' => ∃ s', e = .returned (.tuple #[s', .bool (goodT cs)]) ∧ w'.ownsRow w.heap.size 59 2 s' (gd cs).length (cv (gd cs)) ∧ Below w.heap.size w w' := by
  obtain ⟨T, u, f, rfl, hm, hf, hc⟩ := h
  have HC := hide (hc w.heap.size 0 [] (.slice none 0 0) w (World.ownsRow_nil _ _ _ _) (by omega) (Nat.le_refl _))
  have HG := hide (fun (ad : Option Addr) (c : Nat) (w : World) (h : CRow w ad cs) => implGoodT_any ad c cs w hl h)
  clear hc
  by_cases hgd : goodT cs = true
  · have e1 : gd cs = cs := if_pos hgd
    rw [e1, hgd]
    rw [hgd] at HG
    clear hgd e1
    go_enter Try.func63, Try.ntmps63
    go_wp2_with fail
    refine Calls.mono HC.out ?_
    rintro e w1 ⟨v1, rfl, ho1, hg1, -⟩
    rw [Nat.zero_add, List.nil_append] at ho1
    obtain ⟨ad, c, rfl, hlc, hR⟩ := cOwn_row ho1
    have HO := hide ho1
    have HR := hide hR
    have hB1 : Below w.heap.size w w1 := ⟨hg1.os, hg1.tape, hg1.output, hg1.size, fun k hk => hg1.block k hk (by simp [Value.ownBlock])⟩
    clear ho1 hR hg1
    go_wp2_with fail
    refine (HG.out _ _ _ HR.out).mono ?_
    rintro e w2 ⟨rfl, hb2⟩
    have hB2 : Below w.heap.size w w2 := hB1.trans (hb2.mono hB1.size)
    have HO2 := hide (tOwn_keep HO.out (fun k _ hk => hb2.block k hk))
    clear hb2
    go_wp2_with fail
    exact bodyPost_ret (v := .tuple #[.slice ad cs.length c, .bool true]) (by simp [results, Try.results63, go_sem]) rfl ⟨_, rfl, HO2.out, hB2⟩
  · have e1 : gd cs = [] := if_neg hgd
    rw [Bool.not_eq_true] at hgd
    rw [e1, hgd]
    rw [hgd] at HG
    clear hgd e1
    go_enter Try.func63, Try.ntmps63
    go_wp2_with fail
    refine Calls.mono HC.out ?_
    rintro e w1 ⟨v1, rfl, ho1, hg1, -⟩
    rw [Nat.zero_add, List.nil_append] at ho1
    obtain ⟨ad, c, rfl, hlc, hR⟩ := cOwn_row ho1
    have HO := hide ho1
    have HR := hide hR
    have hB1 : Below w.heap.size w w1 := ⟨hg1.os, hg1.tape, hg1.output, hg1.size, fun k hk => hg1.block k hk (by simp [Value.ownBlock])⟩
    clear ho1 hR hg1
    go_wp2_with fail
    refine (HG.out _ _ _ HR.out).mono ?_
    rintro e w2 ⟨rfl, hb2⟩
    have hB2 : Below w.heap.size w w2 := hB1.trans (hb2.mono hB1.size)
    have HO2 := hide (tOwn_keep HO.out (fun k _ hk => hb2.block k hk))
    clear hb2
    go_wp2_with fail
    exact bodyPost_ret (v := .tuple #[.slice none 0 0, .bool false]) (by simp [results, Try.results63, go_sem]) rfl ⟨_, rfl, World.ownsRow_nil _ _ _ _, hB2⟩
end Go.Proofs.Ytdajalchdbgooaa.W

/-
  Values read back are good terms but for their size; what ReadBack tells. No program here.
-/
namespace Go.Proofs.Ytdajalchdbgooaa.W
set_option linter.unusedVariables false

theorem fil_len (R : Int → F) (bs : List Bd) (env : Int) (hR : ∀ j, (R j).len = 1) : ∀ (a : F) (pk : Int) (d i : Nat), (fil R bs env pk d i a).len = a.len
  | .nil, _, _, _ => rfl
  | .cons x k r, pk, d, i => by
    rw [fil]
    split
    · rw [F.app_len, hR, fil_len R bs env hR r, F.len]; omega
    · rw [F.len, fil_len R bs env hR r, F.len]
theorem rbT_len (l : List Cc) (vs : List Vl) (bs : List Bd) : ∀ (f : Nat) (j : Int), (rbT l vs bs f j).len = 1
  | 0, _ => rfl
  | f + 1, j => by
    rw [rbT]
    split
    · rfl
    · split
      · split
        · rename_i t _ ht
          rw [fil_len _ _ _ (rbT_len l vs bs f)]
          exact (rt_flat ht).2.2
        · rfl
      · rfl
theorem fil_ok {R : Int → F} {bs : List Bd} {env : Int} {N : Nat} (hl : ∀ j, (R j).len = 1) (hR : ∀ n : Nat, n < N → (R (lkB bs n env)).ok) : ∀ (a : F) (pk : Int) (d i : Nat), a.ok → FBv pk (N + d) i a → (fil R bs env pk d i a).ok
  | .nil, _, _, _, _, _ => trivial
  | .cons x k r, pk, d, i, ⟨g1, g2, g3, g4⟩, ⟨b1, b2, b3⟩ => by
    rw [show N + d + binds pk i = N + (d + binds pk i) by omega] at b1 b2
    rw [fil]
    split
    · rename_i h
      have hb := b1 h.1
      exact (F.app_ok _ _).2 ⟨hR _ (by omega), fil_ok hl hR r pk d (i + 1) g4 b3⟩
    · exact ⟨g1, by rw [fil_len R bs env hl, g2], fil_ok hl hR k _ _ _ g3 b2, fil_ok hl hR r pk d (i + 1) g4 b3⟩
theorem rbT_ok {l : List Cc} {a : F} {m : Mc} (hC : Cl l a) (h : GM a l m) : ∀ (f j : Nat), j < f → j < m.vs.length → (rbT l m.vs m.bs f (j : Int)).ok
  | 0, j, hj, _ => by omega
  | f + 1, j, hj, hl => by
    have e0 : m.vs[((j : Int)).toNat]? = some m.vs[j] := by simp [hl]
    rw [rbT, e0]
    simp only
    by_cases hf : m.vs[j].fn = true
    · obtain ⟨x, k, r, hr, hx, hg, hk, ho, hfb, -, -, he, h0, hlt, hle, -⟩ := val_part hC h hl hf
      rw [if_pos hf, hr]
      simp only
      refine fil_ok (N := (bw m.bs m.vs[j].env).1.toNat) (rbT_len _ _ _ f) (fun n hn => ?_) _ _ _ _ ⟨hg, hk, ho, trivial⟩ hfb
      have q1 := lkB_ok h.bs n m.vs[j].env he.2 (by omega)
      have q2 := lkB_le h.bs n m.vs[j].env he.2 (by omega)
      obtain ⟨q, hq⟩ := Int.eq_ofNat_of_zero_le q1.1
      rw [hq]
      exact rbT_ok hC h f q (by omega) (by omega)
    · rw [if_neg hf]
      have := vOk_num (h.vs j hl) (by simpa using hf)
      refine ⟨?_, rfl, trivial, trivial⟩
      unfold goodC
      rw [if_neg (by simp), if_pos rfl]
      unfold inB
      simp
      omega

/-- What is read back. -/
def bkT (l : List Cc) (m : Mc) : F := rbT l m.vs m.bs m.vs.length m.val
def bkO (l : List Cc) (m : Mc) : Bool := goodM l m && (m.done && (decide (m.fs.length = 0) && decide ((bkT l m).flat.length ≤ 600)))
def bkB (l : List Cc) (m : Mc) : Bool := bkO l m && goodT (bkT l m).flat
def bkL (l : List Cc) (m : Mc) : List Cc := if bkO l m = true then gd (bkT l m).flat else []
theorem bkL_len (l : List Cc) (m : Mc) : (bkL l m).length ≤ 600 := by
  unfold bkL
  split
  · unfold gd
    split
    · rename_i h
      unfold goodT at h
      cases ht : treeT (bkT l m).flat with
      | none => rw [ht] at h; cases h
      | some c => exact (treeT_flat ht).2.2.2.1
    · simp
  · simp
/-- What is known where the machine is good, done, and nothing is to be done. -/
theorem bk_good {l : List Cc} {m : Mc} (h : goodM l m = true) (hd : m.done = true) : ∃ a, closedT l = some a ∧ Cl l a ∧ GM a l m ∧ ∃ j : Nat, m.val = (j : Int) ∧ j < m.vs.length := by
  unfold goodM at h
  cases hc : closedT l with
  | none => rw [hc] at h; cases h
  | some a =>
    rw [hc] at h
    simp only at h
    have hG := gM_iff.1 h
    have hC := (closedT_some hc).1
    obtain ⟨-, -, v0, v1⟩ := nOk_done hG.now hd
    obtain ⟨j, hj⟩ := Int.eq_ofNat_of_zero_le v0
    exact ⟨a, rfl, hC, hG, j, hj, by omega⟩
theorem bk_run {l : List Cc} {a : F} {m : Mc} (hC : Cl l a) (h : GM a l m) {j : Nat} (hv : m.val = (j : Int)) (hj : j < m.vs.length) :
    ((bkT l m).flat.length ≤ 600 → rbW l m.vs m.bs m.vs.length (j : Int) 0 = (bkT l m, ((bkT l m).flat.length : Int))) ∧ (600 < (bkT l m).flat.length → 600 < (rbW l m.vs m.bs m.vs.length (j : Int) 0).2) ∧ (bkT l m).ok ∧ (bkT l m).len = 1 := by
  have e1 := (rbW_eq hC h m.vs.length j hj hj 0 (by omega) (by omega)).1
  obtain ⟨o1, o2⟩ := (rb_ok hC h m.vs.length j hj hj).1 0
  unfold bkT
  rw [hv, e1]
  refine ⟨fun h6 => by rw [o1 (by omega)]; simp, fun h6 => o2 (by omega), rbT_ok hC h _ _ hj hj, rbT_len _ _ _ _ _⟩
end Go.Proofs.Ytdajalchdbgooaa.W

/-
  Contracts of l6Val, l6Env, l6Bound, l6Elder. Conditions: rows of at most 1048576, good bindings.
-/
namespace Go.Proofs.Ytdajalchdbgooaa.W
open Go.ChangeShapes Go.WideShapes Go.ChangeAt Go.RowKit
set_option linter.unusedVariables false
set_option linter.unusedSimpArgs false

set_option maxHeartbeats 1000000 in
theorem l6Val_any (d : Bool) (p e x : Int) (sf sb : Value) (av : Option Addr) (nv cv : Nat) (y : Int) (w : World) (hl : nv ≤ 1048576) :
    Calls Try.prog 74 #[.agg #[.bool d, .int .i64 p, .int .i64 e, .int .i64 x, sf, .slice av nv cv, sb], .int .i64 y] w fun r w' => r = .returned (.bool (blw y nv)) ∧ Below w.heap.size w w' := by
  by_cases h0 : 0 ≤ y
  · by_cases h1 : y < (nv : Int)
    · have hb : blw y nv = true := blw_iff.2 ⟨h0, h1⟩
      rw [hb]
      clear hb
      go_enter Try.func74, Try.ntmps74
      go_wp2_with fail
      go_ret
      exact ⟨rfl, (Below.refl _ _).alloc (Nat.le_refl _) _⟩
    · have hb : blw y nv = false := blw_not.2 (.inr (by omega))
      rw [hb]
      clear hb
      go_enter Try.func74, Try.ntmps74
      go_wp2_with fail
      go_ret
      exact ⟨rfl, (Below.refl _ _).alloc (Nat.le_refl _) _⟩
  · have hb : blw y nv = false := blw_not.2 (.inl (by omega))
    rw [hb]
    clear hb
    go_enter Try.func74, Try.ntmps74
    go_wp2_with fail
    go_ret
    exact ⟨rfl, (Below.refl _ _).alloc (Nat.le_refl _) _⟩

set_option maxHeartbeats 1000000 in
theorem l6Env_any (d : Bool) (p e x : Int) (sf sv : Value) (ab : Option Addr) (nb cb : Nat) (y : Int) (w : World) (hl : nb ≤ 1048576) :
    Calls Try.prog 111 #[.agg #[.bool d, .int .i64 p, .int .i64 e, .int .i64 x, sf, sv, .slice ab nb cb], .int .i64 y] w fun r w' => r = .returned (.bool (decide (y = -1) || blw y nb)) ∧ Below w.heap.size w w' := by
  have hw : IntKind.i64.wrap ((nb : Int) - 1) = (nb : Int) - 1 := IntWalk.i64_in _ ⟨by omega, by omega⟩
  have hb : inB y (-1) ((nb : Int) - 1) = (decide (y = -1) || blw y nb) := by
    rw [Bool.eq_iff_iff, Bool.or_eq_true, blw_iff, decide_eq_true_iff]
    unfold inB
    simp
    omega
  rw [← hb]
  have HI := hide (l1In_any y (-1) ((nb : Int) - 1))
  clear hb
  go_enter Try.func111, Try.ntmps111
  go_wp2_with fail
  refine (HI.out _).mono ?_
  rintro r w' ⟨rfl, hw'⟩
  subst hw'
  go_wp2_with fail
  go_ret
  exact ⟨rfl, (Below.refl _ _).alloc (Nat.le_refl _) _⟩

set_option maxHeartbeats 1000000 in
theorem l6Bound_any (d : Bool) (p e x : Int) (sf sv : Value) (ab : Option Addr) (cb nv : Nat) (bs : List Bd) (env : Int) (w : World) (h : BdRow w ab bs) (hb : bsOk nv bs = true) (he : -1 ≤ env ∧ env < bs.length) (hl : bs.length ≤ 1048576) :
    Calls Try.prog 112 #[.agg #[.bool d, .int .i64 p, .int .i64 e, .int .i64 x, sf, sv, .slice ab bs.length cb], .int .i64 env] w fun r w' => r = .returned (.int .i64 (bw bs env).1) ∧ Below w.heap.size w w' := by
  have HR := hide h
  have HB := hide hb
  obtain ⟨N, hN⟩ : ∃ N, N = (bw bs env).1 := ⟨_, rfl⟩
  rw [← hN]
  have HN := hide hN
  have HNb : Hid (N ≤ 1048576) := hide (by have := bw_bound hb (env.toNat + 1) env he.1 (by omega) he.2; omega)
  have hNb := HNb.out
  clear h hb hN HNb
  go_enter Try.func112, Try.ntmps112
  go_wp2_with fail
  have hX := Bx.new w #[.bool d, .int .i64 p, .int .i64 e, .int .i64 x, sf, sv, .slice ab bs.length cb] 28
  have hB0 : Below w.heap.size w (w.alloc (.cells #[.bool d, .int .i64 p, .int .i64 e, .int .i64 x, sf, sv, .slice ab bs.length cb] 28)) := (Below.refl _ _).alloc (Nat.le_refl _) _
  obtain ⟨w0, hw0⟩ : ∃ w0, w0 = w.alloc (.cells #[.bool d, .int .i64 p, .int .i64 e, .int .i64 x, sf, sv, .slice ab bs.length cb] 28) := ⟨_, rfl⟩
  rw [← hw0] at hX hB0 ⊢
  have hcx := hX.c
  clear hw0 hX
  go_loopw [1, 5] (fun ev i w' => ∃ (j : Nat) (en : Int), i = .int .i64 (j : Int) ∧ ev = .int .i64 en ∧ -1 ≤ en ∧ en < bs.length ∧ (bw bs en).1 + j = N ∧ w' = w0) (fun ev _ _ => (intOf ev + 1).toNat)
  case atStart => exact ⟨0, env, rfl, rfl, he.1, he.2, by rw [HN.out]; simp, rfl⟩
  case round =>
    obtain ⟨j, en, rfl, rfl, e1, e2, e3, rfl⟩ := hrel
    have E3 := hide e3
    have hbd := bw_bound HB.out (en.toNat + 1) en e1 (by omega) e2
    have hj6 : (j : Int) ≤ 1048576 := by omega
    clear e3 hbd
    by_cases hn : en < 0
    · have HZ := hide (bw_neg bs en hn)
      have hn' : ¬ (0 : Int) ≤ en := by omega
      go_wp2_with fail
      go_ret
      have h3 := E3.out
      rw [HZ.out] at h3
      simp only at h3
      exact ⟨ret_int (by omega), hB0⟩
    · obtain ⟨k, rfl⟩ := Int.eq_ofNat_of_zero_le (Int.not_lt.1 hn)
      have hk : k < bs.length := by omega
      have hk' : (k : Int) < (bs.length : Int) := by omega
      have hk0 : (0 : Int) ≤ (k : Int) := by omega
      obtain ⟨b, o, rfl, hb, q0, q1⟩ := BdRow.tok HR.out hB0 hk
      have hbk := bsOk_at HB.out hk
      have HS := hide (bw_step HB.out hk)
      obtain ⟨y, hy⟩ : ∃ y, y = bs[k] := ⟨_, rfl⟩
      rw [← hy] at q0 q1 hbk HS
      clear hy q0 hn
      go_wp2_with fail
      have h3 := E3.out
      rw [HS.out] at h3
      simp only at h3
      exact ⟨⟨j + 1, y.up, by go_num, rfl, by omega, by omega, by omega, trivial⟩, by simp [intOf]; omega⟩

set_option maxHeartbeats 1000000 in
theorem l6Elder_any (d : Bool) (p e x : Int) (sf sv : Value) (ab : Option Addr) (cb nv : Nat) (bs : List Bd) (env t : Int) (w : World) (h : BdRow w ab bs) (hb : bsOk nv bs = true) (he : -1 ≤ env ∧ env < bs.length) (ht : 0 ≤ t) (hl : bs.length ≤ 1048576) :
    Calls Try.prog 76 #[.agg #[.bool d, .int .i64 p, .int .i64 e, .int .i64 x, sf, sv, .slice ab bs.length cb], .int .i64 env, .int .i64 t] w fun r w' => r = .returned (.bool (decide ((bw bs env).2 < t))) ∧ Below w.heap.size w w' := by
  have HR := hide h
  have HB := hide hb
  obtain ⟨N, hN⟩ : ∃ N, N = decide ((bw bs env).2 < t) := ⟨_, rfl⟩
  rw [← hN]
  have HN := hide hN
  clear h hb hN
  go_enter Try.func76, Try.ntmps76
  go_wp2_with fail
  have hX := Bx.new w #[.bool d, .int .i64 p, .int .i64 e, .int .i64 x, sf, sv, .slice ab bs.length cb] 28
  have hB0 : Below w.heap.size w (w.alloc (.cells #[.bool d, .int .i64 p, .int .i64 e, .int .i64 x, sf, sv, .slice ab bs.length cb] 28)) := (Below.refl _ _).alloc (Nat.le_refl _) _
  obtain ⟨w0, hw0⟩ : ∃ w0, w0 = w.alloc (.cells #[.bool d, .int .i64 p, .int .i64 e, .int .i64 x, sf, sv, .slice ab bs.length cb] 28) := ⟨_, rfl⟩
  rw [← hw0] at hX hB0 ⊢
  have hcx := hX.c
  clear hw0 hX
  go_loopw [1] (fun ev w' => ∃ (en : Int), ev = .int .i64 en ∧ -1 ≤ en ∧ en < bs.length ∧ N = decide ((bw bs en).2 < t) ∧ w' = w0) (fun ev _ => (intOf ev + 1).toNat)
  case atStart => exact ⟨env, rfl, he.1, he.2, HN.out, rfl⟩
  case round =>
    obtain ⟨en, rfl, e1, e2, e3, rfl⟩ := hrel
    have E3 := hide e3
    clear e3
    by_cases hn : en < 0
    · have HZ := hide (bw_neg bs en hn)
      have hn' : ¬ (0 : Int) ≤ en := by omega
      go_wp2_with fail
      go_ret
      have h3 := E3.out
      rw [HZ.out, decide_eq_true (show ((0 : Int), (-1 : Int)).2 < t by simp only; omega)] at h3
      exact ⟨by rw [h3]; rfl, hB0⟩
    · obtain ⟨k, rfl⟩ := Int.eq_ofNat_of_zero_le (Int.not_lt.1 hn)
      have hk : k < bs.length := by omega
      have hk' : (k : Int) < (bs.length : Int) := by omega
      have hk0 : (0 : Int) ≤ (k : Int) := by omega
      obtain ⟨b, o, rfl, hb, q0, q1⟩ := BdRow.tok HR.out hB0 hk
      have hbk := bsOk_at HB.out hk
      have HS := hide (bw_step HB.out hk)
      obtain ⟨y, hy⟩ : ∃ y, y = bs[k] := ⟨_, rfl⟩
      rw [← hy] at q0 q1 hbk HS
      clear hy hn
      by_cases hv : t ≤ y.val
      · clear q1
        go_wp2_with fail
        go_ret
        have h3 := E3.out
        rw [HS.out, decide_eq_false (show ¬ ((bw bs y.up).1 + 1, max (bw bs y.up).2 y.val).2 < t by simp only; omega)] at h3
        exact ⟨by rw [h3]; rfl, hB0⟩
      · go_wp2_with fail
        have h3 := E3.out
        rw [HS.out] at h3
        refine ⟨⟨y.up, rfl, by omega, by omega, ?_, trivial⟩, by simp [intOf]; omega⟩
        rw [h3]
        simp only [decide_eq_decide]
        omega
end Go.Proofs.Ytdajalchdbgooaa.W

/-
  Tokens of an expression, the program's: the contract of tokensAt. Conditions: rows of at most 40 parts.
-/
import Derived.Test.YtjffignbiabmaaaDoorXtJ
import Derived.Test.YtjffignbiabmaaaDoorXtV
namespace Go.Proofs.YtjffignbiabmaaaDoor.W.T
open Go.ChangeShapes Go.WideShapes Go.ChangeAt Go.RowKit
set_option linter.unusedVariables false

theorem xOwn_far {w w' : World} {v v' : Value} {b2 n : Nat} {v2 : Value} {xs : List Value} (h : w.ownsRow b2 87 4 v2 n xs) (hg : GA w v w' v') (hn : ∀ k, v.ownBlock = some k → k < b2) : w'.ownsRow b2 87 4 v2 n xs :=
  own_keep h (fun k h1 h2 => hg.g.block k h2 (fun e => by have := hn k e.symm; omega))

set_option maxRecDepth 20000 in
set_option maxHeartbeats 8000000 in
theorem tokensAt_two (ad : Option Addr) (c : Nat) (l : List Xx) (hl : l.length ≤ 40) (x : Xx) (a b : E) (iha : TAGoal ad c l a) (ihb : TAGoal ad c l b) : TAGoal ad c l (.two x a b) := by
  intro hok least p r w hR hS hd
  obtain ⟨hg, hb1, hoa, hob⟩ := hok
  have hk := behind_2 hb1
  have hlen := drop_len hd (E.flat_pos _)
  have hd1 : l.drop p = x :: (a.flat ++ (b.flat ++ r)) := by rw [hd]; simp [E.flat]
  have hda : l.drop (p + 1) = a.flat ++ (b.flat ++ r) := by rw [← List.drop_drop, hd1]; rfl
  have hdb : l.drop (p + 1 + a.flat.length) = b.flat ++ r := by rw [← List.drop_drop, hda]; simp
  obtain ⟨hp, hx⟩ := drop_lt hd1
  have hp' : (p : Int) < (l.length : Int) := by omega
  have hp0 : (0 : Int) ≤ (p : Int) := by omega
  obtain ⟨bb, o, rfl, hbb0, p0, p1, p2⟩ := hR.tok (Below.refl _ _) hp
  rw [hx] at p0 p1 p2
  have hfl : (E.two x a b).flat.length = 1 + a.flat.length + b.flat.length := by simp [E.flat]; omega
  have e2 : p + (E.two x a b).flat.length = p + 1 + a.flat.length + b.flat.length := by omega
  have IA := hide (fun (w' : World) (hb : Below w.heap.size w w') => iha hoa (lL (strN x.t)) (p + 1) _ w' (hR.below hb) (hS.below hb) hda)
  have IB := hide (fun (w' : World) (hb : Below w.heap.size w w') => ihb hob (lR (strN x.t)) (p + 1 + a.flat.length) _ w' (hR.below hb) (hS.below hb) hdb)
  have HS := hide (fun (w' : World) (hb : Below w.heap.size w w') => StrengthOf_any x.t w' (hS.below hb))
  have hla := tks_len a (lL (strN x.t))
  have hlb := tks_len b (lR (strN x.t))
  have e1 : tks (.two x a b) least = if strN x.t < least then sgT ⟨#[40]⟩ :: (tks a (lL (strN x.t)) ++ sgT x.t :: tks b (lR (strN x.t))) ++ [sgT ⟨#[41]⟩] else tks a (lL (strN x.t)) ++ sgT x.t :: tks b (lR (strN x.t)) := rfl
  have hS0 := strN_nonneg x.t
  have hS9 := strN_le x.t
  unfold TAOut at IA IB ⊢
  rw [e1, e2]
  rw [show ((p + 1 : Nat) : Int) = (p : Int) + 1 by omega] at IA
  obtain ⟨LA, hLA⟩ : ∃ L, L = tks a (lL (strN x.t)) := ⟨_, rfl⟩
  obtain ⟨LB, hLB⟩ : ∃ L, L = tks b (lR (strN x.t)) := ⟨_, rfl⟩
  rw [← hLA] at IA hla ⊢
  rw [← hLB] at IB hlb ⊢
  obtain ⟨PA, hPA⟩ : ∃ P : Nat, P = p + 1 + a.flat.length := ⟨_, rfl⟩
  rw [← hPA] at IA IB ⊢
  obtain ⟨PB, hPB⟩ : ∃ P : Nat, P = PA + b.flat.length := ⟨_, rfl⟩
  rw [← hPB] at IB ⊢
  have hLAl : LA.length ≤ 1000 := by omega
  have hLBl : LB.length ≤ 1000 := by omega
  have hLA0 := hla.2
  have hLB0 := hlb.2
  obtain ⟨N, hN⟩ : ∃ N, N = strN x.t := ⟨_, rfl⟩
  rw [← hN] at IA IB HS hS0 hS9 ⊢
  clear hR hS hd hd1 hda hdb hx hg hb1 e1 e2 iha ihb hlen hLA hLB hPA hPB hN hla hlb hfl hoa hob
  obtain ⟨xk, xn, xt⟩ := x
  simp only at *
  subst hk
  have hlist1 : Hid (tkC LA ++ tkC1 (sgT xt) ++ tkC LB = tkC (LA ++ sgT xt :: LB) ∧ LA.length + 1 + LB.length = (LA ++ sgT xt :: LB).length) := hide ⟨by rw [tkC_app, tkC_cons]; simp, by simp; omega⟩
  obtain ⟨LL, hLL⟩ : ∃ L, L = LA ++ sgT xt :: LB := ⟨_, rfl⟩
  rw [← hLL] at hlist1 ⊢
  have hLLl : LL.length ≤ 100000 := by rw [hLL]; simp; omega
  have hLL0 : 0 < LL.length := by rw [hLL]; simp; omega
  have E3 := hide hlist1.out
  have HLL := hide hLL
  clear hLL hlist1
  by_cases hlt : N < least
  · rw [if_pos hlt]
    by_cases h7 : N = 7
    · rw [show lL N = N + 1 from if_pos h7] at IA
      rw [show lR N = N from if_pos h7] at IB
      have HS7 : Hid (∀ (w' : World), Below w.heap.size w w' → Calls Tryd.prog 95 #[.string xt] w' fun e w'' => e = .returned (.tuple #[.int .i64 N, .bool true, .bool (decide (N ≠ 0))]) ∧ Below w'.heap.size w' w'') := hide (fun w' hb => by have := HS.out w' hb; rw [decide_eq_true h7] at this; exact this)
      clear HS h7
      go_enter Tryd.func57, Tryd.ntmps57
      go_wp2_with fail
      refine Calls.mono (HS7.out _ ((Below.refl _ _).alloc (Nat.le_refl _) _)) ?_
      rintro e w2 ⟨rfl, hb2'⟩
      have hb2 : Below w.heap.size w w2 := ((Below.refl _ _).alloc (Nat.le_refl _) _).trans (hb2'.mono (by simp))
      have hs2 := hb2.size
      clear hb2' HS7
      go_wp2_with fail
      refine Calls.mono (IA.out _ hb2) ?_
      rintro e w3 ⟨v3, rfl, hown3, hb3'⟩
      obtain ⟨ad3, c3, rfl⟩ := xOwn_form hown3
      have hb3 : Below w.heap.size w w3 := hb2.trans (hb3'.mono hs2)
      have hs3 := hb3'.size
      have HO3 := hide hown3
      clear hown3 hb3' IA
      go_wp2_with fail
      refine Calls.mono (IB.out _ hb3) ?_
      rintro e w4 ⟨v4, rfl, hown4, hb4'⟩
      obtain ⟨ad4, c4, rfl⟩ := xOwn_form hown4
      have hb4 : Below w.heap.size w w4 := hb3.trans (hb4'.mono (by omega))
      have hs4 := hb4'.size
      have hol : Hid (∀ k, (Value.slice ad3 LA.length c3).ownBlock = some k → w2.heap.size ≤ k ∧ k < w3.heap.size) := hide (HO3.out.lt)
      have HO3' := hide (own_below HO3.out hb4')
      have HO4 := hide hown4
      have q2 : w4.cell? ⟨bb, o + p * 3 + 2, none⟩ = some (.string xt) := (hb4.cell (p := ⟨bb, o + p * 3 + 2, none⟩) hbb0).trans p2
      clear hown4 hb4' IB HO3 p0 p1 p2
      go_wp2_with (first | (go_at_call 96; refine (signToken_any _ _).mono ?_; rintro e w5 ⟨rfl, rfl⟩) | (at_builtin; refine wpList_append_tk rfl _ _ rfl w2.heap.size _ LA.length (tkC LA) rfl ((HO3'.out.alloc _).alloc _) (w4.heap.size + 1) 1 (sgT xt) rfl (by have := heap_alloc_new (w4.alloc (.cells #[.int .i64 3, .int .i64 0, .string xt, .int .i64 0] 87)) (.cells #[.int .i64 3, .int .i64 0, .string xt, .int .i64 0] 87); rw [World.size_alloc] at this; exact this) (by omega) (by simp; omega) ?_))
      intro v5 w5 hown5 hg5
      obtain ⟨ad5, c5, rfl⟩ := xOwn_form hown5
      have hb5 : Below w.heap.size w w5 := hg5.below ((hb4.alloc (by omega) _).alloc (by simp; omega) _) (by simp; omega) (fun k hk => by have := (hol.out k hk).1; omega)
      have hs5 : w4.heap.size ≤ w5.heap.size := by have := hg5.g.size; simp at this; omega
      have HO5 := hide hown5
      have HR5 := hide (xOwn_far ((HO4.out.alloc _).alloc _) hg5 (fun k hk => (hol.out k hk).2))
      have hol5 : Hid (∀ k, (Value.slice ad5 (LA.length + 1) c5).ownBlock = some k → w2.heap.size ≤ k ∧ k < w5.heap.size) := hide (HO5.out.lt)
      clear hown5 hg5 HO3' HO4 q2
      go_wp2_with (at_builtin; refine wpList_append_tks rfl _ _ rfl w2.heap.size _ (LA.length + 1) (tkC LA ++ tkC1 (sgT xt)) rfl HO5.out w3.heap.size _ LB.length (tkC LB) rfl HR5.out (tkC_oneC LB) (by omega) (by omega) hLB0 (by omega) ?_)
      intro v6 w6 hown6 hg6
      rw [← List.append_assoc, E3.out.1, E3.out.2] at hown6
      obtain ⟨ad6, c6, rfl⟩ := xOwn_form hown6
      have hb6 : Below w.heap.size w w6 := hg6.below hb5 (by omega) (fun k hk => by have := (hol5.out k hk).1; omega)
      have hs6 : w5.heap.size ≤ w6.heap.size := hg6.g.size
      have HO6 := hide hown6
      clear hown6 hg6 HO5 HR5 hol5
      go_wp2_with (first | (go_at_call 96; refine (signToken_any _ _).mono ?_; rintro e w7 ⟨rfl, rfl⟩) | (at_builtin; refine wpList_append_tks rfl _ _ rfl w2.heap.size _ 1 (tkC1 (sgT ⟨#[40]⟩)) rfl (own_tk (g := w6.heap.size + 1) (sgT ⟨#[40]⟩) (by omega) (by have := heap_alloc_new (w6.alloc (.cells #[.int .i64 3, .int .i64 0, .string ⟨#[40]⟩, .int .i64 0] 87)) (.cells #[.int .i64 3, .int .i64 0, .string ⟨#[40]⟩, .int .i64 0] 87); rw [World.size_alloc] at this; exact this)) w2.heap.size _ LL.length (tkC LL) rfl ((HO6.out.alloc _).alloc _) (tkC_oneC LL) (by omega) (by omega) hLL0 (by simp; omega) ?_))
      intro v7 w7 hown7 hg7
      obtain ⟨ad7, c7, rfl⟩ := xOwn_form hown7
      have hb7 : Below w.heap.size w w7 := hg7.below ((hb6.alloc (by omega) _).alloc (by simp; omega) _) (by simp; omega) (fun k hk => by simp [Value.ownBlock] at hk; omega)
      have hs7 : w6.heap.size ≤ w7.heap.size := by have := hg7.g.size; simp at this; omega
      have HO7 := hide hown7
      have hol7 : Hid (∀ k, (Value.slice ad7 (1 + LL.length) c7).ownBlock = some k → w2.heap.size ≤ k ∧ k < w7.heap.size) := hide (HO7.out.lt)
      clear hown7 hg7 HO6
      go_wp2_with (first | (go_at_call 96; refine (signToken_any _ _).mono ?_; rintro e w8 ⟨rfl, rfl⟩) | (at_builtin; refine wpList_append_tk rfl _ _ rfl w2.heap.size _ (1 + LL.length) (tkC1 (sgT ⟨#[40]⟩) ++ tkC LL) rfl ((HO7.out.alloc _).alloc _) (w7.heap.size + 1) 1 (sgT ⟨#[41]⟩) rfl (by have := heap_alloc_new (w7.alloc (.cells #[.int .i64 3, .int .i64 0, .string ⟨#[41]⟩, .int .i64 0] 87)) (.cells #[.int .i64 3, .int .i64 0, .string ⟨#[41]⟩, .int .i64 0] 87); rw [World.size_alloc] at this; exact this) (by omega) (by simp; omega) ?_))
      intro v8 w8 hown8 hg8
      obtain ⟨ad8, c8, rfl⟩ := xOwn_form hown8
      have hb8 : Below w.heap.size w w8 := hg8.below ((hb7.alloc (by omega) _).alloc (by simp; omega) _) (by simp; omega) (fun k hk => by have := (hol7.out k hk).1; omega)
      have HO8 := hide (xOwn_down hown8 (b' := w.heap.size) (by omega))
      clear hown8 hg8 HO7
      go_wp2_with fail
      refine bodyPost_ret (v := .tuple #[.slice ad8 (1 + LL.length + 1) c8, .int .i64 (PB : Int)]) (by simp [results, Tryd.results57, go_sem]) rfl ⟨_, rfl, ?_, hb8⟩
      have h9 := HO8.out
      try rw [List.append_assoc] at h9
      rw [show 1 + LL.length + 1 = (sgT ⟨#[40]⟩ :: (LL ++ [sgT ⟨#[41]⟩])).length by simp; omega, show tkC1 (sgT ⟨#[40]⟩) ++ (tkC LL ++ tkC1 (sgT ⟨#[41]⟩)) = tkC (sgT ⟨#[40]⟩ :: (LL ++ [sgT ⟨#[41]⟩])) by rw [tkC_cons, tkC_app, tkC_one]] at h9
      rw [show 1 + LL.length + 1 = (sgT ⟨#[40]⟩ :: (LL ++ [sgT ⟨#[41]⟩])).length by simp; omega]
      exact h9
    · rw [show lL N = N from if_neg h7] at IA
      rw [show lR N = N + 1 from if_neg h7] at IB
      have HS7 : Hid (∀ (w' : World), Below w.heap.size w w' → Calls Tryd.prog 95 #[.string xt] w' fun e w'' => e = .returned (.tuple #[.int .i64 N, .bool false, .bool (decide (N ≠ 0))]) ∧ Below w'.heap.size w' w'') := hide (fun w' hb => by have := HS.out w' hb; rw [decide_eq_false h7] at this; exact this)
      clear HS h7
      go_enter Tryd.func57, Tryd.ntmps57
      go_wp2_with fail
      refine Calls.mono (HS7.out _ ((Below.refl _ _).alloc (Nat.le_refl _) _)) ?_
      rintro e w2 ⟨rfl, hb2'⟩
      have hb2 : Below w.heap.size w w2 := ((Below.refl _ _).alloc (Nat.le_refl _) _).trans (hb2'.mono (by simp))
      have hs2 := hb2.size
      clear hb2' HS7
      go_wp2_with fail
      refine Calls.mono (IA.out _ hb2) ?_
      rintro e w3 ⟨v3, rfl, hown3, hb3'⟩
      obtain ⟨ad3, c3, rfl⟩ := xOwn_form hown3
      have hb3 : Below w.heap.size w w3 := hb2.trans (hb3'.mono hs2)
      have hs3 := hb3'.size
      have HO3 := hide hown3
      clear hown3 hb3' IA
      go_wp2_with fail
      refine Calls.mono (IB.out _ hb3) ?_
      rintro e w4 ⟨v4, rfl, hown4, hb4'⟩
      obtain ⟨ad4, c4, rfl⟩ := xOwn_form hown4
      have hb4 : Below w.heap.size w w4 := hb3.trans (hb4'.mono (by omega))
      have hs4 := hb4'.size
      have hol : Hid (∀ k, (Value.slice ad3 LA.length c3).ownBlock = some k → w2.heap.size ≤ k ∧ k < w3.heap.size) := hide (HO3.out.lt)
      have HO3' := hide (own_below HO3.out hb4')
      have HO4 := hide hown4
      have q2 : w4.cell? ⟨bb, o + p * 3 + 2, none⟩ = some (.string xt) := (hb4.cell (p := ⟨bb, o + p * 3 + 2, none⟩) hbb0).trans p2
      clear hown4 hb4' IB HO3 p0 p1 p2
      go_wp2_with (first | (go_at_call 96; refine (signToken_any _ _).mono ?_; rintro e w5 ⟨rfl, rfl⟩) | (at_builtin; refine wpList_append_tk rfl _ _ rfl w2.heap.size _ LA.length (tkC LA) rfl ((HO3'.out.alloc _).alloc _) (w4.heap.size + 1) 1 (sgT xt) rfl (by have := heap_alloc_new (w4.alloc (.cells #[.int .i64 3, .int .i64 0, .string xt, .int .i64 0] 87)) (.cells #[.int .i64 3, .int .i64 0, .string xt, .int .i64 0] 87); rw [World.size_alloc] at this; exact this) (by omega) (by simp; omega) ?_))
      intro v5 w5 hown5 hg5
      obtain ⟨ad5, c5, rfl⟩ := xOwn_form hown5
      have hb5 : Below w.heap.size w w5 := hg5.below ((hb4.alloc (by omega) _).alloc (by simp; omega) _) (by simp; omega) (fun k hk => by have := (hol.out k hk).1; omega)
      have hs5 : w4.heap.size ≤ w5.heap.size := by have := hg5.g.size; simp at this; omega
      have HO5 := hide hown5
      have HR5 := hide (xOwn_far ((HO4.out.alloc _).alloc _) hg5 (fun k hk => (hol.out k hk).2))
      have hol5 : Hid (∀ k, (Value.slice ad5 (LA.length + 1) c5).ownBlock = some k → w2.heap.size ≤ k ∧ k < w5.heap.size) := hide (HO5.out.lt)
      clear hown5 hg5 HO3' HO4 q2
      go_wp2_with (at_builtin; refine wpList_append_tks rfl _ _ rfl w2.heap.size _ (LA.length + 1) (tkC LA ++ tkC1 (sgT xt)) rfl HO5.out w3.heap.size _ LB.length (tkC LB) rfl HR5.out (tkC_oneC LB) (by omega) (by omega) hLB0 (by omega) ?_)
      intro v6 w6 hown6 hg6
      rw [← List.append_assoc, E3.out.1, E3.out.2] at hown6
      obtain ⟨ad6, c6, rfl⟩ := xOwn_form hown6
      have hb6 : Below w.heap.size w w6 := hg6.below hb5 (by omega) (fun k hk => by have := (hol5.out k hk).1; omega)
      have hs6 : w5.heap.size ≤ w6.heap.size := hg6.g.size
      have HO6 := hide hown6
      clear hown6 hg6 HO5 HR5 hol5
      go_wp2_with (first | (go_at_call 96; refine (signToken_any _ _).mono ?_; rintro e w7 ⟨rfl, rfl⟩) | (at_builtin; refine wpList_append_tks rfl _ _ rfl w2.heap.size _ 1 (tkC1 (sgT ⟨#[40]⟩)) rfl (own_tk (g := w6.heap.size + 1) (sgT ⟨#[40]⟩) (by omega) (by have := heap_alloc_new (w6.alloc (.cells #[.int .i64 3, .int .i64 0, .string ⟨#[40]⟩, .int .i64 0] 87)) (.cells #[.int .i64 3, .int .i64 0, .string ⟨#[40]⟩, .int .i64 0] 87); rw [World.size_alloc] at this; exact this)) w2.heap.size _ LL.length (tkC LL) rfl ((HO6.out.alloc _).alloc _) (tkC_oneC LL) (by omega) (by omega) hLL0 (by simp; omega) ?_))
      intro v7 w7 hown7 hg7
      obtain ⟨ad7, c7, rfl⟩ := xOwn_form hown7
      have hb7 : Below w.heap.size w w7 := hg7.below ((hb6.alloc (by omega) _).alloc (by simp; omega) _) (by simp; omega) (fun k hk => by simp [Value.ownBlock] at hk; omega)
      have hs7 : w6.heap.size ≤ w7.heap.size := by have := hg7.g.size; simp at this; omega
      have HO7 := hide hown7
      have hol7 : Hid (∀ k, (Value.slice ad7 (1 + LL.length) c7).ownBlock = some k → w2.heap.size ≤ k ∧ k < w7.heap.size) := hide (HO7.out.lt)
      clear hown7 hg7 HO6
      go_wp2_with (first | (go_at_call 96; refine (signToken_any _ _).mono ?_; rintro e w8 ⟨rfl, rfl⟩) | (at_builtin; refine wpList_append_tk rfl _ _ rfl w2.heap.size _ (1 + LL.length) (tkC1 (sgT ⟨#[40]⟩) ++ tkC LL) rfl ((HO7.out.alloc _).alloc _) (w7.heap.size + 1) 1 (sgT ⟨#[41]⟩) rfl (by have := heap_alloc_new (w7.alloc (.cells #[.int .i64 3, .int .i64 0, .string ⟨#[41]⟩, .int .i64 0] 87)) (.cells #[.int .i64 3, .int .i64 0, .string ⟨#[41]⟩, .int .i64 0] 87); rw [World.size_alloc] at this; exact this) (by omega) (by simp; omega) ?_))
      intro v8 w8 hown8 hg8
      obtain ⟨ad8, c8, rfl⟩ := xOwn_form hown8
      have hb8 : Below w.heap.size w w8 := hg8.below ((hb7.alloc (by omega) _).alloc (by simp; omega) _) (by simp; omega) (fun k hk => by have := (hol7.out k hk).1; omega)
      have HO8 := hide (xOwn_down hown8 (b' := w.heap.size) (by omega))
      clear hown8 hg8 HO7
      go_wp2_with fail
      refine bodyPost_ret (v := .tuple #[.slice ad8 (1 + LL.length + 1) c8, .int .i64 (PB : Int)]) (by simp [results, Tryd.results57, go_sem]) rfl ⟨_, rfl, ?_, hb8⟩
      have h9 := HO8.out
      try rw [List.append_assoc] at h9
      rw [show 1 + LL.length + 1 = (sgT ⟨#[40]⟩ :: (LL ++ [sgT ⟨#[41]⟩])).length by simp; omega, show tkC1 (sgT ⟨#[40]⟩) ++ (tkC LL ++ tkC1 (sgT ⟨#[41]⟩)) = tkC (sgT ⟨#[40]⟩ :: (LL ++ [sgT ⟨#[41]⟩])) by rw [tkC_cons, tkC_app, tkC_one]] at h9
      rw [show 1 + LL.length + 1 = (sgT ⟨#[40]⟩ :: (LL ++ [sgT ⟨#[41]⟩])).length by simp; omega]
      exact h9
  · rw [if_neg hlt]
    by_cases h7 : N = 7
    · rw [show lL N = N + 1 from if_pos h7] at IA
      rw [show lR N = N from if_pos h7] at IB
      have HS7 : Hid (∀ (w' : World), Below w.heap.size w w' → Calls Tryd.prog 95 #[.string xt] w' fun e w'' => e = .returned (.tuple #[.int .i64 N, .bool true, .bool (decide (N ≠ 0))]) ∧ Below w'.heap.size w' w'') := hide (fun w' hb => by have := HS.out w' hb; rw [decide_eq_true h7] at this; exact this)
      clear HS h7
      go_enter Tryd.func57, Tryd.ntmps57
      go_wp2_with fail
      refine Calls.mono (HS7.out _ ((Below.refl _ _).alloc (Nat.le_refl _) _)) ?_
      rintro e w2 ⟨rfl, hb2'⟩
      have hb2 : Below w.heap.size w w2 := ((Below.refl _ _).alloc (Nat.le_refl _) _).trans (hb2'.mono (by simp))
      have hs2 := hb2.size
      clear hb2' HS7
      go_wp2_with fail
      refine Calls.mono (IA.out _ hb2) ?_
      rintro e w3 ⟨v3, rfl, hown3, hb3'⟩
      obtain ⟨ad3, c3, rfl⟩ := xOwn_form hown3
      have hb3 : Below w.heap.size w w3 := hb2.trans (hb3'.mono hs2)
      have hs3 := hb3'.size
      have HO3 := hide hown3
      clear hown3 hb3' IA
      go_wp2_with fail
      refine Calls.mono (IB.out _ hb3) ?_
      rintro e w4 ⟨v4, rfl, hown4, hb4'⟩
      obtain ⟨ad4, c4, rfl⟩ := xOwn_form hown4
      have hb4 : Below w.heap.size w w4 := hb3.trans (hb4'.mono (by omega))
      have hs4 := hb4'.size
      have hol : Hid (∀ k, (Value.slice ad3 LA.length c3).ownBlock = some k → w2.heap.size ≤ k ∧ k < w3.heap.size) := hide (HO3.out.lt)
      have HO3' := hide (own_below HO3.out hb4')
      have HO4 := hide hown4
      have q2 : w4.cell? ⟨bb, o + p * 3 + 2, none⟩ = some (.string xt) := (hb4.cell (p := ⟨bb, o + p * 3 + 2, none⟩) hbb0).trans p2
      clear hown4 hb4' IB HO3 p0 p1 p2
      go_wp2_with (first | (go_at_call 96; refine (signToken_any _ _).mono ?_; rintro e w5 ⟨rfl, rfl⟩) | (at_builtin; refine wpList_append_tk rfl _ _ rfl w2.heap.size _ LA.length (tkC LA) rfl ((HO3'.out.alloc _).alloc _) (w4.heap.size + 1) 1 (sgT xt) rfl (by have := heap_alloc_new (w4.alloc (.cells #[.int .i64 3, .int .i64 0, .string xt, .int .i64 0] 87)) (.cells #[.int .i64 3, .int .i64 0, .string xt, .int .i64 0] 87); rw [World.size_alloc] at this; exact this) (by omega) (by simp; omega) ?_))
      intro v5 w5 hown5 hg5
      obtain ⟨ad5, c5, rfl⟩ := xOwn_form hown5
      have hb5 : Below w.heap.size w w5 := hg5.below ((hb4.alloc (by omega) _).alloc (by simp; omega) _) (by simp; omega) (fun k hk => by have := (hol.out k hk).1; omega)
      have hs5 : w4.heap.size ≤ w5.heap.size := by have := hg5.g.size; simp at this; omega
      have HO5 := hide hown5
      have HR5 := hide (xOwn_far ((HO4.out.alloc _).alloc _) hg5 (fun k hk => (hol.out k hk).2))
      have hol5 : Hid (∀ k, (Value.slice ad5 (LA.length + 1) c5).ownBlock = some k → w2.heap.size ≤ k ∧ k < w5.heap.size) := hide (HO5.out.lt)
      clear hown5 hg5 HO3' HO4 q2
      go_wp2_with (at_builtin; refine wpList_append_tks rfl _ _ rfl w2.heap.size _ (LA.length + 1) (tkC LA ++ tkC1 (sgT xt)) rfl HO5.out w3.heap.size _ LB.length (tkC LB) rfl HR5.out (tkC_oneC LB) (by omega) (by omega) hLB0 (by omega) ?_)
      intro v6 w6 hown6 hg6
      rw [← List.append_assoc, E3.out.1, E3.out.2] at hown6
      obtain ⟨ad6, c6, rfl⟩ := xOwn_form hown6
      have hb6 : Below w.heap.size w w6 := hg6.below hb5 (by omega) (fun k hk => by have := (hol5.out k hk).1; omega)
      have hs6 : w5.heap.size ≤ w6.heap.size := hg6.g.size
      have HO6 := hide hown6
      clear hown6 hg6 HO5 HR5 hol5
      go_wp2_with fail
      exact bodyPost_ret (v := .tuple #[.slice ad6 LL.length c6, .int .i64 (PB : Int)]) (by simp [results, Tryd.results57, go_sem]) rfl ⟨_, rfl, xOwn_down HO6.out (b' := w.heap.size) (by omega), hb6⟩
    · rw [show lL N = N from if_neg h7] at IA
      rw [show lR N = N + 1 from if_neg h7] at IB
      have HS7 : Hid (∀ (w' : World), Below w.heap.size w w' → Calls Tryd.prog 95 #[.string xt] w' fun e w'' => e = .returned (.tuple #[.int .i64 N, .bool false, .bool (decide (N ≠ 0))]) ∧ Below w'.heap.size w' w'') := hide (fun w' hb => by have := HS.out w' hb; rw [decide_eq_false h7] at this; exact this)
      clear HS h7
      go_enter Tryd.func57, Tryd.ntmps57
      go_wp2_with fail
      refine Calls.mono (HS7.out _ ((Below.refl _ _).alloc (Nat.le_refl _) _)) ?_
      rintro e w2 ⟨rfl, hb2'⟩
      have hb2 : Below w.heap.size w w2 := ((Below.refl _ _).alloc (Nat.le_refl _) _).trans (hb2'.mono (by simp))
      have hs2 := hb2.size
      clear hb2' HS7
      go_wp2_with fail
      refine Calls.mono (IA.out _ hb2) ?_
      rintro e w3 ⟨v3, rfl, hown3, hb3'⟩
      obtain ⟨ad3, c3, rfl⟩ := xOwn_form hown3
      have hb3 : Below w.heap.size w w3 := hb2.trans (hb3'.mono hs2)
      have hs3 := hb3'.size
      have HO3 := hide hown3
      clear hown3 hb3' IA
      go_wp2_with fail
      refine Calls.mono (IB.out _ hb3) ?_
      rintro e w4 ⟨v4, rfl, hown4, hb4'⟩
      obtain ⟨ad4, c4, rfl⟩ := xOwn_form hown4
      have hb4 : Below w.heap.size w w4 := hb3.trans (hb4'.mono (by omega))
      have hs4 := hb4'.size
      have hol : Hid (∀ k, (Value.slice ad3 LA.length c3).ownBlock = some k → w2.heap.size ≤ k ∧ k < w3.heap.size) := hide (HO3.out.lt)
      have HO3' := hide (own_below HO3.out hb4')
      have HO4 := hide hown4
      have q2 : w4.cell? ⟨bb, o + p * 3 + 2, none⟩ = some (.string xt) := (hb4.cell (p := ⟨bb, o + p * 3 + 2, none⟩) hbb0).trans p2
      clear hown4 hb4' IB HO3 p0 p1 p2
      go_wp2_with (first | (go_at_call 96; refine (signToken_any _ _).mono ?_; rintro e w5 ⟨rfl, rfl⟩) | (at_builtin; refine wpList_append_tk rfl _ _ rfl w2.heap.size _ LA.length (tkC LA) rfl ((HO3'.out.alloc _).alloc _) (w4.heap.size + 1) 1 (sgT xt) rfl (by have := heap_alloc_new (w4.alloc (.cells #[.int .i64 3, .int .i64 0, .string xt, .int .i64 0] 87)) (.cells #[.int .i64 3, .int .i64 0, .string xt, .int .i64 0] 87); rw [World.size_alloc] at this; exact this) (by omega) (by simp; omega) ?_))
      intro v5 w5 hown5 hg5
      obtain ⟨ad5, c5, rfl⟩ := xOwn_form hown5
      have hb5 : Below w.heap.size w w5 := hg5.below ((hb4.alloc (by omega) _).alloc (by simp; omega) _) (by simp; omega) (fun k hk => by have := (hol.out k hk).1; omega)
      have hs5 : w4.heap.size ≤ w5.heap.size := by have := hg5.g.size; simp at this; omega
      have HO5 := hide hown5
      have HR5 := hide (xOwn_far ((HO4.out.alloc _).alloc _) hg5 (fun k hk => (hol.out k hk).2))
      have hol5 : Hid (∀ k, (Value.slice ad5 (LA.length + 1) c5).ownBlock = some k → w2.heap.size ≤ k ∧ k < w5.heap.size) := hide (HO5.out.lt)
      clear hown5 hg5 HO3' HO4 q2
      go_wp2_with (at_builtin; refine wpList_append_tks rfl _ _ rfl w2.heap.size _ (LA.length + 1) (tkC LA ++ tkC1 (sgT xt)) rfl HO5.out w3.heap.size _ LB.length (tkC LB) rfl HR5.out (tkC_oneC LB) (by omega) (by omega) hLB0 (by omega) ?_)
      intro v6 w6 hown6 hg6
      rw [← List.append_assoc, E3.out.1, E3.out.2] at hown6
      obtain ⟨ad6, c6, rfl⟩ := xOwn_form hown6
      have hb6 : Below w.heap.size w w6 := hg6.below hb5 (by omega) (fun k hk => by have := (hol5.out k hk).1; omega)
      have hs6 : w5.heap.size ≤ w6.heap.size := hg6.g.size
      have HO6 := hide hown6
      clear hown6 hg6 HO5 HR5 hol5
      go_wp2_with fail
      exact bodyPost_ret (v := .tuple #[.slice ad6 LL.length c6, .int .i64 (PB : Int)]) (by simp [results, Tryd.results57, go_sem]) rfl ⟨_, rfl, xOwn_down HO6.out (b' := w.heap.size) (by omega), hb6⟩

theorem tokensAt_any (ad : Option Addr) (c : Nat) (l : List Xx) (hl : l.length ≤ 40) : ∀ e : E, TAGoal ad c l e
  | .leaf x => tokensAt_leaf ad c l hl x
  | .one x a => tokensAt_one ad c l hl x a (tokensAt_any ad c l hl a)
  | .two x a b => tokensAt_two ad c l hl x a b (tokensAt_any ad c l hl a) (tokensAt_any ad c l hl b)
end Go.Proofs.YtjffignbiabmaaaDoor.W.T

/-
  Tokens of an expression, the program's: contracts of tokensAhead, and of tokensAt at an expression of one part. Conditions: rows of at most 40 parts.
-/
import Derived.Test.YtjffignbiabmaaaDoorXtI
namespace Go.Proofs.YtjffignbiabmaaaDoor.W.T
open Go.ChangeShapes Go.WideShapes Go.ChangeAt Go.RowKit
set_option linter.unusedVariables false

theorem xOwn_below {w w' : World} {base n size : Nat} {e : TypeId} {v : Value} {xs : List Value} (h : w.ownsRow base e size v n xs) (hb : Below w.heap.size w w') : w'.ownsRow base e size v n xs := own_below h hb

set_option maxRecDepth 20000 in
set_option maxHeartbeats 4000000 in
theorem tokensAhead_any (ad : Option Addr) (c : Nat) (l : List Xx) (hl : l.length ≤ 40) (sg : ByteArray) (a : E) (hok : a.ok) (ih : TAGoal ad c l a) (p : Nat) (r : List Xx) (w : World) (hR : W.Row w ad l) (hS : SgTab w) (hd : l.drop (p + 1) = a.flat ++ r) :
    Calls Tryd.prog 94 #[.string sg, .slice ad l.length c, .int .i64 p] w fun z w' => ∃ v, z = .returned (.tuple #[v, .int .i64 ((p + 1 + a.flat.length : Nat) : Int)]) ∧ w'.ownsRow w.heap.size 87 4 v (1 + (tks a 8).length) (tkC1 (sgT sg) ++ tkC (tks a 8)) ∧ Below w.heap.size w w' := by
  have hlen := drop_len hd (E.flat_pos _)
  have IH := hide (ih hok 8 (p + 1) r w hR hS hd)
  have htl := tks_len a 8
  have hp2 : p + 1 ≤ 40 := by omega
  unfold TAOut at IH
  rw [show ((p + 1 : Nat) : Int) = (p : Int) + 1 by omega] at IH
  obtain ⟨L, hL⟩ : ∃ L, L = tks a 8 := ⟨_, rfl⟩
  rw [← hL] at IH htl ⊢
  obtain ⟨P, hP⟩ : ∃ P : Nat, P = p + 1 + a.flat.length := ⟨_, rfl⟩
  rw [← hP] at IH ⊢
  have hLl : L.length ≤ 1000000 := by omega
  clear ih hR hS hd hL hP
  go_enter Tryd.func94, Tryd.ntmps94
  go_wp2_with fail
  refine Calls.mono IH.out ?_
  rintro e w1 ⟨v1, rfl, hown1, hb1⟩
  obtain ⟨ad1, c1, rfl⟩ := xOwn_form hown1
  have HO1 := hide hown1
  have hsz := hb1.size
  clear hown1 IH
  go_wp2_with (first | (go_at_call 96; refine (signToken_any _ _).mono ?_; rintro e w2 ⟨rfl, rfl⟩) | (at_builtin; refine wpList_append_tks rfl _ _ rfl w.heap.size _ 1 (tkC1 (sgT sg)) rfl (own_tk (g := w1.heap.size + 1) (sgT sg) (by omega) (by have := heap_alloc_new (w1.alloc (.cells #[.int .i64 3, .int .i64 0, .string sg, .int .i64 0] 87)) (.cells #[.int .i64 3, .int .i64 0, .string sg, .int .i64 0] 87); rw [World.size_alloc] at this; exact this)) w.heap.size _ L.length (tkC L) rfl ((HO1.out.alloc _).alloc _) (tkC_oneC L) (by omega) hLl htl.2 (by simp; omega) ?_))
  intro v3 w3 hown3 hg3
  obtain ⟨ad3, c3, rfl⟩ := xOwn_form hown3
  have hB3 : Below w.heap.size w w3 := hg3.below ((hb1.alloc hsz _).alloc (by simp; omega) _) (by simp; omega) (fun k hk => by simp [Value.ownBlock] at hk; omega)
  have HO3 := hide hown3
  clear hown3 hg3
  go_wp2_with fail
  exact bodyPost_ret (v := .tuple #[.slice ad3 (1 + L.length) c3, .int .i64 (P : Int)]) (by simp [results, Tryd.results94, go_sem]) rfl ⟨_, rfl, HO3.out, hB3⟩

set_option maxRecDepth 20000 in
set_option maxHeartbeats 4000000 in
theorem tokensAt_one (ad : Option Addr) (c : Nat) (l : List Xx) (hl : l.length ≤ 40) (x : Xx) (a : E) (ih : TAGoal ad c l a) : TAGoal ad c l (.one x a) := by
  intro hok least p r w hR hS hd
  obtain ⟨hg, hb1, hoa⟩ := hok
  have hk := behind_1 hb1
  have hlen := drop_len hd (E.flat_pos _)
  have hd1 : l.drop p = x :: (a.flat ++ r) := by rw [hd]; simp [E.flat]
  have hda : l.drop (p + 1) = a.flat ++ r := by rw [← List.drop_drop, hd1]; rfl
  obtain ⟨hp, hx⟩ := drop_lt hd1
  have hp' : (p : Int) < (l.length : Int) := by omega
  have hp0 : (0 : Int) ≤ (p : Int) := by omega
  obtain ⟨bb, o, rfl, hbb0, p0, p1, p2⟩ := hR.tok (Below.refl _ _) hp
  rw [hx] at p0 p1 p2
  have HC := hide (fun (sg : ByteArray) (w' : World) (hb : Below w.heap.size w w') => tokensAhead_any (some ⟨bb, o, none⟩) c l hl sg a hoa ih p r w' (hR.below hb) (hS.below hb) hda)
  have e1 : tks (.one x a) least = sgT (oneS x) :: tks a 8 := rfl
  have e2 : p + (E.one x a).flat.length = p + 1 + a.flat.length := by simp [E.flat]; omega
  unfold TAOut
  rw [e1, e2, tkC_cons, List.length_cons, Nat.add_comm (tks a 8).length 1]
  clear hR hS hd hd1 hda hx hg hb1 e1 e2 ih hlen
  obtain ⟨L, hL⟩ : ∃ L, L = tks a 8 := ⟨_, rfl⟩
  rw [← hL] at HC ⊢
  obtain ⟨P, hP⟩ : ∃ P : Nat, P = p + 1 + a.flat.length := ⟨_, rfl⟩
  rw [← hP] at HC ⊢
  clear hL hP
  obtain ⟨xk, xn, xt⟩ := x
  simp only at *
  rcases hk with rfl | rfl
  · rw [show oneS ⟨3, xn, xt⟩ = ⟨#[45]⟩ from rfl]
    go_enter Tryd.func57, Tryd.ntmps57
    go_wp2_with fail
    refine Calls.mono (HC.out _ _ ((Below.refl _ _).alloc (Nat.le_refl _) _)) ?_
    rintro e w1 ⟨v1, rfl, hown1, hb1⟩
    obtain ⟨ad1, c1, rfl⟩ := xOwn_form hown1
    have HO1 := hide (xOwn_down hown1 (b' := w.heap.size) (by simp))
    have HB1 : Hid (Below w.heap.size w w1) := hide (((Below.refl _ _).alloc (Nat.le_refl _) _).trans (hb1.mono (by simp)))
    clear hown1 hb1
    go_wp2_with fail
    exact bodyPost_ret (v := .tuple #[.slice ad1 (1 + L.length) c1, .int .i64 (P : Int)]) (by simp [results, Tryd.results57, go_sem]) rfl ⟨_, rfl, HO1.out, HB1.out⟩
  · rw [show oneS ⟨4, xn, xt⟩ = ⟨#[33]⟩ from rfl]
    go_enter Tryd.func57, Tryd.ntmps57
    go_wp2_with fail
    refine Calls.mono (HC.out _ _ ((Below.refl _ _).alloc (Nat.le_refl _) _)) ?_
    rintro e w1 ⟨v1, rfl, hown1, hb1⟩
    obtain ⟨ad1, c1, rfl⟩ := xOwn_form hown1
    have HO1 := hide (xOwn_down hown1 (b' := w.heap.size) (by simp))
    have HB1 : Hid (Below w.heap.size w w1) := hide (((Below.refl _ _).alloc (Nat.le_refl _) _).trans (hb1.mono (by simp)))
    clear hown1 hb1
    go_wp2_with fail
    exact bodyPost_ret (v := .tuple #[.slice ad1 (1 + L.length) c1, .int .i64 (P : Int)]) (by simp [results, Tryd.results57, go_sem]) rfl ⟨_, rfl, HO1.out, HB1.out⟩
end Go.Proofs.YtjffignbiabmaaaDoor.W.T

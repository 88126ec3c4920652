/-
  Nodes as rows that may be compared, marked and held: two rows of numbers behind each node, all in blocks of their own. Conditions: at most 201 nodes, at most 1000 numbers a row.
-/
import Derived.Test.YtmlpnmdckgppnaaCrN
import Derived.Test.YtmlpnmdckgppnaaCrO
import Derived.Test.YtmlpnmdckgppnaaLmA
namespace Go.Proofs.Ytmlpnmdckgppnaa.W
open Go.ChangeShapes Go.WideShapes Go.ChangeAt Go.RowKit
set_option linter.unusedVariables false
set_option linter.unusedSimpArgs false

/-- Numbers from k on. -/
def mkL (k n : Nat) : List Int := (List.range n).map (fun i : Nat => ((k + i : Nat) : Int))
theorem mkL_len (k n : Nat) : (mkL k n).length = n := by simp [mkL]
theorem mkL_at (k n i : Nat) (h : i < n) : (rcells 1 iC (mkL k n))[i]? = some (.int .i64 ((k + i : Nat) : Int)) := by
  have h1 := rcells_at 1 iC (mkL k n) i (by rw [mkL_len]; exact h) 0 (by omega)
  rw [Nat.mul_one, Nat.add_zero] at h1
  rw [h1]
  simp [mkL, iC]
theorem markIntS_ow (v : Value) (base k0 : Nat) (p : List Int) (w : World) (hn : p.length ≤ 1048576) (hk0 : k0 ≤ 100000000) (h : OwI base v p w) :
    Calls Try.prog 30 #[v, .int .i64 (k0 : Int)] w fun e w' => e = .returned (.int .i64 ((k0 + p.length : Nat) : Int)) ∧ OwI base v (mkL k0 p.length) w' ∧ w.grownBy w' v.ownBlock := by
  obtain ⟨hlen, ⟨rfl, hn0⟩ | ⟨g, cap, cur, rfl, hg, hh, h1, h2, h3, h4⟩⟩ := id h
  · refine (markIntS_own (.slice none 0 0) base p.length k0 _ w hn hk0 h).mono ?_
    rintro e w' ⟨rfl, -, hgr⟩
    refine ⟨by rw [Nat.mul_one], ?_, hgr⟩
    rw [hn0]
    exact World.ownsRow_nil _ _ _ _
  · refine (markIntS_w g p.length cap k0 cur w hn (by omega) hh (by omega)).mono ?_
    rintro e w' ⟨rfl, ⟨cur', c1, c2, c3⟩, hO⟩
    refine ⟨rfl, ?_, ⟨hO.os, hO.tape, hO.output, hO.size, fun k hk hne => hO.block k hk (fun e => hne (by subst e; rfl))⟩⟩
    unfold OwI
    rw [mkL_len]
    refine ⟨by rw [rcells_len, mkL_len], .inr ⟨g, cap, cur', rfl, hg, c1, h1, h2, c2.trans h3, ?_⟩⟩
    apply List.ext_getElem?
    intro i
    by_cases hi : i < p.length
    · rw [List.getElem?_take_of_lt (by omega), Array.getElem?_toList, c3 i hi, mkL_at _ _ _ hi]
    · rw [List.getElem?_eq_none (by rw [List.length_take]; omega), List.getElem?_eq_none (by rw [rcells_len, mkL_len]; omega)]
theorem owi_rmk {base k n : Nat} {v : Value} {w : World} (h : OwI base v (mkL k n) w) : RMk iM w v 3 1 k n := by
  unfold OwI at h
  rw [mkL_len] at h
  obtain ⟨hlen, ⟨rfl, rfl⟩ | ⟨g, cap, cur, rfl, hg, hh, h1, h2, h3, h4⟩⟩ := h
  · exact ⟨_, _, rfl, .inl rfl⟩
  · refine ⟨_, _, rfl, .inr ⟨g, cur, rfl, hh, by omega, fun i hi r hr => ?_⟩⟩
    obtain rfl : r = 0 := by omega
    rw [Nat.mul_one, Nat.add_zero, Nat.add_zero]
    have h5 := mkL_at k n i hi
    rw [← h4, List.getElem?_take_of_lt (by omega), Array.getElem?_toList] at h5
    exact h5
theorem heldIntS_ow (v : Value) (base k0 n : Nat) (w : World) (hn : n ≤ 1048576) (hk0 : k0 ≤ 100000000) (h : OwI base v (mkL k0 n) w) :
    Calls Try.prog 32 #[v, .int .i64 (k0 : Int)] w fun e w' => e = .returned (.int .i64 ((k0 + n : Nat) : Int)) ∧ Below w.heap.size w w' := by
  have h1 := heldIntS_own v n k0 w hn hk0 (owi_rmk h)
  rw [Nat.mul_one] at h1
  exact h1

/-- Nodes: numbers R, rows of numbers C behind them (the paths at 3i+1, the next ones at 3i+2). -/
structure NS (base : Nat) (w : World) (v : Value) (n : Nat) (xs : List Value) (R : Nat → Int) (C : Nat → List Int) : Prop where
  own : w.ownsRow base 65 3 v n xs
  rul : ∀ i, i < n → xs[i * 3]? = some (.int .i64 (R i))
  sl : ∀ i r, i < n → (r = 1 ∨ r = 2) → ∃ u, xs[i * 3 + r]? = some u ∧ OwI base u (C (i * 3 + r)) w
  dis : ∀ i r j t, i < n → j < n → (r = 1 ∨ r = 2) → (t = 1 ∨ t = 2) → i * 3 + r ≠ j * 3 + t → ∀ a b g, xs[i * 3 + r]? = some a → xs[j * 3 + t]? = some b → a.ownBlock = some g → b.ownBlock = some g → False
theorem NS.keep {base : Nat} {w w' : World} {v : Value} {n : Nat} {xs : List Value} {R : Nat → Int} {C : Nat → List Int} (h : NS base w v n xs R C) (hk : ∀ k, base ≤ k → k < w.heap.size → w'.heap[k]? = w.heap[k]?) : NS base w' v n xs R C :=
  ⟨own_keep h.own hk, h.rul, fun i r hi hr => by
    obtain ⟨u, h1, h2⟩ := h.sl i r hi hr
    exact ⟨u, h1, own_keep h2 hk⟩, h.dis⟩
theorem NS.below {base : Nat} {w w' : World} {v : Value} {n : Nat} {xs : List Value} {R : Nat → Int} {C : Nat → List Int} (h : NS base w v n xs R C) (hb : Below w.heap.size w w') : NS base w' v n xs R C := h.keep (fun k _ hk => hb.block k hk)
/-- A number of a node is written. -/
theorem NS.setRule {base : Nat} {w : World} {gv c : Nat} {n : Nat} {xs : List Value} {R : Nat → Int} {C : Nat → List Int} (h : NS base w (.slice (some ⟨gv, 0, none⟩) n c) n xs R C) {i : Nat} (hi : i < n) (k : Int) :
    NS base (w.setCell ⟨gv, i * 3, none⟩ (.int .i64 k)) (.slice (some ⟨gv, 0, none⟩) n c) n (xs.set (i * 3) (.int .i64 k)) (fun j => if j = i then k else R j) C := by
  have hl : xs.length = n * 3 := h.own.1
  refine ⟨(h.own.stored _ _).1, fun j hj => ?_, fun j r hj hr => ?_, fun j r m t hj hm hr ht hne a b g e1 e2 => ?_⟩
  · by_cases e : j = i
    · subst e
      rw [List.getElem?_set_self (by omega)]; simp
    · rw [List.getElem?_set_ne (by omega), if_neg e]; exact h.rul j hj
  · obtain ⟨u, h1, h2⟩ := h.sl j r hj hr
    exact ⟨u, by rw [List.getElem?_set_ne (by omega)]; exact h1, own_setne h2 (fun e2 => own_apart h.own h2 (by decide) rfl e2) _ _⟩
  · rw [List.getElem?_set_ne (by omega)] at e1 e2
    exact h.dis j r m t hj hm hr ht hne a b g e1 e2
/-- A row behind a node has other numbers. -/
theorem NS.setSlot {base : Nat} {w w' : World} {v : Value} {n : Nat} {xs : List Value} {R : Nat → Int} {C : Nat → List Int} (h : NS base w v n xs R C) {i r : Nat} (hi : i < n) (hr : r = 1 ∨ r = 2) {u : Value} {p : List Int} (e : xs[i * 3 + r]? = some u) (ho : OwI base u p w') (hg : w.grownBy w' u.ownBlock) :
    NS base w' v n xs R (fun s => if s = i * 3 + r then p else C s) := by
  obtain ⟨u', h1, h2⟩ := h.sl i r hi hr
  rw [e] at h1
  simp only [Option.some.injEq] at h1
  subst h1
  refine ⟨own_grown h.own hg (fun k hk hv => own_apart h.own h2 (by decide) hk hv), h.rul, fun j t hj ht => ?_, h.dis⟩
  by_cases e2 : j * 3 + t = i * 3 + r
  · rw [e2]
    exact ⟨u, e, by rw [if_pos rfl]; exact ho⟩
  · obtain ⟨u2, h3, h4⟩ := h.sl j t hj ht
    exact ⟨u2, h3, by rw [if_neg e2]; exact own_grown h4 hg (fun k hk hv => h.dis j t i r hj hi ht hr e2 u2 u k h3 e hk hv)⟩
theorem NS.iv {base : Nat} {w : World} {v : Value} {n : Nat} {xs : List Value} {R : Nat → Int} {C : Nat → List Int} (h : NS base w v n xs R C) (hc : ∀ s, (C s).length ≤ 1000) {i r : Nat} (hi : i < n) (hr : r = 1 ∨ r = 2) : ∃ u, xs[i * 3 + r]? = some u ∧ IV w u (C (i * 3 + r)) := by
  obtain ⟨u, h1, h2⟩ := h.sl i r hi hr
  exact ⟨u, h1, own_ivN h2 rfl (by have := hc (i * 3 + r); omega)⟩
/-- What a walk wants of one node. -/
theorem NS.at {base : Nat} {w : World} {a : Option Addr} {m c : Nat} {n : Nat} {xs : List Value} {R : Nat → Int} {C : Nat → List Int} (h : NS base w (.slice a m c) n xs R C) {i : Nat} (hi : i < n) :
    ∃ g pv nv, a = some ⟨g, 0, none⟩ ∧ m = n ∧ base ≤ g ∧ w.cell? ⟨g, i * 3, none⟩ = some (.int .i64 (R i)) ∧ w.cell? ⟨g, i * 3 + 1, none⟩ = some pv ∧ w.cell? ⟨g, i * 3 + 2, none⟩ = some nv ∧ xs[i * 3 + 1]? = some pv ∧ xs[i * 3 + 2]? = some nv ∧ OwI base pv (C (i * 3 + 1)) w ∧ OwI base nv (C (i * 3 + 2)) w := by
  rcases h.own.2 with ⟨-, e⟩ | ⟨g, cap, cur, e, hg, -⟩
  · omega
  · simp only [Value.slice.injEq] at e
    obtain ⟨rfl, rfl, rfl⟩ := e
    obtain ⟨pv, e1, o1⟩ := h.sl i 1 hi (.inl rfl)
    obtain ⟨nv, e2, o2⟩ := h.sl i 2 hi (.inr rfl)
    exact ⟨g, pv, nv, rfl, rfl, hg, (h.own.cellAt _ (by omega)).trans (h.rul i hi), (h.own.cellAt _ (by omega)).trans e1, (h.own.cellAt _ (by omega)).trans e2, e1, e2, o1, o2⟩
def d0 : Nd := ⟨0, [], []⟩
def ruF (ns : List Nd) (i : Nat) : Int := (ns.getD i d0).rule
def ctF (ns : List Nd) (s : Nat) : List Int := if s % 3 = 1 then (ns.getD (s / 3) d0).path else (ns.getD (s / 3) d0).next
theorem NVx.ns {base : Nat} {O : Nat → Prop} {w : World} {v : Value} {xs : List Value} {ns : List Nd} (h : NVx base O w v xs ns) : NS base w v ns.length xs (ruF ns) (ctF ns) := by
  have hd : ∀ i, (hi : i < ns.length) → ns.getD i d0 = ns[i] := fun i hi => by simp [List.getD, hi]
  refine ⟨h.own, fun i hi => ?_, fun i r hi hr => ?_, fun i r j t hi hj hr ht hne a b g e1 e2 e3 e4 => ?_⟩
  · obtain ⟨pv, nv, h1, -⟩ := h.el i hi
    rw [h1, ruF, hd i hi]
  · obtain ⟨pv, nv, -, h2, h3, h4, h5, -⟩ := h.el i hi
    rcases hr with rfl | rfl
    · refine ⟨pv, h2, ?_⟩
      rw [show ctF ns (i * 3 + 1) = ns[i].path by rw [ctF, if_pos (by omega), show (i * 3 + 1) / 3 = i by omega, hd i hi]]
      exact h4.here
    · refine ⟨nv, h3, ?_⟩
      rw [show ctF ns (i * 3 + 2) = ns[i].next by rw [ctF, if_neg (by omega), show (i * 3 + 2) / 3 = i by omega, hd i hi]]
      exact h5
  · have hnO : ∀ i nv, i < ns.length → xs[i * 3 + 2]? = some nv → nv.ownBlock = some g → O g := fun i nv hi e he => by
      obtain ⟨pv, nv', -, -, h3, -, -, h6⟩ := h.el i hi
      rw [e] at h3
      simp only [Option.some.injEq] at h3
      subst h3
      exact h6 g he
    rcases hr with rfl | rfl
    · rcases ht with rfl | rfl
      · exact h.pp i j hi hj (by omega) a b g e1 e2 e3 e4
      · exact h.pn i a g hi e1 e3 (hnO j b hj e2 e4)
    · rcases ht with rfl | rfl
      · exact h.pn j b g hj e2 e4 (hnO i a hi e1 e3)
      · exact h.ap i j hi hj (by omega) a b g e1 e2 e3 e4
/-- The number at which a node's marks begin. -/
def kkF (C : Nat → List Int) (k0 : Nat) : Nat → Nat
  | 0 => k0
  | i + 1 => kkF C k0 i + 1 + (C (i * 3 + 1)).length + (C (i * 3 + 2)).length
theorem kkF_le {C : Nat → List Int} (hc : ∀ s, (C s).length ≤ 1000) (k0 : Nat) : ∀ i, kkF C k0 i ≤ k0 + i * 2001
  | 0 => by simp [kkF]
  | i + 1 => by
    have h1 := kkF_le hc k0 i
    have h2 := hc (i * 3 + 1)
    have h3 := hc (i * 3 + 2)
    simp only [kkF]; omega
/-- Nodes whose first ones hold their marks. -/
def Mkd (R' : Nat → Int) (C' C : Nat → List Int) (k0 j : Nat) : Prop := ∀ i, i < j → R' i = (kkF C k0 i : Nat) ∧ C' (i * 3 + 1) = mkL (kkF C k0 i + 1) (C (i * 3 + 1)).length ∧ C' (i * 3 + 2) = mkL (kkF C k0 i + 1 + (C (i * 3 + 1)).length) (C (i * 3 + 2)).length
end Go.Proofs.Ytmlpnmdckgppnaa.W

/-
  Drawn terms: a contract of tree3. Conditions: a cursor in a box of its own; at most 4 levels. Written by wip/build/mk_drb.py.
-/
import Derived.Test.YthnkdlhkldcaoaaDoorDrA
import Derived.IntWalk
import Derived.Test.YthnkdlhkldcaoaaDoorTeM
namespace Go.Proofs.YthnkdlhkldcaoaaDoor.W
open Go.ChangeShapes Go.WideShapes Go.ChangeAt Go.RowKit
set_option linter.unusedVariables false
set_option linter.unusedSimpArgs false

/-- How often a term of so many levels reads. -/
def Bt : Nat → Nat
  | 0 => 10
  | d + 1 => 3 * Bt d + 10
theorem kidT_of {W : World} {P : Nat → Prop} {a : F} {cs : List Value} {B n : Nat} (hk : KidsAt W P a cs) (hn : a.len = n) (h0 : 0 < n) (hB : W.heap[B]? = some (.cells cs.toArray 58 (0, 0))) (hP : P B) : KidT W P a (.slice (some ⟨B, 0, none⟩) n n) :=
  ⟨cs, hk, .inr ⟨by omega, B, n, by rw [hn], hP, (Array.getElem?_eq_some_iff.1 hB).1, fun j v hj => by rw [cell_of_blk hB, ← hj]; simp⟩⟩
theorem KidT.grown {w w' : World} {c lo : Nat} {a : F} {s : Value} (h : KidT w (fun g => lo ≤ g) a s) (hc : c < lo) (hg : w.grownBy w' (some c)) : KidT w' (fun g => lo ≤ g) a s :=
  h.keep hg.size (fun g h1 h2 => ⟨hg.block g h2 (fun e => by simp at e; omega), h1⟩)
/-- What tree3 tells. -/
def T3P (c n cp m d : Nat) (ad : Option Addr) (w : World) (e : Ending) (w' : World) : Prop :=
  ∃ (x : Cc) (k : F) (s : Value), e = .returned (.agg #[.int .i64 x.k, .int .i64 x.n, s]) ∧ KidT w' (fun g => w.heap.size ≤ g) k s ∧ k.flat.length + 1 ≤ 4 ^ d ∧ CU w' c ad n cp (m + Bt d) ∧ w.grownBy w' (some c)
theorem blk_set3 {w : World} {R : Nat} {a0 a1 a2 b0 b1 b2 : Value} (h : w.heap[R]? = some (.cells #[a0, a1, a2] 58 (0, 0))) : (((w.setCell ⟨R, 0, none⟩ b0).setCell ⟨R, 1, none⟩ b1).setCell ⟨R, 2, none⟩ b2).heap[R]? = some (.cells #[b0, b1, b2] 58 (0, 0)) := blk_setCell (blk_setCell (blk_setCell h _) _) _
theorem grown_set3 {a w : World} {c R : Nat} {b0 b1 b2 : Value} (h : a.grownBy w (some c)) (hR : a.heap.size ≤ R) : a.grownBy (((w.setCell ⟨R, 0, none⟩ b0).setCell ⟨R, 1, none⟩ b1).setCell ⟨R, 2, none⟩ b2) (some c) := by
  refine ⟨h.os, h.tape, h.output, by simpa using h.size, fun k hk hn => ?_⟩
  rw [Below.heap_setCell _ _ _ _ (by simp; omega), Below.heap_setCell _ _ _ _ (by simp; omega), Below.heap_setCell _ _ _ _ (by simp; omega)]
  exact h.block k hk hn
theorem CU.set3 {w : World} {c n cp m R : Nat} {ad : Option Addr} {b0 b1 b2 : Value} (h : CU w c ad n cp m) (hR : c < R) : CU (((w.setCell ⟨R, 0, none⟩ b0).setCell ⟨R, 1, none⟩ b1).setCell ⟨R, 2, none⟩ b2) c ad n cp m := by
  obtain ⟨a, s, h1, h2, h3, h4⟩ := h
  have hk : ∀ k, k ≠ R → (((w.setCell ⟨R, 0, none⟩ b0).setCell ⟨R, 1, none⟩ b1).setCell ⟨R, 2, none⟩ b2).heap[k]? = w.heap[k]? := fun k hk => by
    rw [Below.heap_setCell _ _ _ _ hk, Below.heap_setCell _ _ _ _ hk, Below.heap_setCell _ _ _ _ hk]
  refine ⟨a, s, h1, h2, (hk c (by omega)).trans h3, ?_⟩
  rcases h4 with h | ⟨b, o, h5, h6, h7, h8⟩
  · exact .inl h
  · refine .inr ⟨b, o, h5, h6, by simpa using h7, fun i hi => ?_⟩
    obtain ⟨v, h9, h10, h11⟩ := h8 i hi
    exact ⟨v, h9, h10, (World.cell?_of_block (a := ⟨b, o + i, none⟩) (hk b (by omega))).trans h11⟩
theorem kid_set3 {w : World} {P : Nat → Prop} {R : Nat} {a : F} {s b0 b1 b2 : Value} (h : KidT w P a s) (hR : ∀ g, P g → g < w.heap.size → g ≠ R) : KidT (((w.setCell ⟨R, 0, none⟩ b0).setCell ⟨R, 1, none⟩ b1).setCell ⟨R, 2, none⟩ b2) P a s :=
  h.keep (by simp) (fun g h1 h2 => ⟨by rw [Below.heap_setCell _ _ _ _ (hR g h1 h2), Below.heap_setCell _ _ _ _ (hR g h1 h2), Below.heap_setCell _ _ _ _ (hR g h1 h2)], h1⟩)

set_option maxRecDepth 20000 in
set_option maxHeartbeats 8000000 in
theorem tree3_leaf (c n cp m vars : Nat) (ad : Option Addr) (w : World) (hm : m + Bt 0 ≤ 1000000) (hv : vars ≤ 1000) (hn : (n : Int) ≤ 9223372036854775807) (h : CU w c ad n cp m) :
    Calls Tryd.prog 45 #[.pointer (some ⟨c, 0, none⟩), .int .i64 0, .int .i64 (vars : Int)] w fun e w' => T3P c n cp m 0 ad w e w' := by
  have hcl := h.lt
  have hBt : Bt 0 = 10 := rfl
  have HBt := hide hBt
  have hb0 : Below w.heap.size w (w.alloc (.cells #[.int .i64 0, .int .i64 0, .slice none 0 0] 58)) := (Below.refl _ _).alloc (Nat.le_refl _) _
  have HCw0 := hide (h.below hb0)
  have HGw0 := hide (grown_below (some c) hb0)
  have HXw0 := hide (heap_alloc_new w (.cells #[.int .i64 0, .int .i64 0, .slice none 0 0] 58))
  clear h
  obtain ⟨w0, hw0⟩ : ∃ w0, w0 = w.alloc (.cells #[.int .i64 0, .int .i64 0, .slice none 0 0] 58) := ⟨_, rfl⟩
  have hRw0 : w.heap.size < w0.heap.size := by rw [hw0]; simp
  rw [← hw0] at HCw0 HGw0 HXw0
  have Hw0 := hide hw0
  clear hb0 hw0
  by_cases hv0 : vars = 0
  · have hv1 : ¬ (0 : Int) < (vars : Int) := by omega
    go_enter Tryd.func45, Tryd.ntmps45
    go_wp2_with fail
    rw [← Hw0.out]
    refine Calls.mono (pick_any c n cp (m) 7 ad w0 (by omega) (by omega) hn HCw0.out) ?_
    rintro e wp ⟨r, rfl, hr7, hcp, hgp⟩
    have HCwp := hide hcp
    have HXwp := hide ((hgp.block w.heap.size hRw0 (fun e => by simp at e; omega)).trans HXw0.out)
    have HGwp := hide (grown_trans HGw0.out hgp)
    have fzp := unfrozen_of_blk HXwp.out
    have xp := cell_of_blk HXwp.out
    have x0 : wp.cell? ⟨w.heap.size, 0, none⟩ = some (.int .i64 0) := (xp 0).trans rfl
    have x1 : wp.cell? ⟨w.heap.size, 1, none⟩ = some (.int .i64 0) := (xp 1).trans rfl
    have x2 : wp.cell? ⟨w.heap.size, 2, none⟩ = some (.slice none 0 0) := (xp 2).trans rfl
    clear hcp hgp xp
    have hr8 : (r : Int) ≤ 7 := by omega
    have hr9 : (0 : Int) ≤ (r : Int) := by omega
    clear hr7
    go_wp2_with fail
    obtain ⟨W9, hW9⟩ : ∃ W9, W9 = ((wp.setCell ⟨w.heap.size, 0, none⟩ (.int .i64 (2))).setCell ⟨w.heap.size, 1, none⟩ (.int .i64 ((r : Int) - 2))).setCell ⟨w.heap.size, 2, none⟩ (.slice none 0 0) := ⟨_, rfl⟩
    have hb9 : W9.heap[w.heap.size]? = some (.cells #[.int .i64 (2), .int .i64 ((r : Int) - 2), .slice none 0 0] 58 (0, 0)) := by rw [hW9]; exact blk_set3 HXwp.out
    have HC9 : Hid (CU W9 c ad n cp (m + Bt (0))) := hide (by rw [hW9]; exact (HCwp.out.more (by have := HBt.out; omega)).set3 hcl)
    have HG9 : Hid (w.grownBy W9 (some c)) := hide (by rw [hW9]; exact grown_set3 HGwp.out (Nat.le_refl _))
    have z0 : W9.cell? ⟨w.heap.size, 0, none⟩ = some (.int .i64 (2)) := (cell_of_blk hb9 0).trans rfl
    have z1 : W9.cell? ⟨w.heap.size, 1, none⟩ = some (.int .i64 ((r : Int) - 2)) := (cell_of_blk hb9 1).trans rfl
    have z2 : W9.cell? ⟨w.heap.size, 2, none⟩ = some (.slice none 0 0) := (cell_of_blk hb9 2).trans rfl
    have HK9 : Hid (KidT W9 (fun g => w.heap.size ≤ g) .nil (.slice none 0 0)) := hide KidT.nil
    have hl9 : F.nil.flat.length + 1 ≤ 4 ^ (0) := (Nat.one_le_pow _ _ (by omega) : 1 ≤ 4 ^ (0))
    rw [← hW9]
    clear hW9 hb9
    exact bodyPost_ret (v := .agg #[.int .i64 (2), .int .i64 ((r : Int) - 2), .slice none 0 0]) (by simp [results, Tryd.results45, go_sem, z0, z1, z2]) rfl ⟨⟨2, (r : Int) - 2⟩, .nil, _, rfl, HK9.out, hl9, HC9.out, HG9.out⟩
  · have hv1 : (0 : Int) < (vars : Int) := by omega
    go_enter Tryd.func45, Tryd.ntmps45
    go_wp2_with fail
    rw [← Hw0.out]
    refine Calls.mono (one_any c n cp (m) 3 ad w0 (by omega) (by omega) hn HCw0.out) ?_
    rintro e wo ⟨b1, rfl, hco, hgo⟩
    have HCwo := hide hco
    have HXwo := hide ((hgo.block w.heap.size hRw0 (fun e => by simp at e; omega)).trans HXw0.out)
    have HGwo := hide (grown_trans HGw0.out hgo)
    have hRwo : w.heap.size < wo.heap.size := Nat.lt_of_lt_of_le hRw0 hgo.size
    clear hco hgo
    cases b1 with
    | true =>
      go_wp2_with fail
      refine Calls.mono (pick_any c n cp (m + 2) 7 ad wo (by omega) (by omega) hn HCwo.out) ?_
      rintro e wp ⟨r, rfl, hr7, hcp, hgp⟩
      have HCwp := hide hcp
      have HXwp := hide ((hgp.block w.heap.size hRwo (fun e => by simp at e; omega)).trans HXwo.out)
      have HGwp := hide (grown_trans HGwo.out hgp)
      have fzp := unfrozen_of_blk HXwp.out
      have xp := cell_of_blk HXwp.out
      have x0 : wp.cell? ⟨w.heap.size, 0, none⟩ = some (.int .i64 0) := (xp 0).trans rfl
      have x1 : wp.cell? ⟨w.heap.size, 1, none⟩ = some (.int .i64 0) := (xp 1).trans rfl
      have x2 : wp.cell? ⟨w.heap.size, 2, none⟩ = some (.slice none 0 0) := (xp 2).trans rfl
      clear hcp hgp xp
      have hr8 : (r : Int) ≤ 7 := by omega
      have hr9 : (0 : Int) ≤ (r : Int) := by omega
      clear hr7
      go_wp2_with fail
      obtain ⟨W9, hW9⟩ : ∃ W9, W9 = ((wp.setCell ⟨w.heap.size, 0, none⟩ (.int .i64 (2))).setCell ⟨w.heap.size, 1, none⟩ (.int .i64 ((r : Int) - 2))).setCell ⟨w.heap.size, 2, none⟩ (.slice none 0 0) := ⟨_, rfl⟩
      have hb9 : W9.heap[w.heap.size]? = some (.cells #[.int .i64 (2), .int .i64 ((r : Int) - 2), .slice none 0 0] 58 (0, 0)) := by rw [hW9]; exact blk_set3 HXwp.out
      have HC9 : Hid (CU W9 c ad n cp (m + Bt (0))) := hide (by rw [hW9]; exact (HCwp.out.more (by have := HBt.out; omega)).set3 hcl)
      have HG9 : Hid (w.grownBy W9 (some c)) := hide (by rw [hW9]; exact grown_set3 HGwp.out (Nat.le_refl _))
      have z0 : W9.cell? ⟨w.heap.size, 0, none⟩ = some (.int .i64 (2)) := (cell_of_blk hb9 0).trans rfl
      have z1 : W9.cell? ⟨w.heap.size, 1, none⟩ = some (.int .i64 ((r : Int) - 2)) := (cell_of_blk hb9 1).trans rfl
      have z2 : W9.cell? ⟨w.heap.size, 2, none⟩ = some (.slice none 0 0) := (cell_of_blk hb9 2).trans rfl
      have HK9 : Hid (KidT W9 (fun g => w.heap.size ≤ g) .nil (.slice none 0 0)) := hide KidT.nil
      have hl9 : F.nil.flat.length + 1 ≤ 4 ^ (0) := (Nat.one_le_pow _ _ (by omega) : 1 ≤ 4 ^ (0))
      rw [← hW9]
      clear hW9 hb9
      exact bodyPost_ret (v := .agg #[.int .i64 (2), .int .i64 ((r : Int) - 2), .slice none 0 0]) (by simp [results, Tryd.results45, go_sem, z0, z1, z2]) rfl ⟨⟨2, (r : Int) - 2⟩, .nil, _, rfl, HK9.out, hl9, HC9.out, HG9.out⟩
    | false =>
      go_wp2_with fail
      refine Calls.mono (pick_any c n cp (m + 2) vars ad wo (by omega) (by omega) hn HCwo.out) ?_
      rintro e wp ⟨r, rfl, hr7, hcp, hgp⟩
      have HCwp := hide hcp
      have HXwp := hide ((hgp.block w.heap.size hRwo (fun e => by simp at e; omega)).trans HXwo.out)
      have HGwp := hide (grown_trans HGwo.out hgp)
      have fzp := unfrozen_of_blk HXwp.out
      have xp := cell_of_blk HXwp.out
      have x0 : wp.cell? ⟨w.heap.size, 0, none⟩ = some (.int .i64 0) := (xp 0).trans rfl
      have x1 : wp.cell? ⟨w.heap.size, 1, none⟩ = some (.int .i64 0) := (xp 1).trans rfl
      have x2 : wp.cell? ⟨w.heap.size, 2, none⟩ = some (.slice none 0 0) := (xp 2).trans rfl
      clear hcp hgp xp
      go_wp2_with fail
      obtain ⟨W9, hW9⟩ : ∃ W9, W9 = ((wp.setCell ⟨w.heap.size, 0, none⟩ (.int .i64 (1))).setCell ⟨w.heap.size, 1, none⟩ (.int .i64 ((r : Int)))).setCell ⟨w.heap.size, 2, none⟩ (.slice none 0 0) := ⟨_, rfl⟩
      have hb9 : W9.heap[w.heap.size]? = some (.cells #[.int .i64 (1), .int .i64 ((r : Int)), .slice none 0 0] 58 (0, 0)) := by rw [hW9]; exact blk_set3 HXwp.out
      have HC9 : Hid (CU W9 c ad n cp (m + Bt (0))) := hide (by rw [hW9]; exact (HCwp.out.more (by have := HBt.out; omega)).set3 hcl)
      have HG9 : Hid (w.grownBy W9 (some c)) := hide (by rw [hW9]; exact grown_set3 HGwp.out (Nat.le_refl _))
      have z0 : W9.cell? ⟨w.heap.size, 0, none⟩ = some (.int .i64 (1)) := (cell_of_blk hb9 0).trans rfl
      have z1 : W9.cell? ⟨w.heap.size, 1, none⟩ = some (.int .i64 ((r : Int))) := (cell_of_blk hb9 1).trans rfl
      have z2 : W9.cell? ⟨w.heap.size, 2, none⟩ = some (.slice none 0 0) := (cell_of_blk hb9 2).trans rfl
      have HK9 : Hid (KidT W9 (fun g => w.heap.size ≤ g) .nil (.slice none 0 0)) := hide KidT.nil
      have hl9 : F.nil.flat.length + 1 ≤ 4 ^ (0) := (Nat.one_le_pow _ _ (by omega) : 1 ≤ 4 ^ (0))
      rw [← hW9]
      clear hW9 hb9
      exact bodyPost_ret (v := .agg #[.int .i64 (1), .int .i64 ((r : Int)), .slice none 0 0]) (by simp [results, Tryd.results45, go_sem, z0, z1, z2]) rfl ⟨⟨1, (r : Int)⟩, .nil, _, rfl, HK9.out, hl9, HC9.out, HG9.out⟩

def T3Goal (c n cp : Nat) (ad : Option Addr) (d : Nat) : Prop := ∀ (vars m : Nat) (D V : Int) (w : World), D = (d : Int) → V = (vars : Int) → m + Bt d ≤ 1000000 → vars + d ≤ 1000 → CU w c ad n cp m →
    Calls Tryd.prog 45 #[.pointer (some ⟨c, 0, none⟩), .int .i64 D, .int .i64 V] w fun e w' => T3P c n cp m d ad w e w'

set_option maxRecDepth 20000 in
set_option maxHeartbeats 16000000 in
theorem tree3_any (c n cp : Nat) (ad : Option Addr) (hn : (n : Int) ≤ 9223372036854775807) : ∀ d, T3Goal c n cp ad d
  | 0 => fun vars m D V w hD hV hm hv h => by subst hD hV; exact tree3_leaf c n cp m vars ad w hm (by omega) hn h
  | d + 1 => fun vars m D V w hD hV hm hv h => by
    have IH := hide (tree3_any c n cp ad hn d)
    have hcl := h.lt
    have HBt : Hid (Bt (d + 1) = 3 * Bt d + 10) := hide rfl
    have Hp : Hid (4 ^ (d + 1) = 4 * 4 ^ d) := hide (by rw [Nat.pow_succ]; omega)
    have Hp1 : Hid (1 ≤ 4 ^ d) := hide (Nat.one_le_pow _ _ (by omega))
    have hm3 : m + 3 * Bt d + 10 ≤ 1000000 := by have := HBt.out; omega
    clear hm
    have hD0 : ¬ D ≤ 0 := by omega
    have hD1 : 1 ≤ D := by omega
    have hD2 : D ≤ 1000 := by omega
    have hV0 : 0 ≤ V := by omega
    have hV2 : V ≤ 1000 := by omega
    have HV := hide hV
    have HD := hide hD
    clear hD
    have hb0 : Below w.heap.size w (w.alloc (.cells #[.int .i64 0, .int .i64 0, .slice none 0 0] 58)) := (Below.refl _ _).alloc (Nat.le_refl _) _
    have HCw0 := hide (h.below hb0)
    have HGw0 := hide (grown_below (some c) hb0)
    have HXw0 := hide (heap_alloc_new w (.cells #[.int .i64 0, .int .i64 0, .slice none 0 0] 58))
    obtain ⟨w0, hw0⟩ : ∃ w0, w0 = w.alloc (.cells #[.int .i64 0, .int .i64 0, .slice none 0 0] 58) := ⟨_, rfl⟩
    have hRw0 : w.heap.size < w0.heap.size := by rw [hw0]; simp
    rw [← hw0] at HCw0 HGw0 HXw0
    have Hw0 := hide hw0
    clear hb0 hw0 h hV
    go_enter Tryd.func45, Tryd.ntmps45
    go_wp2_with fail
    rw [← Hw0.out]
    refine Calls.mono (one_any c n cp m 5 ad w0 (by omega) (by omega) hn HCw0.out) ?_
    rintro e wl ⟨b0, rfl, hco, hgo⟩
    have HCwl := hide hco
    have HXwl := hide ((hgo.block w.heap.size hRw0 (fun e => by simp at e; omega)).trans HXw0.out)
    have HGwl := hide (grown_trans HGw0.out hgo)
    have hRwl : w.heap.size < wl.heap.size := Nat.lt_of_lt_of_le hRw0 hgo.size
    clear hco hgo
    cases b0 with
    | true =>
      have hV := HV.out
      subst hV
      by_cases hv0 : vars = 0
      · have hv1 : ¬ (0 : Int) < (vars : Int) := by omega
        go_wp2_with fail
        refine Calls.mono (pick_any c n cp (m + 2) 7 ad wl (by omega) (by omega) hn HCwl.out) ?_
        rintro e wp ⟨r, rfl, hr7, hcp, hgp⟩
        have HCwp := hide hcp
        have HXwp := hide ((hgp.block w.heap.size hRwl (fun e => by simp at e; omega)).trans HXwl.out)
        have HGwp := hide (grown_trans HGwl.out hgp)
        have fzp := unfrozen_of_blk HXwp.out
        have xp := cell_of_blk HXwp.out
        have x0 : wp.cell? ⟨w.heap.size, 0, none⟩ = some (.int .i64 0) := (xp 0).trans rfl
        have x1 : wp.cell? ⟨w.heap.size, 1, none⟩ = some (.int .i64 0) := (xp 1).trans rfl
        have x2 : wp.cell? ⟨w.heap.size, 2, none⟩ = some (.slice none 0 0) := (xp 2).trans rfl
        clear hcp hgp xp
        have hr8 : (r : Int) ≤ 7 := by omega
        have hr9 : (0 : Int) ≤ (r : Int) := by omega
        clear hr7
        go_wp2_with fail
        obtain ⟨W9, hW9⟩ : ∃ W9, W9 = ((wp.setCell ⟨w.heap.size, 0, none⟩ (.int .i64 (2))).setCell ⟨w.heap.size, 1, none⟩ (.int .i64 ((r : Int) - 2))).setCell ⟨w.heap.size, 2, none⟩ (.slice none 0 0) := ⟨_, rfl⟩
        have hb9 : W9.heap[w.heap.size]? = some (.cells #[.int .i64 (2), .int .i64 ((r : Int) - 2), .slice none 0 0] 58 (0, 0)) := by rw [hW9]; exact blk_set3 HXwp.out
        have HC9 : Hid (CU W9 c ad n cp (m + Bt (d + 1))) := hide (by rw [hW9]; exact (HCwp.out.more (by have := HBt.out; omega)).set3 hcl)
        have HG9 : Hid (w.grownBy W9 (some c)) := hide (by rw [hW9]; exact grown_set3 HGwp.out (Nat.le_refl _))
        have z0 : W9.cell? ⟨w.heap.size, 0, none⟩ = some (.int .i64 (2)) := (cell_of_blk hb9 0).trans rfl
        have z1 : W9.cell? ⟨w.heap.size, 1, none⟩ = some (.int .i64 ((r : Int) - 2)) := (cell_of_blk hb9 1).trans rfl
        have z2 : W9.cell? ⟨w.heap.size, 2, none⟩ = some (.slice none 0 0) := (cell_of_blk hb9 2).trans rfl
        have HK9 : Hid (KidT W9 (fun g => w.heap.size ≤ g) .nil (.slice none 0 0)) := hide KidT.nil
        have hl9 : F.nil.flat.length + 1 ≤ 4 ^ (d + 1) := (Nat.one_le_pow _ _ (by omega) : 1 ≤ 4 ^ (d + 1))
        rw [← hW9]
        clear hW9 hb9
        exact bodyPost_ret (v := .agg #[.int .i64 (2), .int .i64 ((r : Int) - 2), .slice none 0 0]) (by simp [results, Tryd.results45, go_sem, z0, z1, z2]) rfl ⟨⟨2, (r : Int) - 2⟩, .nil, _, rfl, HK9.out, hl9, HC9.out, HG9.out⟩
      · have hv1 : (0 : Int) < (vars : Int) := by omega
        go_wp2_with fail
        refine Calls.mono (one_any c n cp (m + 2) 3 ad wl (by omega) (by omega) hn HCwl.out) ?_
        rintro e wo ⟨b1, rfl, hco, hgo⟩
        have HCwo := hide hco
        have HXwo := hide ((hgo.block w.heap.size hRwl (fun e => by simp at e; omega)).trans HXwl.out)
        have HGwo := hide (grown_trans HGwl.out hgo)
        have hRwo : w.heap.size < wo.heap.size := Nat.lt_of_lt_of_le hRwl hgo.size
        clear hco hgo
        cases b1 with
        | true =>
          go_wp2_with fail
          refine Calls.mono (pick_any c n cp (m + 2 + 2) 7 ad wo (by omega) (by omega) hn HCwo.out) ?_
          rintro e wp ⟨r, rfl, hr7, hcp, hgp⟩
          have HCwp := hide hcp
          have HXwp := hide ((hgp.block w.heap.size hRwo (fun e => by simp at e; omega)).trans HXwo.out)
          have HGwp := hide (grown_trans HGwo.out hgp)
          have fzp := unfrozen_of_blk HXwp.out
          have xp := cell_of_blk HXwp.out
          have x0 : wp.cell? ⟨w.heap.size, 0, none⟩ = some (.int .i64 0) := (xp 0).trans rfl
          have x1 : wp.cell? ⟨w.heap.size, 1, none⟩ = some (.int .i64 0) := (xp 1).trans rfl
          have x2 : wp.cell? ⟨w.heap.size, 2, none⟩ = some (.slice none 0 0) := (xp 2).trans rfl
          clear hcp hgp xp
          have hr8 : (r : Int) ≤ 7 := by omega
          have hr9 : (0 : Int) ≤ (r : Int) := by omega
          clear hr7
          go_wp2_with fail
          obtain ⟨W9, hW9⟩ : ∃ W9, W9 = ((wp.setCell ⟨w.heap.size, 0, none⟩ (.int .i64 (2))).setCell ⟨w.heap.size, 1, none⟩ (.int .i64 ((r : Int) - 2))).setCell ⟨w.heap.size, 2, none⟩ (.slice none 0 0) := ⟨_, rfl⟩
          have hb9 : W9.heap[w.heap.size]? = some (.cells #[.int .i64 (2), .int .i64 ((r : Int) - 2), .slice none 0 0] 58 (0, 0)) := by rw [hW9]; exact blk_set3 HXwp.out
          have HC9 : Hid (CU W9 c ad n cp (m + Bt (d + 1))) := hide (by rw [hW9]; exact (HCwp.out.more (by have := HBt.out; omega)).set3 hcl)
          have HG9 : Hid (w.grownBy W9 (some c)) := hide (by rw [hW9]; exact grown_set3 HGwp.out (Nat.le_refl _))
          have z0 : W9.cell? ⟨w.heap.size, 0, none⟩ = some (.int .i64 (2)) := (cell_of_blk hb9 0).trans rfl
          have z1 : W9.cell? ⟨w.heap.size, 1, none⟩ = some (.int .i64 ((r : Int) - 2)) := (cell_of_blk hb9 1).trans rfl
          have z2 : W9.cell? ⟨w.heap.size, 2, none⟩ = some (.slice none 0 0) := (cell_of_blk hb9 2).trans rfl
          have HK9 : Hid (KidT W9 (fun g => w.heap.size ≤ g) .nil (.slice none 0 0)) := hide KidT.nil
          have hl9 : F.nil.flat.length + 1 ≤ 4 ^ (d + 1) := (Nat.one_le_pow _ _ (by omega) : 1 ≤ 4 ^ (d + 1))
          rw [← hW9]
          clear hW9 hb9
          exact bodyPost_ret (v := .agg #[.int .i64 (2), .int .i64 ((r : Int) - 2), .slice none 0 0]) (by simp [results, Tryd.results45, go_sem, z0, z1, z2]) rfl ⟨⟨2, (r : Int) - 2⟩, .nil, _, rfl, HK9.out, hl9, HC9.out, HG9.out⟩
        | false =>
          go_wp2_with fail
          refine Calls.mono (pick_any c n cp (m + 2 + 2) vars ad wo (by omega) (by omega) hn HCwo.out) ?_
          rintro e wp ⟨r, rfl, hr7, hcp, hgp⟩
          have HCwp := hide hcp
          have HXwp := hide ((hgp.block w.heap.size hRwo (fun e => by simp at e; omega)).trans HXwo.out)
          have HGwp := hide (grown_trans HGwo.out hgp)
          have fzp := unfrozen_of_blk HXwp.out
          have xp := cell_of_blk HXwp.out
          have x0 : wp.cell? ⟨w.heap.size, 0, none⟩ = some (.int .i64 0) := (xp 0).trans rfl
          have x1 : wp.cell? ⟨w.heap.size, 1, none⟩ = some (.int .i64 0) := (xp 1).trans rfl
          have x2 : wp.cell? ⟨w.heap.size, 2, none⟩ = some (.slice none 0 0) := (xp 2).trans rfl
          clear hcp hgp xp
          go_wp2_with fail
          obtain ⟨W9, hW9⟩ : ∃ W9, W9 = ((wp.setCell ⟨w.heap.size, 0, none⟩ (.int .i64 (1))).setCell ⟨w.heap.size, 1, none⟩ (.int .i64 ((r : Int)))).setCell ⟨w.heap.size, 2, none⟩ (.slice none 0 0) := ⟨_, rfl⟩
          have hb9 : W9.heap[w.heap.size]? = some (.cells #[.int .i64 (1), .int .i64 ((r : Int)), .slice none 0 0] 58 (0, 0)) := by rw [hW9]; exact blk_set3 HXwp.out
          have HC9 : Hid (CU W9 c ad n cp (m + Bt (d + 1))) := hide (by rw [hW9]; exact (HCwp.out.more (by have := HBt.out; omega)).set3 hcl)
          have HG9 : Hid (w.grownBy W9 (some c)) := hide (by rw [hW9]; exact grown_set3 HGwp.out (Nat.le_refl _))
          have z0 : W9.cell? ⟨w.heap.size, 0, none⟩ = some (.int .i64 (1)) := (cell_of_blk hb9 0).trans rfl
          have z1 : W9.cell? ⟨w.heap.size, 1, none⟩ = some (.int .i64 ((r : Int))) := (cell_of_blk hb9 1).trans rfl
          have z2 : W9.cell? ⟨w.heap.size, 2, none⟩ = some (.slice none 0 0) := (cell_of_blk hb9 2).trans rfl
          have HK9 : Hid (KidT W9 (fun g => w.heap.size ≤ g) .nil (.slice none 0 0)) := hide KidT.nil
          have hl9 : F.nil.flat.length + 1 ≤ 4 ^ (d + 1) := (Nat.one_le_pow _ _ (by omega) : 1 ≤ 4 ^ (d + 1))
          rw [← hW9]
          clear hW9 hb9
          exact bodyPost_ret (v := .agg #[.int .i64 (1), .int .i64 ((r : Int)), .slice none 0 0]) (by simp [results, Tryd.results45, go_sem, z0, z1, z2]) rfl ⟨⟨1, (r : Int)⟩, .nil, _, rfl, HK9.out, hl9, HC9.out, HG9.out⟩
    | false =>
      go_wp2_with fail
      refine Calls.mono (pick_any c n cp (m + 2) 7 ad wl (by omega) (by omega) hn HCwl.out) ?_
      rintro e wq ⟨r, rfl, hr7, hcq, hgq⟩
      have HCwq := hide hcq
      have HXwq := hide ((hgq.block w.heap.size hRwl (fun e => by simp at e; omega)).trans HXwl.out)
      have HGwq := hide (grown_trans HGwl.out hgq)
      have hRwq : w.heap.size < wq.heap.size := Nat.lt_of_lt_of_le hRwl hgq.size
      have hr8 : (r = 0 ∨ r = 1) ∨ (r = 2 ∨ r = 3) ∨ r = 4 ∨ r = 5 ∨ r = 6 := by omega
      clear hcq hgq hr7
      rcases hr8 with h01 | h01 | rfl | rfl | rfl
      · rcases h01 with rfl | rfl <;> (
          go_wp2_with fail
          refine Calls.mono (IH.out (vars + 1) (m + 4) (D - 1) (V + 1) wq (by have := HD.out; omega) (by have := HV.out; omega) (by omega) (by omega) HCwq.out) ?_
          rintro e w1 ⟨x1, k1, s1, rfl, hK1, hl1, hC1, hG1⟩
          obtain ⟨sa1, sc1, hf1⟩ := hK1.form
          obtain ⟨KN1, hKN1⟩ : ∃ KN, KN = k1.len := ⟨_, rfl⟩
          rw [← hKN1] at hf1
          subst hf1
          have HK1 : Hid (KidT w1 (fun g => w.heap.size + 1 ≤ g) k1 (.slice sa1 KN1 sc1)) := hide (hK1.weak (fun g h _ => by have := hRwq; omega))
          have HCw1 := hide hC1
          have HXw1 := hide ((hG1.block w.heap.size hRwq (fun e => by simp at e; omega)).trans HXwq.out)
          have HGw1 := hide (grown_trans HGwq.out hG1)
          have hRw1 : w.heap.size < w1.heap.size := Nat.lt_of_lt_of_le hRwq hG1.size
          have HSw1 := hide hG1
          have HLn1 := hide hl1
          clear hl1
          clear hK1 hC1 hG1 hKN1
          have fzl : ∀ (i : Nat), w1.frozen? ⟨w.heap.size, i, none⟩ = false := fun i => unfrozen_of_blk HXw1.out i
          have y0 : w1.cell? ⟨w.heap.size, 0, none⟩ = some (.int .i64 0) := (cell_of_blk HXw1.out 0).trans rfl
          have y1 : w1.cell? ⟨w.heap.size, 1, none⟩ = some (.int .i64 0) := (cell_of_blk HXw1.out 1).trans rfl
          have y2 : w1.cell? ⟨w.heap.size, 2, none⟩ = some (.slice none 0 0) := (cell_of_blk HXw1.out 2).trans rfl
          go_wp2_with fail
          obtain ⟨ws, hws⟩ : ∃ ws, ws = ((w1.setCell ⟨w.heap.size, 0, none⟩ (.int .i64 3)).setCell ⟨w.heap.size, 1, none⟩ (.int .i64 0)).setCell ⟨w.heap.size, 2, none⟩ (.slice (some ⟨w1.heap.size, 0, none⟩) 1 1) := ⟨_, rfl⟩
          have hss : ws.heap.size = w1.heap.size := by rw [hws]; simp
          have hXs : ws.heap[w.heap.size]? = some (.cells #[.int .i64 3, .int .i64 0, .slice (some ⟨w1.heap.size, 0, none⟩) 1 1] 58 (0, 0)) := by rw [hws]; exact blk_set3 HXw1.out
          have hCs : CU ws c ad n cp (m + Bt (d + 1)) := by rw [hws]; exact (HCw1.out.more (by have := HBt.out; omega)).set3 hcl
          have hGs : w.grownBy ws (some c) := by rw [hws]; exact grown_set3 HGw1.out (Nat.le_refl _)
          have hks1 : KidT ws (fun g => w.heap.size + 1 ≤ g) k1 (.slice sa1 KN1 sc1) := by rw [hws]; exact kid_set3 HK1.out (fun g h _ => by omega)
          obtain ⟨W9, hW9⟩ : ∃ W9, W9 = ws.alloc (.cells #[.int .i64 x1.k, .int .i64 x1.n, .slice sa1 KN1 sc1] 58) := ⟨_, rfl⟩
          rw [← hws, ← hW9]
          have hb9 : Below ws.heap.size ws W9 := by rw [hW9]; exact (Below.refl _ _).alloc (Nat.le_refl _) _
          have hB9 : W9.heap[w1.heap.size]? = some (.cells #[.int .i64 x1.k, .int .i64 x1.n, .slice sa1 KN1 sc1] 58 (0, 0)) := by rw [hW9, ← hss]; exact heap_alloc_new _ _
          have hX9 := (hb9.block w.heap.size (by have := hRw1; omega)).trans hXs
          have z0 : W9.cell? ⟨w.heap.size, 0, none⟩ = some (.int .i64 3) := (cell_of_blk hX9 0).trans rfl
          have z1 : W9.cell? ⟨w.heap.size, 1, none⟩ = some (.int .i64 0) := (cell_of_blk hX9 1).trans rfl
          have z2 : W9.cell? ⟨w.heap.size, 2, none⟩ = some (.slice (some ⟨w1.heap.size, 0, none⟩) 1 1) := (cell_of_blk hX9 2).trans rfl
          have hk1 := hks1.below hb9
          have hK9 : KidT W9 (fun g => w.heap.size + 1 ≤ g) (.cons x1 k1 .nil) (.slice (some ⟨w1.heap.size, 0, none⟩) 1 1) := kidT_of (cs := [.int .i64 x1.k, .int .i64 x1.n, .slice sa1 KN1 sc1]) ⟨_, _, rfl, hk1, rfl⟩ rfl (by omega) hB9 hRw1
          have hl9 : (F.flat (.cons x1 k1 .nil)).length + 1 ≤ 4 ^ (d + 1) := by have := HLn1.out; have := Hp.out; have := Hp1.out; simp [F.flat]; omega
          exact bodyPost_ret (v := .agg #[.int .i64 3, .int .i64 0, .slice (some ⟨w1.heap.size, 0, none⟩) 1 1]) (by simp [results, Tryd.results45, go_sem, z0, z1, z2]) rfl ⟨⟨3, 0⟩, (.cons x1 k1 .nil), _, rfl, hK9.weak (fun g h _ => by omega), hl9, hCs.below hb9, grown_trans hGs (grown_below (some c) hb9)⟩
          )
      · rcases h01 with rfl | rfl <;> (
          go_wp2_with fail
          refine Calls.mono (IH.out (vars) (m + 4) (D - 1) (V) wq (by have := HD.out; omega) (by have := HV.out; omega) (by omega) (by omega) HCwq.out) ?_
          rintro e w1 ⟨x1, k1, s1, rfl, hK1, hl1, hC1, hG1⟩
          obtain ⟨sa1, sc1, hf1⟩ := hK1.form
          obtain ⟨KN1, hKN1⟩ : ∃ KN, KN = k1.len := ⟨_, rfl⟩
          rw [← hKN1] at hf1
          subst hf1
          have HK1 : Hid (KidT w1 (fun g => w.heap.size + 1 ≤ g) k1 (.slice sa1 KN1 sc1)) := hide (hK1.weak (fun g h _ => by have := hRwq; omega))
          have HCw1 := hide hC1
          have HXw1 := hide ((hG1.block w.heap.size hRwq (fun e => by simp at e; omega)).trans HXwq.out)
          have HGw1 := hide (grown_trans HGwq.out hG1)
          have hRw1 : w.heap.size < w1.heap.size := Nat.lt_of_lt_of_le hRwq hG1.size
          have HSw1 := hide hG1
          have HLn1 := hide hl1
          clear hl1
          clear hK1 hC1 hG1 hKN1
          obtain ⟨T7, hT7e⟩ : ∃ T7, T7 = w1.heap.size := ⟨_, rfl⟩
          obtain ⟨wb, hwb⟩ : ∃ wb, wb = w1.alloc (.cells #[.int .i64 x1.k, .int .i64 x1.n, .slice sa1 KN1 sc1] 58) := ⟨_, rfl⟩
          have hbb : Below w1.heap.size w1 wb := by rw [hwb]; exact (Below.refl _ _).alloc (Nat.le_refl _) _
          have HCwb := hide (HCw1.out.below hbb)
          have HXwb := hide ((hbb.block w.heap.size hRw1).trans HXw1.out)
          have HGwb := hide (grown_trans HGw1.out (grown_below (some c) hbb))
          have hRwb : w.heap.size < wb.heap.size := Nat.lt_of_lt_of_le hRw1 hbb.size
          have HK1 := hide (HK1.out.below hbb)
          have HTwb : Hid (wb.heap[T7]? = some (.cells #[.int .i64 x1.k, .int .i64 x1.n, .slice sa1 KN1 sc1] 58 (0, 0))) := hide (by rw [hwb, hT7e]; exact heap_alloc_new _ _)
          have hT7b : T7 < wb.heap.size := by rw [hwb, hT7e]; simp
          have hRT : w.heap.size < T7 := by omega
          have Hwb := hide hwb
          have HT7e := hide hT7e
          clear hwb hT7e hbb
          go_wp2_with fail
          rw [← Hwb.out, ← HT7e.out]
          refine Calls.mono (one_any c n cp (m + 4 + Bt d) 2 ad wb (by omega) (by omega) hn HCwb.out) ?_
          rintro e wo ⟨b2, rfl, hco, hgo⟩
          have HCwo := hide hco
          have HXwo := hide ((hgo.block w.heap.size hRwb (fun e => by simp at e; omega)).trans HXwb.out)
          have HGwo := hide (grown_trans HGwb.out hgo)
          have hRwo : w.heap.size < wo.heap.size := Nat.lt_of_lt_of_le hRwb hgo.size
          have HK1 := hide (HK1.out.grown (by omega) hgo)
          have HTwo := hide ((hgo.block T7 hT7b (fun e => by simp at e; omega)).trans HTwb.out)
          have hT7 : T7 < wo.heap.size := Nat.lt_of_lt_of_le hT7b hgo.size
          clear hco hgo
          cases b2 with
          | false =>
            go_wp2_with fail
            have f0 : wo.cell? ⟨T7, 0, none⟩ = some (.int .i64 (x1.k)) := (cell_of_blk HTwo.out 0).trans rfl
            have f1 : wo.cell? ⟨T7, 1, none⟩ = some (.int .i64 (x1.n)) := (cell_of_blk HTwo.out 1).trans rfl
            have f2 : wo.cell? ⟨T7, 2, none⟩ = some (.slice sa1 KN1 sc1) := (cell_of_blk HTwo.out 2).trans rfl
            refine wp_region_noPanic ?_
            refine wp_region_held_drew (S := fun w' => w'.cell? ⟨T7, 0, none⟩ = some (.int .i64 (x1.k)) ∧ w'.cell? ⟨T7, 1, none⟩ = some (.int .i64 (x1.n)) ∧ w'.cell? ⟨T7, 2, none⟩ = some (.slice sa1 KN1 sc1)) (by kernel_rfl) ⟨f0, f1, f2⟩ (fun hHeld => ?_)
            refine wpAnyH_take (i := 0) (oi := _) (v := ?_) rfl (by kernel_rfl) (by kernel_rfl) (by kernel_rfl) (fun _ _ _ h => h) (Or.inl ⟨by rfl, ?_⟩) (by assumption) ?_
            rotate_left 1
            · (intro w hSw; (try dsimp only at hSw); (first | (go_simp; done) | (go_simp; with_reducible rfl)))
            try simp only [Act.put, List.getElem_toArray, List.getElem_cons_zero, List.getElem_cons_succ, List.setIfInBounds_toArray, List.set_cons_zero, List.set_cons_succ]
            refine wpAnyH_take (i := 1) (oi := _) (v := ?_) rfl (by kernel_rfl) (by kernel_rfl) (by kernel_rfl) (fun _ _ _ h => h) (Or.inl ⟨by rfl, ?_⟩) (by assumption) ?_
            rotate_left 1
            · (intro w hSw; (try dsimp only at hSw); (first | (go_simp; done) | (go_simp; with_reducible rfl)))
            try simp only [Act.put, List.getElem_toArray, List.getElem_cons_zero, List.getElem_cons_succ, List.setIfInBounds_toArray, List.set_cons_zero, List.set_cons_succ]
            refine wpAnyH_take (i := 2) (oi := _) (v := ?_) rfl (by kernel_rfl) (by kernel_rfl) (by kernel_rfl) (fun _ _ _ h => h) (Or.inl ⟨by rfl, ?_⟩) (by assumption) ?_
            rotate_left 1
            · (intro w hSw; (try dsimp only at hSw); (first | (go_simp; done) | (go_simp; with_reducible rfl)))
            try simp only [Act.put, List.getElem_toArray, List.getElem_cons_zero, List.getElem_cons_succ, List.setIfInBounds_toArray, List.set_cons_zero, List.set_cons_succ]
            refine wpAnyH_take (i := 3) (oi := _) (v := ?_) rfl (by kernel_rfl) (by kernel_rfl) (by kernel_rfl) (fun _ _ _ h => h) (Or.inl ⟨by rfl, ?_⟩) (by assumption) ?_
            rotate_left 1
            · (intro w hSw; (try dsimp only at hSw); (first | (go_simp; done) | (go_simp; with_reducible rfl)))
            try simp only [Act.put, List.getElem_toArray, List.getElem_cons_zero, List.getElem_cons_succ, List.setIfInBounds_toArray, List.set_cons_zero, List.set_cons_succ]
            refine wpAnyH_take (i := 4) (oi := _) (v := ?_) rfl (by kernel_rfl) (by kernel_rfl) (by kernel_rfl) (fun _ _ _ h => h) (Or.inl ⟨by rfl, ?_⟩) (by assumption) ?_
            rotate_left 1
            · (intro w hSw; (try dsimp only at hSw); (first | (go_simp; done) | (go_simp; with_reducible rfl)))
            try simp only [Act.put, List.getElem_toArray, List.getElem_cons_zero, List.getElem_cons_succ, List.setIfInBounds_toArray, List.set_cons_zero, List.set_cons_succ]
            obtain ⟨wd, hwd⟩ : ∃ wd, wd = wo.drew := ⟨_, rfl⟩
            have hbd : Below wo.heap.size wo wd := by rw [hwd]; exact ⟨rfl, rfl, rfl, Nat.le_refl _, fun _ _ => rfl⟩
            have HCwd := hide (HCwo.out.below hbd)
            have HXwd := hide ((hbd.block w.heap.size hRwo).trans HXwo.out)
            have HGwd := hide (grown_trans HGwo.out (grown_below (some c) hbd))
            have hRwd : w.heap.size < wd.heap.size := Nat.lt_of_lt_of_le hRwo hbd.size
            have HK1 := hide (HK1.out.below hbd)
            have HTwd := hide ((hbd.block T7 hT7).trans HTwo.out)
            have hT7d : T7 < wd.heap.size := Nat.lt_of_lt_of_le hT7 hbd.size
            rw [← hwd]
            clear hwd hbd f0 f1 f2
            refine wpAnyH_ready (rs := [5]) (by kernel_rfl) (by simp) ?_
            refine AllReadyH.cons (o := _) rfl (fun K hK => ?_) AllReadyH.nil
            go_simp
            have hwr : IntKind.i64.wrap (D - 1) = D - 1 := IntWalk.i64_in _ (by omega)
            rw [hwr]
            have hcall := IH.out (vars) (m + 4 + Bt d + 2) (D - 1) (V) wd (by have := HD.out; omega) (by have := HV.out; omega) (by omega) (by omega) HCwd.out
            (with_reducible refine Calls.mono hcall ?_)
            rintro e w5 ⟨x9, k9, s9, rfl, hK9, hl9, hC9, hG9⟩
            obtain ⟨sa9, sc9, hf9⟩ := hK9.form
            obtain ⟨KN9, hKN9⟩ : ∃ KN, KN = k9.len := ⟨_, rfl⟩
            rw [← hKN9] at hf9
            subst hf9
            have HK9 : Hid (KidT w5 (fun g => w.heap.size + 1 ≤ g) k9 (.slice sa9 KN9 sc9)) := hide (hK9.weak (fun g h _ => by have := hRwd; omega))
            have HCw5 := hide hC9
            have HXw5 := hide ((hG9.block w.heap.size hRwd (fun e => by simp at e; omega)).trans HXwd.out)
            have HGw5 := hide (grown_trans HGwd.out hG9)
            have hRw5 : w.heap.size < w5.heap.size := Nat.lt_of_lt_of_le hRwd hG9.size
            have HSw5 := hide hG9
            have HLn9 := hide hl9
            clear hl9
            have HK1 := hide (HK1.out.grown (by omega) HSw5.out)
            have HTw5 := hide ((hG9.block T7 hT7d (fun e => by simp at e; omega)).trans HTwd.out)
            have hT75 : T7 < w5.heap.size := Nat.lt_of_lt_of_le hT7d hG9.size
            clear hK9 hC9 hG9 hKN9
            have kk0 : w5.cell? ⟨T7, 0, none⟩ = some (.int .i64 (x1.k)) := (cell_of_blk HTw5.out 0).trans rfl
            have kk1 : w5.cell? ⟨T7, 1, none⟩ = some (.int .i64 (x1.n)) := (cell_of_blk HTw5.out 1).trans rfl
            have kk2 : w5.cell? ⟨T7, 2, none⟩ = some (.slice sa1 KN1 sc1) := (cell_of_blk HTw5.out 2).trans rfl
            (try go_wp2_with fail)
            refine hK.out _ _ ⟨kk0, kk1, kk2⟩ (fun hHeld => ?_)
            clear hK K
            try simp only [Act.put, List.getElem_toArray, List.getElem_cons_zero, List.getElem_cons_succ, List.setIfInBounds_toArray, List.set_cons_zero, List.set_cons_succ]
            obtain ⟨Wk, hWk⟩ : ∃ Wk, Wk = w5.alloc (.cells #[.int .i64 (x1.k), .int .i64 (x1.n), .slice sa1 KN1 sc1, .int .i64 x9.k, .int .i64 x9.n, .slice sa9 KN9 sc9] 58) := ⟨_, rfl⟩
            have hbk : Below w5.heap.size w5 Wk := by rw [hWk]; exact (Below.refl _ _).alloc (Nat.le_refl _) _
            have HXWk := hide ((hbk.block w.heap.size hRw5).trans HXw5.out)
            have HCWk := hide (HCw5.out.below hbk)
            have HGWk := hide (grown_trans HGw5.out (grown_below (some c) hbk))
            have hBk : Wk.heap[w5.heap.size]? = some (.cells #[.int .i64 (x1.k), .int .i64 (x1.n), .slice sa1 KN1 sc1, .int .i64 x9.k, .int .i64 x9.n, .slice sa9 KN9 sc9] 58 (0, 0)) := by rw [hWk]; exact heap_alloc_new _ _
            have HTWk := hide ((hbk.block T7 hT75).trans HTw5.out)
            have HKr : Hid (KidT Wk (fun g => w.heap.size + 1 ≤ g) (.cons ⟨x1.k, x1.n⟩ k1 (.cons x9 k9 .nil)) (.slice (some ⟨w5.heap.size, 0, none⟩) 2 2)) := hide (kidT_of (cs := [.int .i64 (x1.k), .int .i64 (x1.n), .slice sa1 KN1 sc1, .int .i64 x9.k, .int .i64 x9.n, .slice sa9 KN9 sc9]) ⟨_, _, rfl, HK1.out.below hbk, ⟨_, _, rfl, HK9.out.below hbk, rfl⟩⟩ rfl (by omega) hBk hRw5)
            have m0 : Wk.cell? ⟨T7, 0, none⟩ = some (.int .i64 (x1.k)) := (cell_of_blk HTWk.out 0).trans rfl
            have m1 : Wk.cell? ⟨T7, 1, none⟩ = some (.int .i64 (x1.n)) := (cell_of_blk HTWk.out 1).trans rfl
            have m2 : Wk.cell? ⟨T7, 2, none⟩ = some (.slice sa1 KN1 sc1) := (cell_of_blk HTWk.out 2).trans rfl
            refine wpAnyH_ready (rs := [6]) (by kernel_rfl) (by simp) ?_
            refine AllReadyH.cons (o := _) rfl (fun K hK => ?_) AllReadyH.nil
            go_simp
            rw [← hWk]
            refine hK.out _ _ ⟨m0, m1, m2⟩ (fun hHeld => ?_)
            clear hK K hWk hBk hbk
            try simp only [Act.put, List.getElem_toArray, List.getElem_cons_zero, List.getElem_cons_succ, List.setIfInBounds_toArray, List.set_cons_zero, List.set_cons_succ]
            refine wpAnyH_take (i := 7) (oi := _) (v := ?_) rfl (by kernel_rfl) (by kernel_rfl) (by kernel_rfl) (fun _ _ _ h => h) (Or.inl ⟨by rfl, ?_⟩) (by assumption) ?_
            rotate_left 1
            · (intro w hSw; (try dsimp only at hSw); (first | (go_simp; done) | (go_simp; with_reducible rfl)))
            try simp only [Act.put, List.getElem_toArray, List.getElem_cons_zero, List.getElem_cons_succ, List.setIfInBounds_toArray, List.set_cons_zero, List.set_cons_succ]
            have fzk := unfrozen_of_blk HXWk.out
            have y0 : Wk.cell? ⟨w.heap.size, 0, none⟩ = some (.int .i64 0) := (cell_of_blk HXWk.out 0).trans rfl
            have y1 : Wk.cell? ⟨w.heap.size, 1, none⟩ = some (.int .i64 0) := (cell_of_blk HXWk.out 1).trans rfl
            have y2 : Wk.cell? ⟨w.heap.size, 2, none⟩ = some (.slice none 0 0) := (cell_of_blk HXWk.out 2).trans rfl
            refine wpAnyH_ready (rs := [8]) (by kernel_rfl) (by simp) ?_
            refine AllReadyH.cons (o := _) rfl (fun K hK => ?_) AllReadyH.nil
            go_simp
            obtain ⟨W9, hW9⟩ : ∃ W9, W9 = ((Wk.setCell ⟨w.heap.size, 0, none⟩ (.int .i64 (4))).setCell ⟨w.heap.size, 1, none⟩ (.int .i64 (0))).setCell ⟨w.heap.size, 2, none⟩ (.slice (some ⟨w5.heap.size, 0, none⟩) 2 2) := ⟨_, rfl⟩
            have hb9 : W9.heap[w.heap.size]? = some (.cells #[.int .i64 (4), .int .i64 (0), .slice (some ⟨w5.heap.size, 0, none⟩) 2 2] 58 (0, 0)) := by rw [hW9]; exact blk_set3 HXWk.out
            have HC9 : Hid (CU W9 c ad n cp (m + Bt (d + 1))) := hide (by rw [hW9]; exact (HCWk.out.more (by have := HBt.out; omega)).set3 hcl)
            have HG9 : Hid (w.grownBy W9 (some c)) := hide (by rw [hW9]; exact grown_set3 HGWk.out (Nat.le_refl _))
            have z0 : W9.cell? ⟨w.heap.size, 0, none⟩ = some (.int .i64 (4)) := (cell_of_blk hb9 0).trans rfl
            have z1 : W9.cell? ⟨w.heap.size, 1, none⟩ = some (.int .i64 (0)) := (cell_of_blk hb9 1).trans rfl
            have z2 : W9.cell? ⟨w.heap.size, 2, none⟩ = some (.slice (some ⟨w5.heap.size, 0, none⟩) 2 2) := (cell_of_blk hb9 2).trans rfl
            have HK9' : Hid (KidT W9 (fun g => w.heap.size ≤ g) (.cons ⟨x1.k, x1.n⟩ k1 (.cons x9 k9 .nil)) (.slice (some ⟨w5.heap.size, 0, none⟩) 2 2)) := hide (by rw [hW9]; exact (kid_set3 HKr.out (fun g h _ => by omega)).weak (fun g h _ => by omega))
            have hl9' : (F.flat (.cons ⟨x1.k, x1.n⟩ k1 (.cons x9 k9 .nil))).length + 1 ≤ 4 ^ (d + 1) := by have := HLn1.out; have := HLn9.out; have := Hp.out; have := Hp1.out; simp [F.flat]; omega
            have HT9 : Hid (W9.heap[T7]? = some (.cells #[.int .i64 (x1.k), .int .i64 (x1.n), .slice sa1 KN1 sc1] 58 (0, 0))) := hide (by rw [hW9, Below.heap_setCell _ _ _ _ (by simp; omega), Below.heap_setCell _ _ _ _ (by simp; omega), Below.heap_setCell _ _ _ _ (by simp; omega)]; exact HTWk.out)
            have v0 : W9.cell? ⟨T7, 0, none⟩ = some (.int .i64 (x1.k)) := (cell_of_blk HT9.out 0).trans rfl
            have v1 : W9.cell? ⟨T7, 1, none⟩ = some (.int .i64 (x1.n)) := (cell_of_blk HT9.out 1).trans rfl
            have v2 : W9.cell? ⟨T7, 2, none⟩ = some (.slice sa1 KN1 sc1) := (cell_of_blk HT9.out 2).trans rfl
            rw [← hW9]
            clear hW9 hb9
            refine hK.out _ _ ⟨v0, v1, v2⟩ (fun hHeld => ?_)
            clear hK K
            try simp only [Act.put, List.getElem_toArray, List.getElem_cons_zero, List.getElem_cons_succ, List.setIfInBounds_toArray, List.set_cons_zero, List.set_cons_succ]
            refine wpAnyH_done (by kernel_rfl) ?_ _
            refine NoPanic.normal ?_
            clear y0 y1 y2 kk0 kk1 kk2 m0 m1 m2 v0 v1 v2
            go_wp2_with fail
            exact bodyPost_ret (v := .agg #[.int .i64 (4), .int .i64 (0), .slice (some ⟨w5.heap.size, 0, none⟩) 2 2]) (by simp [results, Tryd.results45, go_sem, z0, z1, z2]) rfl ⟨⟨4, 0⟩, (.cons ⟨x1.k, x1.n⟩ k1 (.cons x9 k9 .nil)), _, rfl, HK9'.out, hl9', HC9.out, HG9.out⟩
          | true =>
            go_wp2_with fail
            refine Calls.mono (IH.out (vars + 1) (m + 4 + Bt d + 2) (D - 1) (V + 1) wo (by have := HD.out; omega) (by have := HV.out; omega) (by omega) (by omega) HCwo.out) ?_
            rintro e w2 ⟨x2, k2, s2, rfl, hK2, hl2, hC2, hG2⟩
            obtain ⟨sa2, sc2, hf2⟩ := hK2.form
            obtain ⟨KN2, hKN2⟩ : ∃ KN, KN = k2.len := ⟨_, rfl⟩
            rw [← hKN2] at hf2
            subst hf2
            have HK2 : Hid (KidT w2 (fun g => w.heap.size + 1 ≤ g) k2 (.slice sa2 KN2 sc2)) := hide (hK2.weak (fun g h _ => by have := hRwo; omega))
            have HL2 : Hid (KidT w2 (fun g => w.heap.size + 1 ≤ g ∧ g ≠ T7) k2 (.slice sa2 KN2 sc2)) := hide (hK2.weak (fun g h _ => ⟨by have := hRwo; omega, by omega⟩))
            have HCw2 := hide hC2
            have HXw2 := hide ((hG2.block w.heap.size hRwo (fun e => by simp at e; omega)).trans HXwo.out)
            have HGw2 := hide (grown_trans HGwo.out hG2)
            have hRw2 : w.heap.size < w2.heap.size := Nat.lt_of_lt_of_le hRwo hG2.size
            have HSw2 := hide hG2
            have HLn2 := hide hl2
            clear hl2
            have HTw2 := hide ((hG2.block T7 hT7 (fun e => by simp at e; omega)).trans HTwo.out)
            have hT72 : T7 < w2.heap.size := Nat.lt_of_lt_of_le hT7 hG2.size
            clear hK2 hC2 hG2 hKN2
            have fzl : ∀ (i : Nat), w2.frozen? ⟨T7, i, none⟩ = false := fun i => unfrozen_of_blk HTw2.out i
            have y0 : w2.cell? ⟨T7, 0, none⟩ = some (.int .i64 x1.k) := (cell_of_blk HTw2.out 0).trans rfl
            have y1 : w2.cell? ⟨T7, 1, none⟩ = some (.int .i64 x1.n) := (cell_of_blk HTw2.out 1).trans rfl
            have y2 : w2.cell? ⟨T7, 2, none⟩ = some (.slice sa1 KN1 sc1) := (cell_of_blk HTw2.out 2).trans rfl
            obtain ⟨w6, hw6⟩ : ∃ w6, w6 = ((w2.setCell ⟨T7, 0, none⟩ (.int .i64 3)).setCell ⟨T7, 1, none⟩ (.int .i64 0)).setCell ⟨T7, 2, none⟩ (.slice (some ⟨w2.heap.size, 0, none⟩) 1 1) := ⟨_, rfl⟩
            have hs6 : w6.heap.size = w2.heap.size := by rw [hw6]; simp
            have hT6 : w6.heap[T7]? = some (.cells #[.int .i64 3, .int .i64 0, .slice (some ⟨w2.heap.size, 0, none⟩) 1 1] 58 (0, 0)) := by rw [hw6]; exact blk_set3 HTw2.out
            have hC6 : CU w6 c ad n cp (m + 4 + Bt d + 2 + Bt d) := by rw [hw6]; exact HCw2.out.set3 (by omega)
            have hG6 : w.grownBy w6 (some c) := by rw [hw6]; exact grown_set3 HGw2.out (by omega)
            have hX6 : w6.heap[w.heap.size]? = some (.cells #[.int .i64 0, .int .i64 0, .slice none 0 0] 58 (0, 0)) := by rw [hw6, Below.heap_setCell _ _ _ _ (by simp; omega), Below.heap_setCell _ _ _ _ (by simp; omega), Below.heap_setCell _ _ _ _ (by simp; omega)]; exact HXw2.out
            have hk6 : KidT w6 (fun g => w.heap.size + 1 ≤ g ∧ g ≠ T7) k2 (.slice sa2 KN2 sc2) := by rw [hw6]; exact kid_set3 HL2.out (fun g h _ => h.2)
            obtain ⟨w7, hw7⟩ : ∃ w7, w7 = w6.alloc (.cells #[.int .i64 x2.k, .int .i64 x2.n, .slice sa2 KN2 sc2] 58) := ⟨_, rfl⟩
            have hb7 : Below w6.heap.size w6 w7 := by rw [hw7]; exact (Below.refl _ _).alloc (Nat.le_refl _) _
            have hB7 : w7.heap[w2.heap.size]? = some (.cells #[.int .i64 x2.k, .int .i64 x2.n, .slice sa2 KN2 sc2] 58 (0, 0)) := by rw [hw7, ← hs6]; exact heap_alloc_new _ _
            have hs7 := hb7.size
            have HTw7 := hide ((hb7.block T7 (by omega)).trans hT6)
            have HXw7 := hide ((hb7.block w.heap.size (by omega)).trans hX6)
            have HCw7 := hide (hC6.below hb7)
            have HGw7 := hide (grown_trans hG6 (grown_below (some c) hb7))
            have hRw7 : w.heap.size < w7.heap.size := by omega
            have hT77 : T7 < w7.heap.size := by omega
            have HK3 : Hid (KidT w7 (fun g => w.heap.size + 1 ≤ g) (.cons x2 k2 .nil) (.slice (some ⟨w2.heap.size, 0, none⟩) 1 1)) := hide (kidT_of (cs := [.int .i64 x2.k, .int .i64 x2.n, .slice sa2 KN2 sc2]) ⟨_, _, rfl, (hk6.below hb7).weak (fun g h _ => h.1), rfl⟩ rfl (by omega) hB7 hRw2)
            have Hw6 := hide hw6
            have Hw7 := hide hw7
            clear hw6 hw7 hb7 hB7 hk6 hs7 hs6 hT6 hC6 hG6 hX6
            go_wp2_with fail
            rw [← Hw6.out, ← Hw7.out]
            obtain ⟨k3, hk3⟩ : ∃ k3, k3 = F.cons x2 k2 .nil := ⟨_, rfl⟩
            have HLn3 : Hid (k3.flat.length + 1 ≤ 4 ^ d + 1) := hide (by have := HLn2.out; rw [hk3]; simp [F.flat]; omega)
            rw [← hk3] at HK3
            clear hk3 hT7 y0 y1 y2 fzl
            have f0 : w7.cell? ⟨T7, 0, none⟩ = some (.int .i64 (3)) := (cell_of_blk HTw7.out 0).trans rfl
            have f1 : w7.cell? ⟨T7, 1, none⟩ = some (.int .i64 (0)) := (cell_of_blk HTw7.out 1).trans rfl
            have f2 : w7.cell? ⟨T7, 2, none⟩ = some (.slice (some ⟨w2.heap.size, 0, none⟩) 1 1) := (cell_of_blk HTw7.out 2).trans rfl
            refine wp_region_noPanic ?_
            refine wp_region_held_drew (S := fun w' => w'.cell? ⟨T7, 0, none⟩ = some (.int .i64 (3)) ∧ w'.cell? ⟨T7, 1, none⟩ = some (.int .i64 (0)) ∧ w'.cell? ⟨T7, 2, none⟩ = some (.slice (some ⟨w2.heap.size, 0, none⟩) 1 1)) (by kernel_rfl) ⟨f0, f1, f2⟩ (fun hHeld => ?_)
            refine wpAnyH_take (i := 0) (oi := _) (v := ?_) rfl (by kernel_rfl) (by kernel_rfl) (by kernel_rfl) (fun _ _ _ h => h) (Or.inl ⟨by rfl, ?_⟩) (by assumption) ?_
            rotate_left 1
            · (intro w hSw; (try dsimp only at hSw); (first | (go_simp; done) | (go_simp; with_reducible rfl)))
            try simp only [Act.put, List.getElem_toArray, List.getElem_cons_zero, List.getElem_cons_succ, List.setIfInBounds_toArray, List.set_cons_zero, List.set_cons_succ]
            refine wpAnyH_take (i := 1) (oi := _) (v := ?_) rfl (by kernel_rfl) (by kernel_rfl) (by kernel_rfl) (fun _ _ _ h => h) (Or.inl ⟨by rfl, ?_⟩) (by assumption) ?_
            rotate_left 1
            · (intro w hSw; (try dsimp only at hSw); (first | (go_simp; done) | (go_simp; with_reducible rfl)))
            try simp only [Act.put, List.getElem_toArray, List.getElem_cons_zero, List.getElem_cons_succ, List.setIfInBounds_toArray, List.set_cons_zero, List.set_cons_succ]
            refine wpAnyH_take (i := 2) (oi := _) (v := ?_) rfl (by kernel_rfl) (by kernel_rfl) (by kernel_rfl) (fun _ _ _ h => h) (Or.inl ⟨by rfl, ?_⟩) (by assumption) ?_
            rotate_left 1
            · (intro w hSw; (try dsimp only at hSw); (first | (go_simp; done) | (go_simp; with_reducible rfl)))
            try simp only [Act.put, List.getElem_toArray, List.getElem_cons_zero, List.getElem_cons_succ, List.setIfInBounds_toArray, List.set_cons_zero, List.set_cons_succ]
            refine wpAnyH_take (i := 3) (oi := _) (v := ?_) rfl (by kernel_rfl) (by kernel_rfl) (by kernel_rfl) (fun _ _ _ h => h) (Or.inl ⟨by rfl, ?_⟩) (by assumption) ?_
            rotate_left 1
            · (intro w hSw; (try dsimp only at hSw); (first | (go_simp; done) | (go_simp; with_reducible rfl)))
            try simp only [Act.put, List.getElem_toArray, List.getElem_cons_zero, List.getElem_cons_succ, List.setIfInBounds_toArray, List.set_cons_zero, List.set_cons_succ]
            refine wpAnyH_take (i := 4) (oi := _) (v := ?_) rfl (by kernel_rfl) (by kernel_rfl) (by kernel_rfl) (fun _ _ _ h => h) (Or.inl ⟨by rfl, ?_⟩) (by assumption) ?_
            rotate_left 1
            · (intro w hSw; (try dsimp only at hSw); (first | (go_simp; done) | (go_simp; with_reducible rfl)))
            try simp only [Act.put, List.getElem_toArray, List.getElem_cons_zero, List.getElem_cons_succ, List.setIfInBounds_toArray, List.set_cons_zero, List.set_cons_succ]
            obtain ⟨wd, hwd⟩ : ∃ wd, wd = w7.drew := ⟨_, rfl⟩
            have hbd : Below w7.heap.size w7 wd := by rw [hwd]; exact ⟨rfl, rfl, rfl, Nat.le_refl _, fun _ _ => rfl⟩
            have HCwd := hide (HCw7.out.below hbd)
            have HXwd := hide ((hbd.block w.heap.size hRw7).trans HXw7.out)
            have HGwd := hide (grown_trans HGw7.out (grown_below (some c) hbd))
            have hRwd : w.heap.size < wd.heap.size := Nat.lt_of_lt_of_le hRw7 hbd.size
            have HK3 := hide (HK3.out.below hbd)
            have HTwd := hide ((hbd.block T7 hT77).trans HTw7.out)
            have hT7d : T7 < wd.heap.size := Nat.lt_of_lt_of_le hT77 hbd.size
            rw [← hwd]
            clear hwd hbd f0 f1 f2
            refine wpAnyH_ready (rs := [5]) (by kernel_rfl) (by simp) ?_
            refine AllReadyH.cons (o := _) rfl (fun K hK => ?_) AllReadyH.nil
            go_simp
            have hwr : IntKind.i64.wrap (D - 1) = D - 1 := IntWalk.i64_in _ (by omega)
            rw [hwr]
            have hcall := IH.out (vars) (m + 4 + Bt d + 2 + Bt d) (D - 1) (V) wd (by have := HD.out; omega) (by have := HV.out; omega) (by omega) (by omega) HCwd.out
            (with_reducible refine Calls.mono hcall ?_)
            rintro e w5 ⟨x9, k9, s9, rfl, hK9, hl9, hC9, hG9⟩
            obtain ⟨sa9, sc9, hf9⟩ := hK9.form
            obtain ⟨KN9, hKN9⟩ : ∃ KN, KN = k9.len := ⟨_, rfl⟩
            rw [← hKN9] at hf9
            subst hf9
            have HK9 : Hid (KidT w5 (fun g => w.heap.size + 1 ≤ g) k9 (.slice sa9 KN9 sc9)) := hide (hK9.weak (fun g h _ => by have := hRwd; omega))
            have HCw5 := hide hC9
            have HXw5 := hide ((hG9.block w.heap.size hRwd (fun e => by simp at e; omega)).trans HXwd.out)
            have HGw5 := hide (grown_trans HGwd.out hG9)
            have hRw5 : w.heap.size < w5.heap.size := Nat.lt_of_lt_of_le hRwd hG9.size
            have HSw5 := hide hG9
            have HLn9 := hide hl9
            clear hl9
            have HK3 := hide (HK3.out.grown (by omega) HSw5.out)
            have HTw5 := hide ((hG9.block T7 hT7d (fun e => by simp at e; omega)).trans HTwd.out)
            have hT75 : T7 < w5.heap.size := Nat.lt_of_lt_of_le hT7d hG9.size
            clear hK9 hC9 hG9 hKN9
            have kk0 : w5.cell? ⟨T7, 0, none⟩ = some (.int .i64 (3)) := (cell_of_blk HTw5.out 0).trans rfl
            have kk1 : w5.cell? ⟨T7, 1, none⟩ = some (.int .i64 (0)) := (cell_of_blk HTw5.out 1).trans rfl
            have kk2 : w5.cell? ⟨T7, 2, none⟩ = some (.slice (some ⟨w2.heap.size, 0, none⟩) 1 1) := (cell_of_blk HTw5.out 2).trans rfl
            (try go_wp2_with fail)
            refine hK.out _ _ ⟨kk0, kk1, kk2⟩ (fun hHeld => ?_)
            clear hK K
            try simp only [Act.put, List.getElem_toArray, List.getElem_cons_zero, List.getElem_cons_succ, List.setIfInBounds_toArray, List.set_cons_zero, List.set_cons_succ]
            obtain ⟨Wk, hWk⟩ : ∃ Wk, Wk = w5.alloc (.cells #[.int .i64 (3), .int .i64 (0), .slice (some ⟨w2.heap.size, 0, none⟩) 1 1, .int .i64 x9.k, .int .i64 x9.n, .slice sa9 KN9 sc9] 58) := ⟨_, rfl⟩
            have hbk : Below w5.heap.size w5 Wk := by rw [hWk]; exact (Below.refl _ _).alloc (Nat.le_refl _) _
            have HXWk := hide ((hbk.block w.heap.size hRw5).trans HXw5.out)
            have HCWk := hide (HCw5.out.below hbk)
            have HGWk := hide (grown_trans HGw5.out (grown_below (some c) hbk))
            have hBk : Wk.heap[w5.heap.size]? = some (.cells #[.int .i64 (3), .int .i64 (0), .slice (some ⟨w2.heap.size, 0, none⟩) 1 1, .int .i64 x9.k, .int .i64 x9.n, .slice sa9 KN9 sc9] 58 (0, 0)) := by rw [hWk]; exact heap_alloc_new _ _
            have HTWk := hide ((hbk.block T7 hT75).trans HTw5.out)
            have HKr : Hid (KidT Wk (fun g => w.heap.size + 1 ≤ g) (.cons ⟨3, 0⟩ k3 (.cons x9 k9 .nil)) (.slice (some ⟨w5.heap.size, 0, none⟩) 2 2)) := hide (kidT_of (cs := [.int .i64 (3), .int .i64 (0), .slice (some ⟨w2.heap.size, 0, none⟩) 1 1, .int .i64 x9.k, .int .i64 x9.n, .slice sa9 KN9 sc9]) ⟨_, _, rfl, HK3.out.below hbk, ⟨_, _, rfl, HK9.out.below hbk, rfl⟩⟩ rfl (by omega) hBk hRw5)
            have m0 : Wk.cell? ⟨T7, 0, none⟩ = some (.int .i64 (3)) := (cell_of_blk HTWk.out 0).trans rfl
            have m1 : Wk.cell? ⟨T7, 1, none⟩ = some (.int .i64 (0)) := (cell_of_blk HTWk.out 1).trans rfl
            have m2 : Wk.cell? ⟨T7, 2, none⟩ = some (.slice (some ⟨w2.heap.size, 0, none⟩) 1 1) := (cell_of_blk HTWk.out 2).trans rfl
            refine wpAnyH_ready (rs := [6]) (by kernel_rfl) (by simp) ?_
            refine AllReadyH.cons (o := _) rfl (fun K hK => ?_) AllReadyH.nil
            go_simp
            rw [← hWk]
            refine hK.out _ _ ⟨m0, m1, m2⟩ (fun hHeld => ?_)
            clear hK K hWk hBk hbk
            try simp only [Act.put, List.getElem_toArray, List.getElem_cons_zero, List.getElem_cons_succ, List.setIfInBounds_toArray, List.set_cons_zero, List.set_cons_succ]
            refine wpAnyH_take (i := 7) (oi := _) (v := ?_) rfl (by kernel_rfl) (by kernel_rfl) (by kernel_rfl) (fun _ _ _ h => h) (Or.inl ⟨by rfl, ?_⟩) (by assumption) ?_
            rotate_left 1
            · (intro w hSw; (try dsimp only at hSw); (first | (go_simp; done) | (go_simp; with_reducible rfl)))
            try simp only [Act.put, List.getElem_toArray, List.getElem_cons_zero, List.getElem_cons_succ, List.setIfInBounds_toArray, List.set_cons_zero, List.set_cons_succ]
            have fzk := unfrozen_of_blk HXWk.out
            have y0 : Wk.cell? ⟨w.heap.size, 0, none⟩ = some (.int .i64 0) := (cell_of_blk HXWk.out 0).trans rfl
            have y1 : Wk.cell? ⟨w.heap.size, 1, none⟩ = some (.int .i64 0) := (cell_of_blk HXWk.out 1).trans rfl
            have y2 : Wk.cell? ⟨w.heap.size, 2, none⟩ = some (.slice none 0 0) := (cell_of_blk HXWk.out 2).trans rfl
            refine wpAnyH_ready (rs := [8]) (by kernel_rfl) (by simp) ?_
            refine AllReadyH.cons (o := _) rfl (fun K hK => ?_) AllReadyH.nil
            go_simp
            obtain ⟨W9, hW9⟩ : ∃ W9, W9 = ((Wk.setCell ⟨w.heap.size, 0, none⟩ (.int .i64 (4))).setCell ⟨w.heap.size, 1, none⟩ (.int .i64 (0))).setCell ⟨w.heap.size, 2, none⟩ (.slice (some ⟨w5.heap.size, 0, none⟩) 2 2) := ⟨_, rfl⟩
            have hb9 : W9.heap[w.heap.size]? = some (.cells #[.int .i64 (4), .int .i64 (0), .slice (some ⟨w5.heap.size, 0, none⟩) 2 2] 58 (0, 0)) := by rw [hW9]; exact blk_set3 HXWk.out
            have HC9 : Hid (CU W9 c ad n cp (m + Bt (d + 1))) := hide (by rw [hW9]; exact (HCWk.out.more (by have := HBt.out; omega)).set3 hcl)
            have HG9 : Hid (w.grownBy W9 (some c)) := hide (by rw [hW9]; exact grown_set3 HGWk.out (Nat.le_refl _))
            have z0 : W9.cell? ⟨w.heap.size, 0, none⟩ = some (.int .i64 (4)) := (cell_of_blk hb9 0).trans rfl
            have z1 : W9.cell? ⟨w.heap.size, 1, none⟩ = some (.int .i64 (0)) := (cell_of_blk hb9 1).trans rfl
            have z2 : W9.cell? ⟨w.heap.size, 2, none⟩ = some (.slice (some ⟨w5.heap.size, 0, none⟩) 2 2) := (cell_of_blk hb9 2).trans rfl
            have HK9' : Hid (KidT W9 (fun g => w.heap.size ≤ g) (.cons ⟨3, 0⟩ k3 (.cons x9 k9 .nil)) (.slice (some ⟨w5.heap.size, 0, none⟩) 2 2)) := hide (by rw [hW9]; exact (kid_set3 HKr.out (fun g h _ => by omega)).weak (fun g h _ => by omega))
            have hl9' : (F.flat (.cons ⟨3, 0⟩ k3 (.cons x9 k9 .nil))).length + 1 ≤ 4 ^ (d + 1) := by have := HLn3.out; have := HLn9.out; have := Hp.out; have := Hp1.out; simp [F.flat]; omega
            have HT9 : Hid (W9.heap[T7]? = some (.cells #[.int .i64 (3), .int .i64 (0), .slice (some ⟨w2.heap.size, 0, none⟩) 1 1] 58 (0, 0))) := hide (by rw [hW9, Below.heap_setCell _ _ _ _ (by simp; omega), Below.heap_setCell _ _ _ _ (by simp; omega), Below.heap_setCell _ _ _ _ (by simp; omega)]; exact HTWk.out)
            have v0 : W9.cell? ⟨T7, 0, none⟩ = some (.int .i64 (3)) := (cell_of_blk HT9.out 0).trans rfl
            have v1 : W9.cell? ⟨T7, 1, none⟩ = some (.int .i64 (0)) := (cell_of_blk HT9.out 1).trans rfl
            have v2 : W9.cell? ⟨T7, 2, none⟩ = some (.slice (some ⟨w2.heap.size, 0, none⟩) 1 1) := (cell_of_blk HT9.out 2).trans rfl
            rw [← hW9]
            clear hW9 hb9
            refine hK.out _ _ ⟨v0, v1, v2⟩ (fun hHeld => ?_)
            clear hK K
            try simp only [Act.put, List.getElem_toArray, List.getElem_cons_zero, List.getElem_cons_succ, List.setIfInBounds_toArray, List.set_cons_zero, List.set_cons_succ]
            refine wpAnyH_done (by kernel_rfl) ?_ _
            refine NoPanic.normal ?_
            clear y0 y1 y2 kk0 kk1 kk2 m0 m1 m2 v0 v1 v2
            go_wp2_with fail
            exact bodyPost_ret (v := .agg #[.int .i64 (4), .int .i64 (0), .slice (some ⟨w5.heap.size, 0, none⟩) 2 2]) (by simp [results, Tryd.results45, go_sem, z0, z1, z2]) rfl ⟨⟨4, 0⟩, (.cons ⟨3, 0⟩ k3 (.cons x9 k9 .nil)), _, rfl, HK9'.out, hl9', HC9.out, HG9.out⟩
          )
      · go_wp2_with fail
        refine Calls.mono (IH.out (vars) (m + 4) (D - 1) (V) wq (by have := HD.out; omega) (by have := HV.out; omega) (by omega) (by omega) HCwq.out) ?_
        rintro e w1 ⟨x1, k1, s1, rfl, hK1, hl1, hC1, hG1⟩
        obtain ⟨sa1, sc1, hf1⟩ := hK1.form
        obtain ⟨KN1, hKN1⟩ : ∃ KN, KN = k1.len := ⟨_, rfl⟩
        rw [← hKN1] at hf1
        subst hf1
        have HK1 : Hid (KidT w1 (fun g => w.heap.size + 1 ≤ g) k1 (.slice sa1 KN1 sc1)) := hide (hK1.weak (fun g h _ => by have := hRwq; omega))
        have HCw1 := hide hC1
        have HXw1 := hide ((hG1.block w.heap.size hRwq (fun e => by simp at e; omega)).trans HXwq.out)
        have HGw1 := hide (grown_trans HGwq.out hG1)
        have hRw1 : w.heap.size < w1.heap.size := Nat.lt_of_lt_of_le hRwq hG1.size
        have HSw1 := hide hG1
        have HLn1 := hide hl1
        clear hl1
        clear hK1 hC1 hG1 hKN1
        go_wp2_with fail
        refine Calls.mono (IH.out (vars) (m + 4 + Bt d) (D - 1) (V) w1 (by have := HD.out; omega) (by have := HV.out; omega) (by omega) (by omega) HCw1.out) ?_
        rintro e w2 ⟨x2, k2, s2, rfl, hK2, hl2, hC2, hG2⟩
        obtain ⟨sa2, sc2, hf2⟩ := hK2.form
        obtain ⟨KN2, hKN2⟩ : ∃ KN, KN = k2.len := ⟨_, rfl⟩
        rw [← hKN2] at hf2
        subst hf2
        have HK2 : Hid (KidT w2 (fun g => w.heap.size + 1 ≤ g) k2 (.slice sa2 KN2 sc2)) := hide (hK2.weak (fun g h _ => by have := hRw1; omega))
        have HCw2 := hide hC2
        have HXw2 := hide ((hG2.block w.heap.size hRw1 (fun e => by simp at e; omega)).trans HXw1.out)
        have HGw2 := hide (grown_trans HGw1.out hG2)
        have hRw2 : w.heap.size < w2.heap.size := Nat.lt_of_lt_of_le hRw1 hG2.size
        have HSw2 := hide hG2
        have HLn2 := hide hl2
        clear hl2
        have HK1 := hide (HK1.out.grown (by omega) HSw2.out)
        clear hK2 hC2 hG2 hKN2
        have fzl : ∀ (i : Nat), w2.frozen? ⟨w.heap.size, i, none⟩ = false := fun i => unfrozen_of_blk HXw2.out i
        have y0 : w2.cell? ⟨w.heap.size, 0, none⟩ = some (.int .i64 0) := (cell_of_blk HXw2.out 0).trans rfl
        have y1 : w2.cell? ⟨w.heap.size, 1, none⟩ = some (.int .i64 0) := (cell_of_blk HXw2.out 1).trans rfl
        have y2 : w2.cell? ⟨w.heap.size, 2, none⟩ = some (.slice none 0 0) := (cell_of_blk HXw2.out 2).trans rfl
        go_wp2_with fail
        obtain ⟨ws, hws⟩ : ∃ ws, ws = ((w2.setCell ⟨w.heap.size, 0, none⟩ (.int .i64 5)).setCell ⟨w.heap.size, 1, none⟩ (.int .i64 0)).setCell ⟨w.heap.size, 2, none⟩ (.slice (some ⟨w2.heap.size, 0, none⟩) 2 2) := ⟨_, rfl⟩
        have hss : ws.heap.size = w2.heap.size := by rw [hws]; simp
        have hXs : ws.heap[w.heap.size]? = some (.cells #[.int .i64 5, .int .i64 0, .slice (some ⟨w2.heap.size, 0, none⟩) 2 2] 58 (0, 0)) := by rw [hws]; exact blk_set3 HXw2.out
        have hCs : CU ws c ad n cp (m + Bt (d + 1)) := by rw [hws]; exact (HCw2.out.more (by have := HBt.out; omega)).set3 hcl
        have hGs : w.grownBy ws (some c) := by rw [hws]; exact grown_set3 HGw2.out (Nat.le_refl _)
        have hks1 : KidT ws (fun g => w.heap.size + 1 ≤ g) k1 (.slice sa1 KN1 sc1) := by rw [hws]; exact kid_set3 HK1.out (fun g h _ => by omega)
        have hks2 : KidT ws (fun g => w.heap.size + 1 ≤ g) k2 (.slice sa2 KN2 sc2) := by rw [hws]; exact kid_set3 HK2.out (fun g h _ => by omega)
        obtain ⟨W9, hW9⟩ : ∃ W9, W9 = ws.alloc (.cells #[.int .i64 x1.k, .int .i64 x1.n, .slice sa1 KN1 sc1, .int .i64 x2.k, .int .i64 x2.n, .slice sa2 KN2 sc2] 58) := ⟨_, rfl⟩
        rw [← hws, ← hW9]
        have hb9 : Below ws.heap.size ws W9 := by rw [hW9]; exact (Below.refl _ _).alloc (Nat.le_refl _) _
        have hB9 : W9.heap[w2.heap.size]? = some (.cells #[.int .i64 x1.k, .int .i64 x1.n, .slice sa1 KN1 sc1, .int .i64 x2.k, .int .i64 x2.n, .slice sa2 KN2 sc2] 58 (0, 0)) := by rw [hW9, ← hss]; exact heap_alloc_new _ _
        have hX9 := (hb9.block w.heap.size (by have := hRw2; omega)).trans hXs
        have z0 : W9.cell? ⟨w.heap.size, 0, none⟩ = some (.int .i64 5) := (cell_of_blk hX9 0).trans rfl
        have z1 : W9.cell? ⟨w.heap.size, 1, none⟩ = some (.int .i64 0) := (cell_of_blk hX9 1).trans rfl
        have z2 : W9.cell? ⟨w.heap.size, 2, none⟩ = some (.slice (some ⟨w2.heap.size, 0, none⟩) 2 2) := (cell_of_blk hX9 2).trans rfl
        have hk1 := hks1.below hb9
        have hk2 := hks2.below hb9
        have hK9 : KidT W9 (fun g => w.heap.size + 1 ≤ g) (.cons x1 k1 (.cons x2 k2 .nil)) (.slice (some ⟨w2.heap.size, 0, none⟩) 2 2) := kidT_of (cs := [.int .i64 x1.k, .int .i64 x1.n, .slice sa1 KN1 sc1, .int .i64 x2.k, .int .i64 x2.n, .slice sa2 KN2 sc2]) ⟨_, _, rfl, hk1, ⟨_, _, rfl, hk2, rfl⟩⟩ rfl (by omega) hB9 hRw2
        have hl9 : (F.flat (.cons x1 k1 (.cons x2 k2 .nil))).length + 1 ≤ 4 ^ (d + 1) := by have := HLn1.out; have := HLn2.out; have := Hp.out; have := Hp1.out; simp [F.flat]; omega
        exact bodyPost_ret (v := .agg #[.int .i64 5, .int .i64 0, .slice (some ⟨w2.heap.size, 0, none⟩) 2 2]) (by simp [results, Tryd.results45, go_sem, z0, z1, z2]) rfl ⟨⟨5, 0⟩, (.cons x1 k1 (.cons x2 k2 .nil)), _, rfl, hK9.weak (fun g h _ => by omega), hl9, hCs.below hb9, grown_trans hGs (grown_below (some c) hb9)⟩
      · go_wp2_with fail
        refine Calls.mono (IH.out (vars) (m + 4) (D - 1) (V) wq (by have := HD.out; omega) (by have := HV.out; omega) (by omega) (by omega) HCwq.out) ?_
        rintro e w1 ⟨x1, k1, s1, rfl, hK1, hl1, hC1, hG1⟩
        obtain ⟨sa1, sc1, hf1⟩ := hK1.form
        obtain ⟨KN1, hKN1⟩ : ∃ KN, KN = k1.len := ⟨_, rfl⟩
        rw [← hKN1] at hf1
        subst hf1
        have HK1 : Hid (KidT w1 (fun g => w.heap.size + 1 ≤ g) k1 (.slice sa1 KN1 sc1)) := hide (hK1.weak (fun g h _ => by have := hRwq; omega))
        have HCw1 := hide hC1
        have HXw1 := hide ((hG1.block w.heap.size hRwq (fun e => by simp at e; omega)).trans HXwq.out)
        have HGw1 := hide (grown_trans HGwq.out hG1)
        have hRw1 : w.heap.size < w1.heap.size := Nat.lt_of_lt_of_le hRwq hG1.size
        have HSw1 := hide hG1
        have HLn1 := hide hl1
        clear hl1
        clear hK1 hC1 hG1 hKN1
        go_wp2_with fail
        refine Calls.mono (IH.out (vars) (m + 4 + Bt d) (D - 1) (V) w1 (by have := HD.out; omega) (by have := HV.out; omega) (by omega) (by omega) HCw1.out) ?_
        rintro e w2 ⟨x2, k2, s2, rfl, hK2, hl2, hC2, hG2⟩
        obtain ⟨sa2, sc2, hf2⟩ := hK2.form
        obtain ⟨KN2, hKN2⟩ : ∃ KN, KN = k2.len := ⟨_, rfl⟩
        rw [← hKN2] at hf2
        subst hf2
        have HK2 : Hid (KidT w2 (fun g => w.heap.size + 1 ≤ g) k2 (.slice sa2 KN2 sc2)) := hide (hK2.weak (fun g h _ => by have := hRw1; omega))
        have HCw2 := hide hC2
        have HXw2 := hide ((hG2.block w.heap.size hRw1 (fun e => by simp at e; omega)).trans HXw1.out)
        have HGw2 := hide (grown_trans HGw1.out hG2)
        have hRw2 : w.heap.size < w2.heap.size := Nat.lt_of_lt_of_le hRw1 hG2.size
        have HSw2 := hide hG2
        have HLn2 := hide hl2
        clear hl2
        have HK1 := hide (HK1.out.grown (by omega) HSw2.out)
        clear hK2 hC2 hG2 hKN2
        go_wp2_with fail
        refine Calls.mono (IH.out (vars) (m + 4 + Bt d + Bt d) (D - 1) (V) w2 (by have := HD.out; omega) (by have := HV.out; omega) (by omega) (by omega) HCw2.out) ?_
        rintro e w3 ⟨x3, k3, s3, rfl, hK3, hl3, hC3, hG3⟩
        obtain ⟨sa3, sc3, hf3⟩ := hK3.form
        obtain ⟨KN3, hKN3⟩ : ∃ KN, KN = k3.len := ⟨_, rfl⟩
        rw [← hKN3] at hf3
        subst hf3
        have HK3 : Hid (KidT w3 (fun g => w.heap.size + 1 ≤ g) k3 (.slice sa3 KN3 sc3)) := hide (hK3.weak (fun g h _ => by have := hRw2; omega))
        have HCw3 := hide hC3
        have HXw3 := hide ((hG3.block w.heap.size hRw2 (fun e => by simp at e; omega)).trans HXw2.out)
        have HGw3 := hide (grown_trans HGw2.out hG3)
        have hRw3 : w.heap.size < w3.heap.size := Nat.lt_of_lt_of_le hRw2 hG3.size
        have HSw3 := hide hG3
        have HLn3 := hide hl3
        clear hl3
        have HK1 := hide (HK1.out.grown (by omega) HSw3.out)
        have HK2 := hide (HK2.out.grown (by omega) HSw3.out)
        clear hK3 hC3 hG3 hKN3
        have fzl : ∀ (i : Nat), w3.frozen? ⟨w.heap.size, i, none⟩ = false := fun i => unfrozen_of_blk HXw3.out i
        have y0 : w3.cell? ⟨w.heap.size, 0, none⟩ = some (.int .i64 0) := (cell_of_blk HXw3.out 0).trans rfl
        have y1 : w3.cell? ⟨w.heap.size, 1, none⟩ = some (.int .i64 0) := (cell_of_blk HXw3.out 1).trans rfl
        have y2 : w3.cell? ⟨w.heap.size, 2, none⟩ = some (.slice none 0 0) := (cell_of_blk HXw3.out 2).trans rfl
        go_wp2_with fail
        obtain ⟨ws, hws⟩ : ∃ ws, ws = ((w3.setCell ⟨w.heap.size, 0, none⟩ (.int .i64 6)).setCell ⟨w.heap.size, 1, none⟩ (.int .i64 0)).setCell ⟨w.heap.size, 2, none⟩ (.slice (some ⟨w3.heap.size, 0, none⟩) 3 3) := ⟨_, rfl⟩
        have hss : ws.heap.size = w3.heap.size := by rw [hws]; simp
        have hXs : ws.heap[w.heap.size]? = some (.cells #[.int .i64 6, .int .i64 0, .slice (some ⟨w3.heap.size, 0, none⟩) 3 3] 58 (0, 0)) := by rw [hws]; exact blk_set3 HXw3.out
        have hCs : CU ws c ad n cp (m + Bt (d + 1)) := by rw [hws]; exact (HCw3.out.more (by have := HBt.out; omega)).set3 hcl
        have hGs : w.grownBy ws (some c) := by rw [hws]; exact grown_set3 HGw3.out (Nat.le_refl _)
        have hks1 : KidT ws (fun g => w.heap.size + 1 ≤ g) k1 (.slice sa1 KN1 sc1) := by rw [hws]; exact kid_set3 HK1.out (fun g h _ => by omega)
        have hks2 : KidT ws (fun g => w.heap.size + 1 ≤ g) k2 (.slice sa2 KN2 sc2) := by rw [hws]; exact kid_set3 HK2.out (fun g h _ => by omega)
        have hks3 : KidT ws (fun g => w.heap.size + 1 ≤ g) k3 (.slice sa3 KN3 sc3) := by rw [hws]; exact kid_set3 HK3.out (fun g h _ => by omega)
        obtain ⟨W9, hW9⟩ : ∃ W9, W9 = ws.alloc (.cells #[.int .i64 x1.k, .int .i64 x1.n, .slice sa1 KN1 sc1, .int .i64 x2.k, .int .i64 x2.n, .slice sa2 KN2 sc2, .int .i64 x3.k, .int .i64 x3.n, .slice sa3 KN3 sc3] 58) := ⟨_, rfl⟩
        rw [← hws, ← hW9]
        have hb9 : Below ws.heap.size ws W9 := by rw [hW9]; exact (Below.refl _ _).alloc (Nat.le_refl _) _
        have hB9 : W9.heap[w3.heap.size]? = some (.cells #[.int .i64 x1.k, .int .i64 x1.n, .slice sa1 KN1 sc1, .int .i64 x2.k, .int .i64 x2.n, .slice sa2 KN2 sc2, .int .i64 x3.k, .int .i64 x3.n, .slice sa3 KN3 sc3] 58 (0, 0)) := by rw [hW9, ← hss]; exact heap_alloc_new _ _
        have hX9 := (hb9.block w.heap.size (by have := hRw3; omega)).trans hXs
        have z0 : W9.cell? ⟨w.heap.size, 0, none⟩ = some (.int .i64 6) := (cell_of_blk hX9 0).trans rfl
        have z1 : W9.cell? ⟨w.heap.size, 1, none⟩ = some (.int .i64 0) := (cell_of_blk hX9 1).trans rfl
        have z2 : W9.cell? ⟨w.heap.size, 2, none⟩ = some (.slice (some ⟨w3.heap.size, 0, none⟩) 3 3) := (cell_of_blk hX9 2).trans rfl
        have hk1 := hks1.below hb9
        have hk2 := hks2.below hb9
        have hk3 := hks3.below hb9
        have hK9 : KidT W9 (fun g => w.heap.size + 1 ≤ g) (.cons x1 k1 (.cons x2 k2 (.cons x3 k3 .nil))) (.slice (some ⟨w3.heap.size, 0, none⟩) 3 3) := kidT_of (cs := [.int .i64 x1.k, .int .i64 x1.n, .slice sa1 KN1 sc1, .int .i64 x2.k, .int .i64 x2.n, .slice sa2 KN2 sc2, .int .i64 x3.k, .int .i64 x3.n, .slice sa3 KN3 sc3]) ⟨_, _, rfl, hk1, ⟨_, _, rfl, hk2, ⟨_, _, rfl, hk3, rfl⟩⟩⟩ rfl (by omega) hB9 hRw3
        have hl9 : (F.flat (.cons x1 k1 (.cons x2 k2 (.cons x3 k3 .nil)))).length + 1 ≤ 4 ^ (d + 1) := by have := HLn1.out; have := HLn2.out; have := HLn3.out; have := Hp.out; have := Hp1.out; simp [F.flat]; omega
        exact bodyPost_ret (v := .agg #[.int .i64 6, .int .i64 0, .slice (some ⟨w3.heap.size, 0, none⟩) 3 3]) (by simp [results, Tryd.results45, go_sem, z0, z1, z2]) rfl ⟨⟨6, 0⟩, (.cons x1 k1 (.cons x2 k2 (.cons x3 k3 .nil))), _, rfl, hK9.weak (fun g h _ => by omega), hl9, hCs.below hb9, grown_trans hGs (grown_below (some c) hb9)⟩
      · go_wp2_with fail
        refine Calls.mono (IH.out (vars) (m + 4) (D - 1) (V) wq (by have := HD.out; omega) (by have := HV.out; omega) (by omega) (by omega) HCwq.out) ?_
        rintro e w1 ⟨x1, k1, s1, rfl, hK1, hl1, hC1, hG1⟩
        obtain ⟨sa1, sc1, hf1⟩ := hK1.form
        obtain ⟨KN1, hKN1⟩ : ∃ KN, KN = k1.len := ⟨_, rfl⟩
        rw [← hKN1] at hf1
        subst hf1
        have HK1 : Hid (KidT w1 (fun g => w.heap.size + 1 ≤ g) k1 (.slice sa1 KN1 sc1)) := hide (hK1.weak (fun g h _ => by have := hRwq; omega))
        have HCw1 := hide hC1
        have HXw1 := hide ((hG1.block w.heap.size hRwq (fun e => by simp at e; omega)).trans HXwq.out)
        have HGw1 := hide (grown_trans HGwq.out hG1)
        have hRw1 : w.heap.size < w1.heap.size := Nat.lt_of_lt_of_le hRwq hG1.size
        have HSw1 := hide hG1
        have HLn1 := hide hl1
        clear hl1
        clear hK1 hC1 hG1 hKN1
        go_wp2_with fail
        refine Calls.mono (IH.out (vars + 1) (m + 4 + Bt d) (D - 1) (V + 1) w1 (by have := HD.out; omega) (by have := HV.out; omega) (by omega) (by omega) HCw1.out) ?_
        rintro e w2 ⟨x2, k2, s2, rfl, hK2, hl2, hC2, hG2⟩
        obtain ⟨sa2, sc2, hf2⟩ := hK2.form
        obtain ⟨KN2, hKN2⟩ : ∃ KN, KN = k2.len := ⟨_, rfl⟩
        rw [← hKN2] at hf2
        subst hf2
        have HK2 : Hid (KidT w2 (fun g => w.heap.size + 1 ≤ g) k2 (.slice sa2 KN2 sc2)) := hide (hK2.weak (fun g h _ => by have := hRw1; omega))
        have HCw2 := hide hC2
        have HXw2 := hide ((hG2.block w.heap.size hRw1 (fun e => by simp at e; omega)).trans HXw1.out)
        have HGw2 := hide (grown_trans HGw1.out hG2)
        have hRw2 : w.heap.size < w2.heap.size := Nat.lt_of_lt_of_le hRw1 hG2.size
        have HSw2 := hide hG2
        have HLn2 := hide hl2
        clear hl2
        have HK1 := hide (HK1.out.grown (by omega) HSw2.out)
        clear hK2 hC2 hG2 hKN2
        have fzl : ∀ (i : Nat), w2.frozen? ⟨w.heap.size, i, none⟩ = false := fun i => unfrozen_of_blk HXw2.out i
        have y0 : w2.cell? ⟨w.heap.size, 0, none⟩ = some (.int .i64 0) := (cell_of_blk HXw2.out 0).trans rfl
        have y1 : w2.cell? ⟨w.heap.size, 1, none⟩ = some (.int .i64 0) := (cell_of_blk HXw2.out 1).trans rfl
        have y2 : w2.cell? ⟨w.heap.size, 2, none⟩ = some (.slice none 0 0) := (cell_of_blk HXw2.out 2).trans rfl
        go_wp2_with fail
        obtain ⟨ws, hws⟩ : ∃ ws, ws = ((w2.setCell ⟨w.heap.size, 0, none⟩ (.int .i64 7)).setCell ⟨w.heap.size, 1, none⟩ (.int .i64 0)).setCell ⟨w.heap.size, 2, none⟩ (.slice (some ⟨w2.heap.size, 0, none⟩) 2 2) := ⟨_, rfl⟩
        have hss : ws.heap.size = w2.heap.size := by rw [hws]; simp
        have hXs : ws.heap[w.heap.size]? = some (.cells #[.int .i64 7, .int .i64 0, .slice (some ⟨w2.heap.size, 0, none⟩) 2 2] 58 (0, 0)) := by rw [hws]; exact blk_set3 HXw2.out
        have hCs : CU ws c ad n cp (m + Bt (d + 1)) := by rw [hws]; exact (HCw2.out.more (by have := HBt.out; omega)).set3 hcl
        have hGs : w.grownBy ws (some c) := by rw [hws]; exact grown_set3 HGw2.out (Nat.le_refl _)
        have hks1 : KidT ws (fun g => w.heap.size + 1 ≤ g) k1 (.slice sa1 KN1 sc1) := by rw [hws]; exact kid_set3 HK1.out (fun g h _ => by omega)
        have hks2 : KidT ws (fun g => w.heap.size + 1 ≤ g) k2 (.slice sa2 KN2 sc2) := by rw [hws]; exact kid_set3 HK2.out (fun g h _ => by omega)
        obtain ⟨W9, hW9⟩ : ∃ W9, W9 = ws.alloc (.cells #[.int .i64 x1.k, .int .i64 x1.n, .slice sa1 KN1 sc1, .int .i64 x2.k, .int .i64 x2.n, .slice sa2 KN2 sc2] 58) := ⟨_, rfl⟩
        rw [← hws, ← hW9]
        have hb9 : Below ws.heap.size ws W9 := by rw [hW9]; exact (Below.refl _ _).alloc (Nat.le_refl _) _
        have hB9 : W9.heap[w2.heap.size]? = some (.cells #[.int .i64 x1.k, .int .i64 x1.n, .slice sa1 KN1 sc1, .int .i64 x2.k, .int .i64 x2.n, .slice sa2 KN2 sc2] 58 (0, 0)) := by rw [hW9, ← hss]; exact heap_alloc_new _ _
        have hX9 := (hb9.block w.heap.size (by have := hRw2; omega)).trans hXs
        have z0 : W9.cell? ⟨w.heap.size, 0, none⟩ = some (.int .i64 7) := (cell_of_blk hX9 0).trans rfl
        have z1 : W9.cell? ⟨w.heap.size, 1, none⟩ = some (.int .i64 0) := (cell_of_blk hX9 1).trans rfl
        have z2 : W9.cell? ⟨w.heap.size, 2, none⟩ = some (.slice (some ⟨w2.heap.size, 0, none⟩) 2 2) := (cell_of_blk hX9 2).trans rfl
        have hk1 := hks1.below hb9
        have hk2 := hks2.below hb9
        have hK9 : KidT W9 (fun g => w.heap.size + 1 ≤ g) (.cons x1 k1 (.cons x2 k2 .nil)) (.slice (some ⟨w2.heap.size, 0, none⟩) 2 2) := kidT_of (cs := [.int .i64 x1.k, .int .i64 x1.n, .slice sa1 KN1 sc1, .int .i64 x2.k, .int .i64 x2.n, .slice sa2 KN2 sc2]) ⟨_, _, rfl, hk1, ⟨_, _, rfl, hk2, rfl⟩⟩ rfl (by omega) hB9 hRw2
        have hl9 : (F.flat (.cons x1 k1 (.cons x2 k2 .nil))).length + 1 ≤ 4 ^ (d + 1) := by have := HLn1.out; have := HLn2.out; have := Hp.out; have := Hp1.out; simp [F.flat]; omega
        exact bodyPost_ret (v := .agg #[.int .i64 7, .int .i64 0, .slice (some ⟨w2.heap.size, 0, none⟩) 2 2]) (by simp [results, Tryd.results45, go_sem, z0, z1, z2]) rfl ⟨⟨7, 0⟩, (.cons x1 k1 (.cons x2 k2 .nil)), _, rfl, hK9.weak (fun g h _ => by omega), hl9, hCs.below hb9, grown_trans hGs (grown_below (some c) hb9)⟩
end Go.Proofs.YthnkdlhkldcaoaaDoor.W

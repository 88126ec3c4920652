/-
  Drawn rows of cells: contracts of term, DrawGoodTerm, DrawTermText; and of same; bytes that came in. Conditions: at most 9223372036854775807 bytes, 1048576 cells. Written by wip/build/mk_rdd.py.
-/
import Derived.Test.YthnkdlhkldcaoaaDoorDrB
import Derived.Test.YthnkdlhkldcaoaaDoorRdT
import Derived.Deep.RegionHeld3
import Derived.BigQuiet
import Derived.OpenShut
import Derived.ChangeSlices
namespace Go.Proofs.YthnkdlhkldcaoaaDoor.W
open Go.ChangeShapes Go.WideShapes Go.ChangeAt Go.RowKit
set_option linter.unusedVariables false
set_option linter.unusedSimpArgs false

theorem iOwn_lower {w : World} {base base' n size : Nat} {e : TypeId} {v : Value} {xs : List Value} (h : w.ownsRow base e size v n xs) (hb : base' ≤ base) : w.ownsRow base' e size v n xs := by
  refine ⟨h.1, ?_⟩
  rcases h.2 with h1 | ⟨g, cap, cur, hv, hg, rest⟩
  · exact .inl h1
  · exact .inr ⟨g, cap, cur, hv, by omega, rest⟩

theorem cv_set : ∀ (l : List Cc) (j : Nat) (z : Int), j < l.length * 2 → ∃ l' : List Cc, l'.length = l.length ∧ cv l' = (cv l).set j (.int .i64 z)
  | [], j, z, h => by simp at h
  | x :: l, 0, z, _ => ⟨⟨z, x.n⟩ :: l, rfl, rfl⟩
  | x :: l, 1, z, _ => ⟨⟨x.k, z⟩ :: l, rfl, rfl⟩
  | x :: l, j + 2, z, h => by
    obtain ⟨l', h1, h2⟩ := cv_set l j z (by simp at h; omega)
    exact ⟨x :: l', by simp [h1], by
      show _ :: _ :: cv l' = _
      rw [h2]; rfl⟩

theorem own_set {w : World} {base n size g cap j : Nat} {e : TypeId} {xs : List Value} {v : Value} (h : w.ownsRow base e size (.slice (some ⟨g, 0, none⟩) n cap) n xs) (hj : j < xs.length) : (w.setCell ⟨g, j, none⟩ v).ownsRow base e size (.slice (some ⟨g, 0, none⟩) n cap) n (xs.set j v) := by
  refine ⟨by rw [List.length_set]; exact h.1, ?_⟩
  rcases h.2 with ⟨h0, -⟩ | ⟨g', cap', cur, hv, hb, hh, h1, h2, h3, h4⟩
  · cases h0
  · have hv' := hv
    simp only [Value.slice.injEq, Option.some.injEq, Addr.mk.injEq] at hv'
    obtain ⟨⟨rfl, -, -⟩, -, rfl⟩ := hv'
    refine .inr ⟨g, cap, cur.setIfInBounds j v, rfl, hb, blk_setCell hh _, h1, h2, by simpa using h3, ?_⟩
    rw [← h4]
    have hl : j < n * size := by rw [← h.1]; exact hj
    simp [List.take_set]

/-- A row of cells of its own, drawn. -/
def TP (c n cp m : Nat) (ad : Option Addr) (w : World) (e : Ending) (w' : World) : Prop :=
  ∃ (v : Value) (l : List Cc), e = .returned v ∧ l.length ≤ 300 ∧ w'.ownsRow w.heap.size 37 2 v l.length (cv l) ∧ CU w' c ad n cp (m + 2000) ∧ w.grownBy w' (some c)

set_option maxRecDepth 20000 in
set_option maxHeartbeats 4000000 in
theorem term_any (c n cp m vars : Nat) (ad : Option Addr) (w : World) (hm : m + 2000 ≤ 1000000) (hv : vars ≤ 100) (hn : (n : Int) ≤ 9223372036854775807) (h : CU w c ad n cp m) :
    Calls Tryd.prog 26 #[.pointer (some ⟨c, 0, none⟩), .int .i64 (vars : Int)] w fun e w' => TP c n cp m ad w e w' := by
  have hcl := h.lt
  have HC0 := hide h
  have HP := hide (pick_any c n cp m 5 ad w (by omega) (by omega) hn h)
  clear h
  go_enter Tryd.func26, Tryd.ntmps26
  go_wp2_with fail
  refine Calls.mono HP.out ?_
  rintro e w1 ⟨r, rfl, hr, hc1, hg1⟩
  have hr4 : r ≤ 4 := by omega
  have hB4 : Bt r ≤ 1210 := by
    rcases (show r = 0 ∨ r = 1 ∨ r = 2 ∨ r = 3 ∨ r = 4 by omega) with rfl | rfl | rfl | rfl | rfl <;> decide
  have h4 : 4 ^ r ≤ 256 := by
    rcases (show r = 0 ∨ r = 1 ∨ r = 2 ∨ r = 3 ∨ r = 4 by omega) with rfl | rfl | rfl | rfl | rfl <;> decide
  have HT3 := hide (tree3_any c n cp ad hn r vars (m + 2) (r : Int) (vars : Int) w1 rfl rfl (by omega) (by omega) hc1)
  have HG1 := hide hg1
  have HB4 := hide hB4
  have H4 := hide h4
  have hs1 := hg1.size
  clear HP hc1 hg1 hr hB4 h4
  go_wp2_with fail
  refine Calls.mono HT3.out ?_
  rintro e w2 ⟨x, k, s, rfl, hK, hl, hc2, hg2⟩
  obtain ⟨sa, sc, hf⟩ := hK.form
  obtain ⟨KN, hKN⟩ : ∃ KN, KN = k.len := ⟨_, rfl⟩
  have hs2 := hg2.size
  have hlk : k.flat.length + 1 ≤ 256 := by have := H4.out; omega
  have HFl := hide (l3Flat_any k x s (.slice none 0 0) w2.heap.size 0 [] _ w2 (fun g _ _ => by simp [Value.ownBlock]) (by omega) (Nat.le_refl _) hK (World.ownsRow_nil _ _ _ _))
  rw [← hKN] at hf
  subst hf
  have HC2 := hide (hc2.more (m' := m + 1212) (by have := HB4.out; omega))
  have HG2 := hide (grown_trans HG1.out hg2)
  clear HT3 hK hl hc2 hg2 hKN
  go_wp2_with fail
  refine Calls.mono HFl.out ?_
  rintro e w3 ⟨v3, rfl, ho3, hg3, -⟩
  have hb3 : Below w2.heap.size w2 w3 := ⟨hg3.os, hg3.tape, hg3.output, hg3.size, fun q hq => hg3.block q hq (by simp [Value.ownBlock])⟩
  obtain ⟨l, hl⟩ : ∃ l, l = x :: k.flat := ⟨_, rfl⟩
  have ho3' : w3.ownsRow w2.heap.size 37 2 v3 l.length (cv l) := by rw [hl]; simpa using ho3
  have hll : l.length ≤ 256 := by rw [hl]; simpa using hlk
  have hl0 : 0 < l.length := by rw [hl]; simp
  obtain ⟨g, cap, rfl, hgb, hgl⟩ := tOwn_some ho3' hl0
  have HO3 := hide ho3'
  have HC3 := hide (HC2.out.below hb3)
  have HG3 := hide (grown_trans HG2.out (grown_below (some c) hb3))
  have hs3 := hb3.size
  obtain ⟨LN, hLN⟩ : ∃ LN, LN = l.length := ⟨_, rfl⟩
  rw [← hLN] at HO3 hll hl0 ⊢
  have HLN := hide hLN
  clear HFl ho3 ho3' hg3 hb3 hl HC2 HG2 HG1 hlk hLN
  go_wp2_with fail
  refine Calls.mono (one_any c n cp (m + 1212) 20 ad w3 (by omega) (by omega) hn HC3.out) ?_
  rintro e w4 ⟨b1, rfl, hc4, hg4⟩
  have HC4 := hide hc4
  have HG4 := hide (grown_trans HG3.out hg4)
  have HO4 := hide (tOwn_keep (base := w2.heap.size) HO3.out (fun q hq hq2 => hg4.block q hq2 (fun e => by simp at e; omega)))
  have hs4 := hg4.size
  clear hc4 hg4 HC3 HG3 HO3
  cases b1 with
  | false =>
    go_wp2_with fail
    go_ret
    exact ⟨_, l, rfl, by have := HLN.out; omega, by rw [← HLN.out]; exact iOwn_lower HO4.out (by omega), HC4.out.more (by omega), HG4.out⟩
  | true =>
    go_wp2_with fail
    refine Calls.mono (pick_any c n cp (m + 1214) LN ad w4 (by omega) (by omega) hn HC4.out) ?_
    rintro e w5 ⟨j, rfl, hj, hc5, hg5⟩
    have hj' : j < LN := by omega
    have HC5 := hide hc5
    have HG5 := hide (grown_trans HG4.out hg5)
    have HO5 := hide (tOwn_keep (base := w2.heap.size) HO4.out (fun q hq hq2 => hg5.block q hq2 (fun e => by simp at e; omega)))
    have hs5 := hg5.size
    clear hc5 hg5 HC4 HG4 HO4 hj
    go_wp2_with fail
    refine Calls.mono (one_any c n cp (m + 1216) 2 ad w5 (by omega) (by omega) hn HC5.out) ?_
    rintro e w6 ⟨b2, rfl, hc6, hg6⟩
    have HC6 := hide hc6
    have HG6 := hide (grown_trans HG5.out hg6)
    have HO6 := hide (tOwn_keep (base := w2.heap.size) HO5.out (fun q hq hq2 => hg6.block q hq2 (fun e => by simp at e; omega)))
    have hs6 := hg6.size
    clear hc6 hg6 HC5 HG5 HO5
    have hjl : (j : Int) < (LN : Int) := by omega
    have hj0 : (0 : Int) ≤ (j : Int) := by omega
    cases b2 with
    | true =>
      go_wp2_with fail
      refine Calls.mono (pick_any c n cp (m + 1218) 9 ad w6 (by omega) (by omega) hn HC6.out) ?_
      rintro e w7 ⟨z, rfl, hz, hc7, hg7⟩
      have HC7 := hide hc7
      have HG7 := hide (grown_trans HG6.out hg7)
      have HO7 := hide (tOwn_keep (base := w2.heap.size) HO6.out (fun q hq hq2 => hg7.block q hq2 (fun e => by simp at e; omega)))
      have hs7 := hg7.size
      obtain ⟨cur, hcur, hcs⟩ : ∃ cur : Array Value, w7.heap[g]? = some (.cells cur 37 (0, 0)) ∧ LN * 2 ≤ cur.size := by
        rcases HO7.out.2 with ⟨h, -⟩ | ⟨g', cap', cur, hv, -, hh, h1, -, h3, h4⟩
        · cases h
        · simp only [Value.slice.injEq, Option.some.injEq, Addr.mk.injEq] at hv
          obtain ⟨⟨rfl, -, -⟩, -, rfl⟩ := hv
          exact ⟨cur, hh, by rw [h3]; exact Nat.mul_le_mul_right _ h1⟩
      have fz : ∀ i, w7.frozen? ⟨g, i, none⟩ = false := fun i => unfrozen_of_blk hcur i
      obtain ⟨y, hy⟩ : ∃ y, w7.cell? ⟨g, j * 2, none⟩ = some y := by rw [cell_of_blk hcur, Array.getElem?_eq_getElem (by omega)]; exact ⟨_, rfl⟩
      clear hc7 hg7 HC6 HG6 HO6 hcur hcs hz
      go_wp2_with fail
      go_ret
      obtain ⟨l', hl1, hl2⟩ := cv_set l (j * 2) (z : Int) (by rw [← HLN.out]; omega)
      have ho8 := own_set (v := .int .i64 (z : Int)) (j := j * 2) HO7.out (by rw [cv_len, ← HLN.out]; omega)
      refine ⟨_, l', rfl, by rw [hl1, ← HLN.out]; omega, ?_, ?_, ?_⟩
      · rw [hl1, ← HLN.out, hl2]; exact iOwn_lower ho8 (by omega)
      · obtain ⟨a, sd, q1, q2, q3, q4⟩ := HC7.out
        refine ⟨a, sd, q1, by omega, by rw [Below.heap_setCell _ _ _ _ (by simp; omega)]; exact q3, ?_⟩
        rcases q4 with q4 | ⟨b, o, u1, u2, u3, u4⟩
        · exact .inl q4
        · exact .inr ⟨b, o, u1, u2, by simpa using u3, fun i hi => by
            obtain ⟨v, t1, t2, t3⟩ := u4 i hi
            exact ⟨v, t1, t2, (World.cell?_of_block (a := ⟨b, o + i, none⟩) (Below.heap_setCell _ _ _ _ (by simp; omega))).trans t3⟩⟩
      · exact ⟨HG7.out.os, HG7.out.tape, HG7.out.output, by simpa using HG7.out.size, fun q hq hne => by
          rw [Below.heap_setCell _ _ _ _ (by simp; omega)]; exact HG7.out.block q hq hne⟩
    | false =>
      have hb7 : Below w6.heap.size w6 (w6.alloc (.cells #[.int .i64 (-1), .int .i64 0, .int .i64 1, .int .i64 99, .int .i64 100, .int .i64 1000001] 3)) := (Below.refl _ _).alloc (Nat.le_refl _) _
      obtain ⟨wa, hwa⟩ : ∃ wa, wa = w6.alloc (.cells #[.int .i64 (-1), .int .i64 0, .int .i64 1, .int .i64 99, .int .i64 100, .int .i64 1000001] 3) := ⟨_, rfl⟩
      rw [← hwa] at hb7
      have hbl : wa.heap[w6.heap.size]? = some (.cells #[.int .i64 (-1), .int .i64 0, .int .i64 1, .int .i64 99, .int .i64 100, .int .i64 1000001] 3 (0, 0)) := by rw [hwa]; exact heap_alloc_new _ _
      have hla : w6.heap.size < wa.heap.size := by rw [hwa]; simp
      have HAm := hide (among_any c n cp (m + 1218) 6 w6.heap.size 6 ad wa (by omega) (by omega) (by omega) hn (HC6.out.below hb7) (by omega) hla (fun i hi => by
        rw [cell_of_blk hbl]
        rcases (show i = 0 ∨ i = 1 ∨ i = 2 ∨ i = 3 ∨ i = 4 ∨ i = 5 by omega) with rfl | rfl | rfl | rfl | rfl | rfl <;> exact ⟨_, rfl⟩))
      have HG6a := hide (grown_trans HG6.out (grown_below (some c) hb7))
      have HO6a := hide (tOwn_keep (base := w2.heap.size) HO6.out (fun q hq hq2 => hb7.block q hq2))
      have hsa := hb7.size
      have Hwa := hide hwa
      clear hwa hbl hb7 HC6 HG6 HO6
      go_wp2_with fail
      rw [← Hwa.out]
      refine Calls.mono HAm.out ?_
      rintro e w7 ⟨z, rfl, hc7, hg7⟩
      have HC7 := hide hc7
      have HG7 := hide (grown_trans HG6a.out hg7)
      have HO7 := hide (tOwn_keep (base := w2.heap.size) HO6a.out (fun q hq hq2 => hg7.block q hq2 (fun e => by simp at e; omega)))
      have hs7 := hg7.size
      obtain ⟨cur, hcur, hcs⟩ : ∃ cur : Array Value, w7.heap[g]? = some (.cells cur 37 (0, 0)) ∧ LN * 2 ≤ cur.size := by
        rcases HO7.out.2 with ⟨h, -⟩ | ⟨g', cap', cur, hv, -, hh, h1, -, h3, h4⟩
        · cases h
        · simp only [Value.slice.injEq, Option.some.injEq, Addr.mk.injEq] at hv
          obtain ⟨⟨rfl, -, -⟩, -, rfl⟩ := hv
          exact ⟨cur, hh, by rw [h3]; exact Nat.mul_le_mul_right _ h1⟩
      have fz : ∀ i, w7.frozen? ⟨g, i, none⟩ = false := fun i => unfrozen_of_blk hcur i
      obtain ⟨y, hy⟩ : ∃ y, w7.cell? ⟨g, j * 2 + 1, none⟩ = some y := by rw [cell_of_blk hcur, Array.getElem?_eq_getElem (by omega)]; exact ⟨_, rfl⟩
      clear hc7 hg7 hcur hcs HAm HO6a HG6a
      go_wp2_with fail
      go_ret
      obtain ⟨l', hl1, hl2⟩ := cv_set l (j * 2 + 1) z (by rw [← HLN.out]; omega)
      have ho8 := own_set (v := .int .i64 z) (j := j * 2 + 1) HO7.out (by rw [cv_len, ← HLN.out]; omega)
      refine ⟨_, l', rfl, by rw [hl1, ← HLN.out]; omega, ?_, ?_, ?_⟩
      · rw [hl1, ← HLN.out, hl2]; exact iOwn_lower ho8 (by omega)
      · obtain ⟨a, sd, q1, q2, q3, q4⟩ := HC7.out
        refine ⟨a, sd, q1, by omega, by rw [Below.heap_setCell _ _ _ _ (by simp; omega)]; exact q3, ?_⟩
        rcases q4 with q4 | ⟨b, o, u1, u2, u3, u4⟩
        · exact .inl q4
        · exact .inr ⟨b, o, u1, u2, by simpa using u3, fun i hi => by
            obtain ⟨v, t1, t2, t3⟩ := u4 i hi
            exact ⟨v, t1, t2, (World.cell?_of_block (a := ⟨b, o + i, none⟩) (Below.heap_setCell _ _ _ _ (by simp; omega))).trans t3⟩⟩
      · exact ⟨HG7.out.os, HG7.out.tape, HG7.out.output, by simpa using HG7.out.size, fun q hq hne => by
          rw [Below.heap_setCell _ _ _ _ (by simp; omega)]; exact HG7.out.block q hq hne⟩

/-- A row of bytes as an argument. -/
def BRow (w : World) (ad : Option Addr) (n : Nat) : Prop := BR w w.heap.size ad n

theorem BRow.below {w w' : World} {ad : Option Addr} {n : Nat} (h : BRow w ad n) (hb : Below w.heap.size w w') : BRow w' ad n := by
  rcases h with h | ⟨b, o, h1, h2, h3, h4⟩
  · exact .inl h
  · refine .inr ⟨b, o, h1, Nat.lt_of_lt_of_le h2 hb.size, Nat.lt_of_lt_of_le h3 hb.size, fun i hi => ?_⟩
    obtain ⟨v, h5, h6, h7⟩ := h4 i hi
    exact ⟨v, h5, h6, (hb.cell (p := ⟨b, o + i, none⟩) h3).trans h7⟩

theorem cu_new (w : World) (ad : Option Addr) (n cp : Nat) (h : BRow w ad n) : CU (w.alloc (.cells #[.slice ad n cp, .int .i64 0, .int .u64 0] 50)) w.heap.size ad n cp 0 := by
  refine ⟨0, 0, by omega, by omega, heap_alloc_new _ _, ?_⟩
  rcases h with h | ⟨b, o, h1, h2, h3, h4⟩
  · exact .inl h
  · refine .inr ⟨b, o, h1, h2, by simp; omega, fun i hi => ?_⟩
    obtain ⟨v, h5, h6, h7⟩ := h4 i hi
    exact ⟨v, h5, h6, (((Below.refl w.heap.size w).alloc (Nat.le_refl _) _).cell (p := ⟨b, o + i, none⟩) h3).trans h7⟩

/-- Whether two rows are the same. -/
def sameR : List Cc → List Cc → Bool
  | [], [] => true
  | x :: l, y :: r => decide (x.k = y.k) && (decide (x.n = y.n) && sameR l r)
  | _, _ => false

theorem sameR_iff : ∀ (l r : List Cc), sameR l r = true ↔ l = r
  | [], [] => by simp [sameR]
  | [], _ :: _ => by simp [sameR]
  | _ :: _, [] => by simp [sameR]
  | x :: l, y :: r => by
    obtain ⟨a, b⟩ := x
    obtain ⟨c, d⟩ := y
    simp only [sameR, Bool.and_eq_true, decide_eq_true_eq, sameR_iff l r, List.cons.injEq, Cc.mk.injEq, and_assoc]

set_option maxRecDepth 20000 in
set_option maxHeartbeats 2000000 in
theorem same_any (a1 a2 : Option Addr) (c1 c2 : Nat) (l1 l2 : List Cc) (w : World) (hl1 : l1.length ≤ 1048576) (hl2 : l2.length ≤ 1048576) (h1 : CRow w a1 l1) (h2 : CRow w a2 l2) :
    Calls Tryd.prog 13 #[.slice a1 l1.length c1, .slice a2 l2.length c2] w fun e w' => e = .returned (.bool (sameR l1 l2)) ∧ Below w.heap.size w w' := by
  have H1 := hide h1
  have H2 := hide h2
  clear h1 h2
  obtain ⟨R, hR⟩ : ∃ R, R = sameR l1 l2 := ⟨_, rfl⟩
  rw [← hR]
  have HR := hide hR
  clear hR
  by_cases hlen : l1.length = l2.length
  · have hlen' : (l1.length : Int) = (l2.length : Int) := by omega
    rw [← hlen]
    clear hlen'
    go_enter Tryd.func13, Tryd.ntmps13
    have HL := hide hlen
    clear hlen hl2
    go_wp2_with fail
    go_loopw [13] (fun i w' => ∃ j : Nat, j ≤ l1.length ∧ i = .int .i64 j ∧ R = sameR (l1.drop j) (l2.drop j) ∧ Below w.heap.size w w') (fun i _ => l1.length - (intOf i).toNat)
    case atStart => exact ⟨0, by omega, rfl, by rw [HR.out]; rfl, Below.refl _ _⟩
    case round =>
      obtain ⟨j, hj, rfl, hr, hB⟩ := hrel
      by_cases hlt : j < l1.length
      · have hlt' : (j : Int) < (l1.length : Int) := by omega
        have hlt2 : j < l2.length := by have := HL.out; omega
        obtain ⟨b, o, rfl, hb, p0, p1⟩ := H1.out.tok hB hlt
        obtain ⟨b', o', rfl, hb', q0, q1⟩ := H2.out.tok hB hlt2
        rw [List.drop_eq_getElem_cons hlt, List.drop_eq_getElem_cons hlt2] at hr
        obtain ⟨x, hx⟩ : ∃ x, x = l1[j] := ⟨_, rfl⟩
        obtain ⟨y, hy⟩ : ∃ y, y = l2[j] := ⟨_, rfl⟩
        rw [← hx] at p0 p1 hr
        rw [← hy] at q0 q1 hr
        have hs : R = (decide (x.k = y.k) && (decide (x.n = y.n) && sameR (l1.drop (j + 1)) (l2.drop (j + 1)))) := hr
        have HS := hide hs
        clear hx hy hr hs H1 H2
        by_cases hxy : x.k = y.k ∧ x.n = y.n
        · obtain ⟨e1, e2⟩ := hxy
          rw [e1] at p0 
          rw [e2] at p1
          go_wp2_with fail
          go_quiet (fail)
          go_wp2_with fail
          refine ⟨⟨j + 1, by omega, by go_num, ?_, ⟨hB.os, hB.tape, hB.output, hB.size, hB.block⟩⟩, by simp [intOf]; omega⟩
          rw [HS.out, decide_eq_true e1, decide_eq_true e2]; rfl
        · have hf : R = false := by
            rw [HS.out]
            by_cases h1 : x.k = y.k
            · have h2 : ¬ x.n = y.n := fun h => hxy ⟨h1, h⟩
              rw [decide_eq_false h2]; simp
            · rw [decide_eq_false h1]; simp
          subst hf
          clear HS HR
          by_cases h1 : x.k = y.k
          · have h2 : (x.n == y.n) = false := by simpa using fun h => hxy ⟨h1, h⟩
            rw [h1] at p0
            clear hxy h1
            go_wp2_with fail
            go_quiet (fail)
            go_wp2_with fail
            go_ret
            exact ⟨rfl, ⟨hB.os, hB.tape, hB.output, hB.size, hB.block⟩⟩
          · have h2 : (x.k == y.k) = false := by simpa using h1
            clear hxy h1
            go_wp2_with fail
            go_quiet (fail)
            go_wp2_with fail
            go_ret
            exact ⟨rfl, ⟨hB.os, hB.tape, hB.output, hB.size, hB.block⟩⟩
      · obtain rfl : j = l1.length := by omega
        have hl2 : l2.length = l1.length := HL.out.symm
        have hf : R = true := by rw [hr, List.drop_length, List.drop_eq_nil_of_le (by omega)]; rfl
        subst hf
        clear hl2 hr HR
        go_wp2_with fail
        go_ret
        exact ⟨rfl, hB⟩
  · have hf : R = false := by
      rw [HR.out, ← Bool.not_eq_true, sameR_iff]
      intro e
      exact hlen (by rw [e])
    subst hf
    have hlen' : ¬ (l1.length : Int) = (l2.length : Int) := by omega
    have hlb : ((l1.length : Int) == (l2.length : Int)) = false := by simp; omega
    have hlb2 : ((l1.length : Int) != (l2.length : Int)) = true := by simp; omega
    go_enter Tryd.func13, Tryd.ntmps13
    go_wp2_with fail
    go_ret
    exact ⟨rfl, Below.refl _ _⟩

theorem blk_lt {w : World} {a : Addr} {v : Value} (h : w.cell? a = some v) : a.block < w.heap.size := by
  unfold World.cell? at h
  split at h
  · rename_i hb; exact (Array.getElem?_eq_some_iff.1 hb).1
  · cases h

theorem cells8 : Tryd.prog.cellsOf 5 = 1 := by kernel_rfl

set_option maxRecDepth 20000 in
theorem open_byte {H : Type} {enc : TypeId × Value → H} {W : World} {sp : Nat → Bool} {held : Bool} {fuel : Nat} {ad : Option Addr} {len cap : Nat} {x : DataW H × List MemPlace}
    (h : DataW.trod enc Tryd.prog W 0 sp held fuel 28 [.slice ad len cap] = some x) :
    len ≤ maxLen ∧ BRow W ad len := by
  rcases Go.ChangeShapes.open_ints Tryd.underlying28 Tryd.underlying5 cells8 h with ⟨hcs, hx⟩ | ⟨a, len', cap', zs, hcs, hb, hl, hm, hz, hx, hcell, hwz⟩
  · simp at hcs
    obtain ⟨rfl, rfl, rfl⟩ := hcs
    exact ⟨by omega, .inl rfl⟩
  · simp at hcs
    obtain ⟨rfl, rfl, rfl⟩ := hcs
    have hz2 : len ≤ zs.length := by rw [hz]; split <;> omega
    refine ⟨by omega, ?_⟩
    clear hz
    by_cases h0 : len = 0
    · exact .inl h0
    · obtain ⟨ab, ao, spot⟩ := a
      have hspot : spot = none := by simpa [Addr.add] using World.cell?_spot (hcell 0 (by omega))
      subst hspot
      have hlt : ab < W.heap.size := by
        have := hcell 0 (by omega)
        rw [Addr.add_lit] at this
        exact blk_lt this
      refine .inr ⟨ab, ao, rfl, hlt, hlt, fun i hi => ?_⟩
      have hcj := hcell i (by omega)
      rw [Addr.add_lit] at hcj
      have hb := Go.range_u8 hwz i
      rw [List.getD_eq_getElem?_getD] at hcj
      exact ⟨_, hb.1, hb.2, hcj⟩

/-- A slice that holds these cells. -/
def CRw (w : World) (v : Value) (l : List Cc) : Prop := ∃ ad c, v = .slice ad l.length c ∧ l.length ≤ c ∧ CRow w ad l

theorem CRw.form {w : World} {v : Value} {l : List Cc} (h : CRw w v l) : ∃ a c, v = .slice a l.length c := by
  obtain ⟨a, c, h, -⟩ := h; exact ⟨a, c, h⟩

theorem CRw.below {w w' : World} {v : Value} {l : List Cc} (h : CRw w v l) (hb : Below w.heap.size w w') : CRw w' v l := by
  obtain ⟨a, c, h1, h2, h3⟩ := h; exact ⟨a, c, h1, h2, h3.below hb⟩

theorem CRw.own {w : World} {b : Nat} {v : Value} {l : List Cc} (h : w.ownsRow b 37 2 v l.length (cv l)) : CRw w v l := by
  obtain ⟨a, c, h1, h2, h3⟩ := cOwn_row h; exact ⟨a, c, h1, h2, h3⟩

theorem CRw.grown' {w w' : World} {v : Value} {l : List Cc} {c : Nat} (h : CRw w v l) (hg : w.grownBy w' (some c)) (hc : ∀ b o n p, v = .slice (some ⟨b, o, none⟩) n p → b ≠ c) : CRw w' v l := by
  obtain ⟨a, p, h1, h2, h3⟩ := h
  refine ⟨a, p, h1, h2, ?_⟩
  rcases h3 with h3 | ⟨b, o, h4, h5, h6⟩
  · exact .inl h3
  · have hb := hg.block b h5 (fun e => hc b o _ _ (by rw [h1, h4]) (by simpa using e))
    exact .inr ⟨b, o, h4, Nat.lt_of_lt_of_le h5 hg.size, fun i hi => ⟨(World.cell?_of_block (a := ⟨b, o + i * 2, none⟩) hb).trans (h6 i hi).1, (World.cell?_of_block (a := ⟨b, o + i * 2 + 1, none⟩) hb).trans (h6 i hi).2⟩⟩

theorem fin0 {w w0 w9 : World} (hb : Below w.heap.size w w0) (hg : w0.grownBy w9 (some w.heap.size)) : Below w.heap.size w w9 :=
  ⟨hg.os.trans hb.os, hg.tape.trans hb.tape, hg.output.trans hb.output, Nat.le_trans hb.size hg.size, fun q hq => (hg.block q (Nat.lt_of_lt_of_le hq hb.size) (fun e => by simp at e; omega)).trans (hb.block q hq)⟩

set_option maxRecDepth 20000 in
set_option maxHeartbeats 2000000 in
theorem drawGood_any (n cp : Nat) (ad : Option Addr) (w : World) (hn : (n : Int) ≤ 9223372036854775807) (h : BRow w ad n) :
    Calls Tryd.prog 22 #[.slice ad n cp] w fun e w' => ∃ (v1 : Value) (l1 : List Cc), e = .returned v1 ∧ l1.length ≤ 1048576 ∧ CRw w' v1 l1 ∧ Below w.heap.size w w' := by
  have HC0 := hide (cu_new w ad n cp h)
  have hb0 : Below w.heap.size w (w.alloc (.cells #[.slice ad n cp, .int .i64 0, .int .u64 0] 50)) := (Below.refl _ _).alloc (Nat.le_refl _) _
  obtain ⟨w0, hw0⟩ : ∃ w0, w0 = w.alloc (.cells #[.slice ad n cp, .int .i64 0, .int .u64 0] 50) := ⟨_, rfl⟩
  rw [← hw0] at HC0 hb0
  have HB0 := hide hb0
  have Hw0 := hide hw0
  clear hw0 hb0 h
  have HP := hide (pick_any w.heap.size n cp 0 3 ad w0 (by omega) (by omega) hn HC0.out)
  go_enter Tryd.func22, Tryd.ntmps22
  go_wp2_with fail
  rw [← Hw0.out]
  refine Calls.mono HP.out ?_
  rintro e w1 ⟨r, rfl, hr, hc1, hg1⟩
  have HT := hide (term_any w.heap.size n cp (0 + 2) r ad w1 (by omega) (by omega) hn hc1)
  have HG1 := hide hg1
  clear hc1 hg1 HP HC0 hr
  go_wp2_with fail
  refine Calls.mono HT.out ?_
  rintro e w2 ⟨v1, l1, rfl, hl1, ho1, hc2, hg2⟩
  have HR := hide (CRw.own ho1)
  have HG2 := hide (grown_trans HG1.out hg2)
  obtain ⟨a1, p1, rfl⟩ := iOwn_form ho1
  obtain ⟨L1, hL1⟩ : ∃ L1, L1 = l1.length := ⟨_, rfl⟩
  rw [← hL1] at HR ⊢
  have Hl1 := hide hl1
  clear ho1 hc2 hg2 HT hL1 hl1
  go_wp2_with fail
  go_ret
  exact ⟨_, l1, rfl, by have := Hl1.out; omega, HR.out, fin0 HB0.out HG2.out⟩

end Go.Proofs.YthnkdlhkldcaoaaDoor.W

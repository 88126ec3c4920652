/-
  Some texts of this proof in one: DrC, TeU, TeN, TeQm.
-/
import Derived.Test.YtjmgnljjeogdlaaDrB
import Derived.Test.YtjmgnljjeogdlaaJad
import Derived.Deep.RegionLaw
/-
  Drawn rows of cells: a contract of term. Conditions: at most 9223372036854775807 bytes.
-/
namespace Go.Proofs.Ytjmgnljjeogdlaa.W
open Go.ChangeShapes Go.WideShapes Go.ChangeAt Go.RowKit
set_option linter.unusedVariables false
set_option linter.unusedSimpArgs false

theorem cv_set : ∀ (l : List Cc) (j : Nat) (z : Int), j < l.length * 2 → ∃ l' : List Cc, l'.length = l.length ∧ cv l' = (cv l).set j (.int .i64 z)
  | [], j, z, h => by simp at h
  | x :: l, 0, z, _ => ⟨⟨z, x.n⟩ :: l, rfl, rfl⟩
  | x :: l, 1, z, _ => ⟨⟨x.k, z⟩ :: l, rfl, rfl⟩
  | x :: l, j + 2, z, h => by
    obtain ⟨l', h1, h2⟩ := cv_set l j z (by simp at h; omega)
    exact ⟨x :: l', by simp [h1], by
      show _ :: _ :: cv l' = _
      rw [h2]; rfl⟩
theorem own_set {w : World} {base n size g cap j : Nat} {e : TypeId} {xs : List Value} {v : Value} (h : w.ownsRow base e size (.slice (some ⟨g, 0, none⟩) n cap) n xs) (hj : j < xs.length) : (w.setCell ⟨g, j, none⟩ v).ownsRow base e size (.slice (some ⟨g, 0, none⟩) n cap) n (xs.set j v) := by
  refine ⟨by rw [List.length_set]; exact h.1, ?_⟩
  rcases h.2 with ⟨h0, -⟩ | ⟨g', cap', cur, hv, hb, hh, h1, h2, h3, h4⟩
  · cases h0
  · have hv' := hv
    simp only [Value.slice.injEq, Option.some.injEq, Addr.mk.injEq] at hv'
    obtain ⟨⟨rfl, -, -⟩, -, rfl⟩ := hv'
    refine .inr ⟨g, cap, cur.setIfInBounds j v, rfl, hb, blk_setCell hh _, h1, h2, by simpa using h3, ?_⟩
    rw [← h4]
    have hl : j < n * size := by rw [← h.1]; exact hj
    simp [List.take_set]
/-- A row of cells of its own, drawn. -/
def TP (c n cp m : Nat) (ad : Option Addr) (w : World) (e : Ending) (w' : World) : Prop :=
  ∃ (v : Value) (l : List Cc), e = .returned v ∧ l.length ≤ 300 ∧ w'.ownsRow w.heap.size 62 2 v l.length (cv l) ∧ CU w' c ad n cp (m + 2000) ∧ w.grownBy w' (some c)

set_option maxRecDepth 20000 in
set_option maxHeartbeats 4000000 in
theorem term_any (c n cp m vars : Nat) (ad : Option Addr) (w : World) (hm : m + 2000 ≤ 1000000) (hv : vars ≤ 100) (hn : (n : Int) ≤ 9223372036854775807) (h : CU w c ad n cp m) :
    Calls Try.prog 21 #[.pointer (some ⟨c, 0, none⟩), .int .i64 (vars : Int)] w fun e w' => TP c n cp m ad w e w' := by
  have hcl := h.lt
  have HC0 := hide h
  have HP := hide (pick_any c n cp m 5 ad w (by omega) (by omega) hn h)
  clear h
  go_enter Try.func21, Try.ntmps21
  go_wp2_with fail
  refine Calls.mono HP.out ?_
  rintro e w1 ⟨r, rfl, hr, hc1, hg1⟩
  have hr4 : r ≤ 4 := by omega
  have hB4 : Bt r ≤ 1210 := by
    rcases (show r = 0 ∨ r = 1 ∨ r = 2 ∨ r = 3 ∨ r = 4 by omega) with rfl | rfl | rfl | rfl | rfl <;> decide
  have h4 : 4 ^ r ≤ 256 := by
    rcases (show r = 0 ∨ r = 1 ∨ r = 2 ∨ r = 3 ∨ r = 4 by omega) with rfl | rfl | rfl | rfl | rfl <;> decide
  have HT3 := hide (tree3_any c n cp ad hn r vars (m + 2) (r : Int) (vars : Int) w1 rfl rfl (by omega) (by omega) hc1)
  have HG1 := hide hg1
  have HB4 := hide hB4
  have H4 := hide h4
  have hs1 := hg1.size
  clear HP hc1 hg1 hr hB4 h4
  go_wp2_with fail
  refine Calls.mono HT3.out ?_
  rintro e w2 ⟨x, k, s, rfl, hK, hl, hc2, hg2⟩
  obtain ⟨sa, sc, hf⟩ := hK.form
  obtain ⟨KN, hKN⟩ : ∃ KN, KN = k.len := ⟨_, rfl⟩
  have hs2 := hg2.size
  have hlk : k.flat.length + 1 ≤ 256 := by have := H4.out; omega
  have HFl := hide (l3Flat_any k x s (.slice none 0 0) w2.heap.size 0 [] _ w2 (fun g _ _ => by simp [Value.ownBlock]) (by omega) (Nat.le_refl _) hK (World.ownsRow_nil _ _ _ _))
  rw [← hKN] at hf
  subst hf
  have HC2 := hide (hc2.more (m' := m + 1212) (by have := HB4.out; omega))
  have HG2 := hide (grown_trans HG1.out hg2)
  clear HT3 hK hl hc2 hg2 hKN
  go_wp2_with fail
  refine Calls.mono HFl.out ?_
  rintro e w3 ⟨v3, rfl, ho3, hg3, -⟩
  have hb3 : Below w2.heap.size w2 w3 := ⟨hg3.os, hg3.tape, hg3.output, hg3.size, fun q hq => hg3.block q hq (by simp [Value.ownBlock])⟩
  obtain ⟨l, hl⟩ : ∃ l, l = x :: k.flat := ⟨_, rfl⟩
  have ho3' : w3.ownsRow w2.heap.size 62 2 v3 l.length (cv l) := by rw [hl]; simpa using ho3
  have hll : l.length ≤ 256 := by rw [hl]; simpa using hlk
  have hl0 : 0 < l.length := by rw [hl]; simp
  obtain ⟨g, cap, rfl, hgb, hgl⟩ := tOwn_some ho3' hl0
  have HO3 := hide ho3'
  have HC3 := hide (HC2.out.below hb3)
  have HG3 := hide (grown_trans HG2.out (grown_below (some c) hb3))
  have hs3 := hb3.size
  obtain ⟨LN, hLN⟩ : ∃ LN, LN = l.length := ⟨_, rfl⟩
  rw [← hLN] at HO3 hll hl0 ⊢
  have HLN := hide hLN
  clear HFl ho3 ho3' hg3 hb3 hl HC2 HG2 HG1 hlk hLN
  go_wp2_with fail
  refine Calls.mono (one_any c n cp (m + 1212) 20 ad w3 (by omega) (by omega) hn HC3.out) ?_
  rintro e w4 ⟨b1, rfl, hc4, hg4⟩
  have HC4 := hide hc4
  have HG4 := hide (grown_trans HG3.out hg4)
  have HO4 := hide (tOwn_keep (base := w2.heap.size) HO3.out (fun q hq hq2 => hg4.block q hq2 (fun e => by simp at e; omega)))
  have hs4 := hg4.size
  clear hc4 hg4 HC3 HG3 HO3
  cases b1 with
  | false =>
    go_wp2_with fail
    go_ret
    exact ⟨_, l, rfl, by have := HLN.out; omega, by rw [← HLN.out]; exact iOwn_lower HO4.out (by omega), HC4.out.more (by omega), HG4.out⟩
  | true =>
    go_wp2_with fail
    refine Calls.mono (pick_any c n cp (m + 1214) LN ad w4 (by omega) (by omega) hn HC4.out) ?_
    rintro e w5 ⟨j, rfl, hj, hc5, hg5⟩
    have hj' : j < LN := by omega
    have HC5 := hide hc5
    have HG5 := hide (grown_trans HG4.out hg5)
    have HO5 := hide (tOwn_keep (base := w2.heap.size) HO4.out (fun q hq hq2 => hg5.block q hq2 (fun e => by simp at e; omega)))
    have hs5 := hg5.size
    clear hc5 hg5 HC4 HG4 HO4 hj
    go_wp2_with fail
    refine Calls.mono (one_any c n cp (m + 1216) 2 ad w5 (by omega) (by omega) hn HC5.out) ?_
    rintro e w6 ⟨b2, rfl, hc6, hg6⟩
    have HC6 := hide hc6
    have HG6 := hide (grown_trans HG5.out hg6)
    have HO6 := hide (tOwn_keep (base := w2.heap.size) HO5.out (fun q hq hq2 => hg6.block q hq2 (fun e => by simp at e; omega)))
    have hs6 := hg6.size
    clear hc6 hg6 HC5 HG5 HO5
    have hjl : (j : Int) < (LN : Int) := by omega
    have hj0 : (0 : Int) ≤ (j : Int) := by omega
    cases b2 with
    | true =>
      go_wp2_with fail
      refine Calls.mono (pick_any c n cp (m + 1218) 9 ad w6 (by omega) (by omega) hn HC6.out) ?_
      rintro e w7 ⟨z, rfl, hz, hc7, hg7⟩
      have HC7 := hide hc7
      have HG7 := hide (grown_trans HG6.out hg7)
      have HO7 := hide (tOwn_keep (base := w2.heap.size) HO6.out (fun q hq hq2 => hg7.block q hq2 (fun e => by simp at e; omega)))
      have hs7 := hg7.size
      obtain ⟨cur, hcur, hcs⟩ : ∃ cur : Array Value, w7.heap[g]? = some (.cells cur 62 (0, 0)) ∧ LN * 2 ≤ cur.size := by
        rcases HO7.out.2 with ⟨h, -⟩ | ⟨g', cap', cur, hv, -, hh, h1, -, h3, h4⟩
        · cases h
        · simp only [Value.slice.injEq, Option.some.injEq, Addr.mk.injEq] at hv
          obtain ⟨⟨rfl, -, -⟩, -, rfl⟩ := hv
          exact ⟨cur, hh, by rw [h3]; exact Nat.mul_le_mul_right _ h1⟩
      have fz : ∀ i, w7.frozen? ⟨g, i, none⟩ = false := fun i => unfrozen_of_blk hcur i
      obtain ⟨y, hy⟩ : ∃ y, w7.cell? ⟨g, j * 2, none⟩ = some y := by rw [cell_of_blk hcur, Array.getElem?_eq_getElem (by omega)]; exact ⟨_, rfl⟩
      clear hc7 hg7 HC6 HG6 HO6 hcur hcs hz
      go_wp2_with fail
      go_ret
      obtain ⟨l', hl1, hl2⟩ := cv_set l (j * 2) (z : Int) (by rw [← HLN.out]; omega)
      have ho8 := own_set (v := .int .i64 (z : Int)) (j := j * 2) HO7.out (by rw [cv_len, ← HLN.out]; omega)
      refine ⟨_, l', rfl, by rw [hl1, ← HLN.out]; omega, ?_, ?_, ?_⟩
      · rw [hl1, ← HLN.out, hl2]; exact iOwn_lower ho8 (by omega)
      · obtain ⟨a, sd, q1, q2, q3, q4⟩ := HC7.out
        refine ⟨a, sd, q1, by omega, by rw [Below.heap_setCell _ _ _ _ (by simp; omega)]; exact q3, ?_⟩
        rcases q4 with q4 | ⟨b, o, u1, u2, u3, u4⟩
        · exact .inl q4
        · exact .inr ⟨b, o, u1, u2, by simpa using u3, fun i hi => by
            obtain ⟨v, t1, t2, t3⟩ := u4 i hi
            exact ⟨v, t1, t2, (World.cell?_of_block (a := ⟨b, o + i, none⟩) (Below.heap_setCell _ _ _ _ (by simp; omega))).trans t3⟩⟩
      · exact ⟨HG7.out.os, HG7.out.tape, HG7.out.output, by simpa using HG7.out.size, fun q hq hne => by
          rw [Below.heap_setCell _ _ _ _ (by simp; omega)]; exact HG7.out.block q hq hne⟩
    | false =>
      have hb7 : Below w6.heap.size w6 (w6.alloc (.cells #[.int .i64 (-1), .int .i64 0, .int .i64 1, .int .i64 99, .int .i64 100, .int .i64 1000001] 3)) := (Below.refl _ _).alloc (Nat.le_refl _) _
      obtain ⟨wa, hwa⟩ : ∃ wa, wa = w6.alloc (.cells #[.int .i64 (-1), .int .i64 0, .int .i64 1, .int .i64 99, .int .i64 100, .int .i64 1000001] 3) := ⟨_, rfl⟩
      rw [← hwa] at hb7
      have hbl : wa.heap[w6.heap.size]? = some (.cells #[.int .i64 (-1), .int .i64 0, .int .i64 1, .int .i64 99, .int .i64 100, .int .i64 1000001] 3 (0, 0)) := by rw [hwa]; exact heap_alloc_new _ _
      have hla : w6.heap.size < wa.heap.size := by rw [hwa]; simp
      have HAm := hide (among_any c n cp (m + 1218) 6 w6.heap.size 6 ad wa (by omega) (by omega) (by omega) hn (HC6.out.below hb7) (by omega) hla (fun i hi => by
        rw [cell_of_blk hbl]
        rcases (show i = 0 ∨ i = 1 ∨ i = 2 ∨ i = 3 ∨ i = 4 ∨ i = 5 by omega) with rfl | rfl | rfl | rfl | rfl | rfl <;> exact ⟨_, rfl⟩))
      have HG6a := hide (grown_trans HG6.out (grown_below (some c) hb7))
      have HO6a := hide (tOwn_keep (base := w2.heap.size) HO6.out (fun q hq hq2 => hb7.block q hq2))
      have hsa := hb7.size
      have Hwa := hide hwa
      clear hwa hbl hb7 HC6 HG6 HO6
      go_wp2_with fail
      rw [← Hwa.out]
      refine Calls.mono HAm.out ?_
      rintro e w7 ⟨z, rfl, hc7, hg7⟩
      have HC7 := hide hc7
      have HG7 := hide (grown_trans HG6a.out hg7)
      have HO7 := hide (tOwn_keep (base := w2.heap.size) HO6a.out (fun q hq hq2 => hg7.block q hq2 (fun e => by simp at e; omega)))
      have hs7 := hg7.size
      obtain ⟨cur, hcur, hcs⟩ : ∃ cur : Array Value, w7.heap[g]? = some (.cells cur 62 (0, 0)) ∧ LN * 2 ≤ cur.size := by
        rcases HO7.out.2 with ⟨h, -⟩ | ⟨g', cap', cur, hv, -, hh, h1, -, h3, h4⟩
        · cases h
        · simp only [Value.slice.injEq, Option.some.injEq, Addr.mk.injEq] at hv
          obtain ⟨⟨rfl, -, -⟩, -, rfl⟩ := hv
          exact ⟨cur, hh, by rw [h3]; exact Nat.mul_le_mul_right _ h1⟩
      have fz : ∀ i, w7.frozen? ⟨g, i, none⟩ = false := fun i => unfrozen_of_blk hcur i
      obtain ⟨y, hy⟩ : ∃ y, w7.cell? ⟨g, j * 2 + 1, none⟩ = some y := by rw [cell_of_blk hcur, Array.getElem?_eq_getElem (by omega)]; exact ⟨_, rfl⟩
      clear hc7 hg7 hcur hcs HAm HO6a HG6a
      go_wp2_with fail
      go_ret
      obtain ⟨l', hl1, hl2⟩ := cv_set l (j * 2 + 1) z (by rw [← HLN.out]; omega)
      have ho8 := own_set (v := .int .i64 z) (j := j * 2 + 1) HO7.out (by rw [cv_len, ← HLN.out]; omega)
      refine ⟨_, l', rfl, by rw [hl1, ← HLN.out]; omega, ?_, ?_, ?_⟩
      · rw [hl1, ← HLN.out, hl2]; exact iOwn_lower ho8 (by omega)
      · obtain ⟨a, sd, q1, q2, q3, q4⟩ := HC7.out
        refine ⟨a, sd, q1, by omega, by rw [Below.heap_setCell _ _ _ _ (by simp; omega)]; exact q3, ?_⟩
        rcases q4 with q4 | ⟨b, o, u1, u2, u3, u4⟩
        · exact .inl q4
        · exact .inr ⟨b, o, u1, u2, by simpa using u3, fun i hi => by
            obtain ⟨v, t1, t2, t3⟩ := u4 i hi
            exact ⟨v, t1, t2, (World.cell?_of_block (a := ⟨b, o + i, none⟩) (Below.heap_setCell _ _ _ _ (by simp; omega))).trans t3⟩⟩
      · exact ⟨HG7.out.os, HG7.out.tape, HG7.out.output, by simpa using HG7.out.size, fun q hq hne => by
          rw [Below.heap_setCell _ _ _ _ (by simp; omega)]; exact HG7.out.block q hq hne⟩

/-- A row of bytes as an argument. -/
def BRow (w : World) (ad : Option Addr) (n : Nat) : Prop := BR w w.heap.size ad n
theorem BRow.below {w w' : World} {ad : Option Addr} {n : Nat} (h : BRow w ad n) (hb : Below w.heap.size w w') : BRow w' ad n := by
  rcases h with h | ⟨b, o, h1, h2, h3, h4⟩
  · exact .inl h
  · refine .inr ⟨b, o, h1, Nat.lt_of_lt_of_le h2 hb.size, Nat.lt_of_lt_of_le h3 hb.size, fun i hi => ?_⟩
    obtain ⟨v, h5, h6, h7⟩ := h4 i hi
    exact ⟨v, h5, h6, (hb.cell (p := ⟨b, o + i, none⟩) h3).trans h7⟩
theorem cu_new (w : World) (ad : Option Addr) (n cp : Nat) (h : BRow w ad n) : CU (w.alloc (.cells #[.slice ad n cp, .int .i64 0, .int .u64 0] 48)) w.heap.size ad n cp 0 := by
  refine ⟨0, 0, by omega, by omega, heap_alloc_new _ _, ?_⟩
  rcases h with h | ⟨b, o, h1, h2, h3, h4⟩
  · exact .inl h
  · refine .inr ⟨b, o, h1, h2, by simp; omega, fun i hi => ?_⟩
    obtain ⟨v, h5, h6, h7⟩ := h4 i hi
    exact ⟨v, h5, h6, (((Below.refl w.heap.size w).alloc (Nat.le_refl _) _).cell (p := ⟨b, o + i, none⟩) h3).trans h7⟩
end Go.Proofs.Ytjmgnljjeogdlaa.W

/-
  Terms shifted by the specification: a contract of l3Shift. Conditions: as the theorem states.
-/
namespace Go.Proofs.Ytjmgnljjeogdlaa.W
open Go.ChangeShapes Go.WideShapes Go.ChangeAt Go.RowKit
set_option linter.unusedVariables false

def shc (by_ : Int) (f : Nat) (x : Cc) : Cc := if x.k = 1 ∧ (f : Int) ≤ x.n then ⟨x.k, x.n + by_⟩ else x
/-- Terms shifted: the kids from i on of a term of kind pk. -/
def shf (by_ : Int) (pk : Int) (f : Nat) : Nat → F → F
  | _, .nil => .nil
  | i, .cons x k r => .cons (shc by_ (f + binds pk i) x) (shf by_ x.k (f + binds pk i) 0 k) (shf by_ pk f (i + 1) r)
theorem shf_app (by_ pk : Int) (f : Nat) : ∀ (a b : F) (i : Nat), shf by_ pk f i (a.app b) = (shf by_ pk f i a).app (shf by_ pk f (i + a.len) b)
  | .nil, b, i => rfl
  | .cons x k r, b, i => by
    simp only [F.app, shf, shf_app by_ pk f r b, F.len]
    rw [show i + 1 + r.len = i + (r.len + 1) by omega]
theorem shf_len (by_ pk : Int) (f : Nat) : ∀ (a : F) (i : Nat), (shf by_ pk f i a).len = a.len
  | .nil, _ => rfl
  | .cons x k r, i => by simp [shf, F.len, shf_len by_ pk f r]
theorem shf_flat (by_ : Int) : ∀ (a : F) (pk : Int) (f i : Nat), (shf by_ pk f i a).flat.length = a.flat.length
  | .nil, _, _, _ => rfl
  | .cons x k r, pk, f, i => by simp [shf, F.flat, shf_flat by_ k, shf_flat by_ r]

def L3HGoal (k : F) : Prop := ∀ (x : Cc) (s : Value) (by_ : Int) (f : Nat) (P : Nat → Prop) (w : World), -1000000 ≤ x.n → x.n ≤ 1000000 → -1000 ≤ by_ → by_ ≤ 1000 → k.len = ar x.k → k.ok → f + k.flat.length ≤ 2000000 → KidT w P k s →
    Calls Try.prog 81 #[.agg #[.int .i64 x.k, .int .i64 x.n, s], .int .i64 by_, .int .i64 (f : Int)] w fun e w' => ∃ s', e = .returned (.agg #[.int .i64 (shc by_ f x).k, .int .i64 (shc by_ f x).n, s']) ∧ KidT w' (fun g => w.heap.size ≤ g) (shf by_ x.k f 0 k) s' ∧ Below w.heap.size w w'

/-- A kid more behind a tree's kids. -/
theorem row_step {wr w5 w6 : World} {B : Obj} {b0 O al g6 cap6 : Nat} {own : Option Nat} {F1 kk : F} {cs : List Value} {zz : Cc} {s5 : Value} {T : TypeId} {x0 x1 sO : Value}
    (h5 : Below wr.heap.size wr w5) (hK : KidsAt wr (fun g => b0 ≤ g ∧ own ≠ some g) F1 cs) (hT : KidT w5 (fun g => wr.heap.size ≤ g) kk s5)
    (ho : w6.ownsRow b0 T 3 (.slice (some ⟨g6, 0, none⟩) (al + 1) cap6) (al + 1) (cs ++ tC zz s5)) (hg : (w5.alloc B).grownBy w6 own) (hat : own = some g6 ∨ g6 = (w5.alloc B).heap.size)
    (hl : ∀ k, own = some k → b0 ≤ k ∧ k < wr.heap.size) (hO : O < b0) (hb : b0 ≤ wr.heap.size) (hOc : wr.heap[O]? = some (.cells #[x0, x1, sO] T (0, 0))) :
    KidsAt (w6.setCell ⟨O, 2, none⟩ (.slice (some ⟨g6, 0, none⟩) (al + 1) cap6)) (fun g => b0 ≤ g ∧ (Value.slice (some ⟨g6, 0, none⟩) (al + 1) cap6).ownBlock ≠ some g) (F1.app (.cons zz kk .nil)) (cs ++ tC zz s5) ∧
    (w6.setCell ⟨O, 2, none⟩ (.slice (some ⟨g6, 0, none⟩) (al + 1) cap6)).ownsRow b0 T 3 (.slice (some ⟨g6, 0, none⟩) (al + 1) cap6) (al + 1) (cs ++ tC zz s5) ∧
    Holds (w6.setCell ⟨O, 2, none⟩ (.slice (some ⟨g6, 0, none⟩) (al + 1) cap6)) (fun g => b0 ≤ g) (.slice (some ⟨g6, 0, none⟩) (al + 1) cap6) (al + 1) (cs ++ tC zz s5) ∧
    (∀ k, k < b0 → k ≠ O → (w6.setCell ⟨O, 2, none⟩ (.slice (some ⟨g6, 0, none⟩) (al + 1) cap6)).heap[k]? = wr.heap[k]?) ∧
    (w6.setCell ⟨O, 2, none⟩ (.slice (some ⟨g6, 0, none⟩) (al + 1) cap6)).heap[O]? = some (.cells #[x0, x1, .slice (some ⟨g6, 0, none⟩) (al + 1) cap6] T (0, 0)) ∧
    wr.heap.size ≤ (w6.setCell ⟨O, 2, none⟩ (.slice (some ⟨g6, 0, none⟩) (al + 1) cap6)).heap.size ∧ Below O wr (w6.setCell ⟨O, 2, none⟩ (.slice (some ⟨g6, 0, none⟩) (al + 1) cap6)) := by
  have hs5 := h5.size
  have hs6 : w5.heap.size + 1 ≤ w6.heap.size := by have := hg.size; simpa using this
  have hbf : ∀ k, k ≠ O → (w6.setCell ⟨O, 2, none⟩ (.slice (some ⟨g6, 0, none⟩) (al + 1) cap6)).heap[k]? = w6.heap[k]? := fun k hk => Below.heap_setCell _ _ _ _ hk
  have hss : (w6.setCell ⟨O, 2, none⟩ (.slice (some ⟨g6, 0, none⟩) (al + 1) cap6)).heap.size = w6.heap.size := by simp [World.setCell]
  have hk6 : ∀ k, own ≠ some k → k < w5.heap.size → w6.heap[k]? = w5.heap[k]? := fun k hn hlt => by
    rw [hg.block k (by simp; omega) (fun e => hn e.symm), heap_alloc_old _ _ hlt]
  have hg6 : ∀ k, k < w5.heap.size → own ≠ some k → (Value.slice (some ⟨g6, 0, none⟩) (al + 1) cap6).ownBlock ≠ some k := fun k hlt hn e => by
    simp only [Value.ownBlock, Option.some.injEq] at e
    subst e
    rcases hat with h | h
    · exact hn h
    · simp at h; omega
  have hgl : b0 ≤ g6 ∧ g6 < w6.heap.size := ho.lt g6 rfl
  have k1 : KidsAt (w6.setCell ⟨O, 2, none⟩ (.slice (some ⟨g6, 0, none⟩) (al + 1) cap6)) (fun g => b0 ≤ g ∧ (Value.slice (some ⟨g6, 0, none⟩) (al + 1) cap6).ownBlock ≠ some g) F1 cs := by
    refine hK.keep (by rw [hss]; omega) (fun k hk1 hk2 => ⟨?_, hk1.1, hg6 k (by omega) hk1.2⟩)
    rw [hbf k (by omega), hk6 k hk1.2 (by omega), h5.block k hk2]
  have hown : ∀ k, wr.heap.size ≤ k → own ≠ some k := fun k hk e => by have := (hl k e).2; omega
  have k2 : KidT (w6.setCell ⟨O, 2, none⟩ (.slice (some ⟨g6, 0, none⟩) (al + 1) cap6)) (fun g => b0 ≤ g ∧ (Value.slice (some ⟨g6, 0, none⟩) (al + 1) cap6).ownBlock ≠ some g) kk s5 := by
    refine hT.keep (by rw [hss]; omega) (fun k hk1 hk2 => ⟨?_, by omega, hg6 k hk2 (hown k hk1)⟩)
    rw [hbf k (by omega), hk6 k (hown k hk1) hk2]
  have hall : ∀ k, k < b0 → k ≠ O → (w6.setCell ⟨O, 2, none⟩ (.slice (some ⟨g6, 0, none⟩) (al + 1) cap6)).heap[k]? = wr.heap[k]? := fun k hk1 hk2 => by
    rw [hbf k hk2, hk6 k (fun e => by have := (hl k e).1; omega) (by omega), h5.block k (by omega)]
  have hO6 : w6.heap[O]? = some (.cells #[x0, x1, sO] T (0, 0)) := by
    rw [hk6 O (fun e => by have := (hl O e).1; omega) (by omega), h5.block O (by omega)]; exact hOc
  refine ⟨KidsAt.app k1 ⟨s5, [], (List.append_nil _).symm, k2, rfl⟩, tOwn_keep ho (fun k hk1 hk2 => hbf k (by omega)), ?_, hall, ?_, by rw [hss]; omega, ?_⟩
  · obtain ⟨g, cap, he, hgb, hgs, hgc⟩ := tOwn_lies ho (by omega)
    simp only [Value.slice.injEq, Option.some.injEq, Addr.mk.injEq, and_true, true_and] at he
    obtain ⟨rfl, rfl⟩ := he
    refine .inr ⟨by omega, _, _, rfl, hgb, by rw [hss]; exact hgs, fun j v hj => ?_⟩
    rw [World.cell?_of_block (w := w6) (hbf _ (by dsimp only; omega))]
    exact hgc j v hj
  · rw [blk_setCell hO6]; rfl
  · refine ⟨?_, ?_, ?_, by rw [hss]; omega, fun k hk => hall k (by omega) (by omega)⟩
    · exact hg.os.trans h5.os
    · exact hg.tape.trans h5.tape
    · exact hg.output.trans h5.output

set_option maxRecDepth 20000 in
set_option maxHeartbeats 8000000 in
theorem l3Shift_any : ∀ k, L3HGoal k := by
  apply F.rec_kids
  intro k ih x s by_ f P w hn1 hn2 hb1 hb2 hka hko hd hT
  have IH := hide ih
  have HT := hide hT
  have HKO := hide hko
  obtain ⟨sad, sc, rfl⟩ := hT.form
  clear ih hT hko
  obtain ⟨i0, hi0, hz0, hz1, hz2⟩ := infoPartsT infoT
  have Hi := hide hi0
  clear hi0
  have hkl := F.len_flat k
  obtain ⟨KL, hKL⟩ : ∃ KL, KL = k.len := ⟨_, rfl⟩
  rw [← hKL] at HT hkl ⊢
  have HKL := hide hKL
  clear hKL
  obtain ⟨xk, xn⟩ := x
  simp only at *
  obtain ⟨z, hz⟩ : ∃ z, z = shc by_ f ⟨xk, xn⟩ := ⟨_, rfl⟩
  rw [← hz]
  by_cases hx0 : xk = 1
  · subst hx0
    have hk0 : k = .nil := F.len_0 (by rw [hka]; rfl)
    subst hk0
    obtain rfl : KL = 0 := HKL.out
    clear HKL hka hkl IH
    by_cases hx1 : (f : Int) ≤ xn
    · have hz' : z = ⟨1, xn + by_⟩ := by rw [hz]; exact if_pos ⟨rfl, hx1⟩
      subst hz'
      clear hz
      go_enter Try.func81, Try.ntmps81
      go_wp2_with fail
      go_loopw [32] (fun i w' => i = .int .i64 0 ∧ w' = (((w.alloc (.cells #[.int .i64 1, .int .i64 xn, .slice sad 0 sc] 55)).alloc (.cells #[.int .i64 0, .int .i64 0, .slice none 0 0] 55)).alloc (.cells #[.int .i64 1, .int .i64 (xn + by_), .slice none 0 0] 55))) (fun _ _ => 0)
      case atStart => exact ⟨rfl, rfl⟩
      case round =>
        obtain ⟨rfl, rfl⟩ := hrel
        go_wp2_with fail
        exact bodyPost_ret (v := .agg #[.int .i64 1, .int .i64 (xn + by_), .slice none 0 0]) (by simp [results, Try.results81, go_sem]) rfl ⟨_, rfl, KidT.nil, (((Below.refl _ _).alloc (Nat.le_refl _) _).alloc (by simp) _).alloc (by simp; omega) _⟩
    · have hz' : z = ⟨1, xn⟩ := by rw [hz]; exact if_neg (fun h => hx1 h.2)
      subst hz'
      clear hz
      go_enter Try.func81, Try.ntmps81
      go_wp2_with fail
      go_loopw [32] (fun i w' => i = .int .i64 0 ∧ w' = (((w.alloc (.cells #[.int .i64 1, .int .i64 xn, .slice sad 0 sc] 55)).alloc (.cells #[.int .i64 0, .int .i64 0, .slice none 0 0] 55)).alloc (.cells #[.int .i64 1, .int .i64 (xn), .slice none 0 0] 55))) (fun _ _ => 0)
      case atStart => exact ⟨rfl, rfl⟩
      case round =>
        obtain ⟨rfl, rfl⟩ := hrel
        go_wp2_with fail
        exact bodyPost_ret (v := .agg #[.int .i64 1, .int .i64 (xn), .slice none 0 0]) (by simp [results, Try.results81, go_sem]) rfl ⟨_, rfl, KidT.nil, (((Below.refl _ _).alloc (Nat.le_refl _) _).alloc (by simp) _).alloc (by simp; omega) _⟩
  · have hz' : z = ⟨xk, xn⟩ := by rw [hz]; exact if_neg (fun h => hx0 h.1)
    subst hz'
    clear hz hka
    go_enter Try.func81, Try.ntmps81
    go_wp2_with fail
    obtain ⟨T0, hT0⟩ : ∃ T0, T0 = w.heap.size := ⟨_, rfl⟩
    obtain ⟨w0, hw0⟩ : ∃ w0, w0 = (((w.alloc (.cells #[.int .i64 xk, .int .i64 xn, .slice sad KL sc] 55)).alloc (.cells #[.int .i64 0, .int .i64 0, .slice none 0 0] 55)).alloc (.cells #[.int .i64 xk, .int .i64 xn, .slice none 0 0] 55)) := ⟨_, rfl⟩
    have hB0 : Below w.heap.size w w0 := by rw [hw0]; exact (((Below.refl _ _).alloc (Nat.le_refl _) _).alloc (by simp) _).alloc (by simp; omega) _
    have hbT : w0.heap[w.heap.size]? = some (.cells #[.int .i64 xk, .int .i64 xn, .slice sad KL sc] 55) := by rw [hw0, heap_alloc_old _ _ (by simp; omega), heap_alloc_old _ _ (by simp)]; exact heap_alloc_new _ _
    have hbR : w0.heap[w.heap.size + 1]? = some (.cells #[.int .i64 0, .int .i64 0, .slice none 0 0] 55) := by rw [hw0, heap_alloc_old _ _ (by simp)]; have := heap_alloc_new (w.alloc (.cells #[.int .i64 xk, .int .i64 xn, .slice sad KL sc] 55)) (.cells #[.int .i64 0, .int .i64 0, .slice none 0 0] 55); simpa using this
    have hbO : w0.heap[w.heap.size + 1 + 1]? = some (.cells #[.int .i64 xk, .int .i64 xn, .slice none 0 0] 55) := by rw [hw0]; have := heap_alloc_new ((w.alloc (.cells #[.int .i64 xk, .int .i64 xn, .slice sad KL sc] 55)).alloc (.cells #[.int .i64 0, .int .i64 0, .slice none 0 0] 55)) (.cells #[.int .i64 xk, .int .i64 xn, .slice none 0 0] 55); simpa using this
    have hsz0 : w0.heap.size = w.heap.size + 1 + 1 + 1 := by rw [hw0]; simp
    rw [← hw0]
    have HT0 := hide hbT
    have HR0 := hide hbR
    have HO0 := hide hbO
    have HSz0 := hide hsz0
    clear hw0 hbT hbR hbO hsz0 hT0
    go_loopw [32] (fun i w' => ∃ (a b : F) (s : Value) (cs : List Value), k = a.app b ∧ i = .int .i64 (a.len : Int) ∧ Below w.heap.size w w' ∧ w0.heap.size ≤ w'.heap.size ∧ w'.heap[w.heap.size]? = some (.cells #[.int .i64 xk, .int .i64 xn, .slice sad KL sc] 55 (0, 0)) ∧ w'.heap[w.heap.size + 1]? = some (.cells #[.int .i64 0, .int .i64 0, .slice none 0 0] 55 (0, 0)) ∧ w'.heap[w.heap.size + 1 + 1]? = some (.cells #[.int .i64 xk, .int .i64 xn, s] 55 (0, 0)) ∧
      KidsAt w' (fun g => w0.heap.size ≤ g ∧ s.ownBlock ≠ some g) (shf by_ xk f 0 a) cs ∧ w'.ownsRow w0.heap.size 55 3 s a.len cs ∧ Holds w' (fun g => w0.heap.size ≤ g) s a.len cs) (fun i _ => KL - (intOf i).toNat)
    case atStart => exact ⟨.nil, k, _, [], rfl, rfl, hB0, Nat.le_refl _, HT0.out, HR0.out, HO0.out, rfl, World.ownsRow_nil _ _ _ _, .inl ⟨rfl, rfl⟩⟩
    case round =>
      obtain ⟨a, b, so, cs, hk, rfl, hBr, hszr, hbT, hbR, hbO, hKs, hOw, hHo⟩ := hrel
      clear HT0 HR0 HO0 hB0
      have HT1 := hide hbT
      have HR1 := hide hbR
      have HO1 := hide hbO
      have HKs := hide hKs
      have HOw := hide hOw
      have HHo := hide hHo
      obtain ⟨oad, oc, hform⟩ := iOwn_form hOw
      subst hform
      clear hbT hbR hbO hKs hOw hHo
      cases b with
      | nil =>
        rw [F.app_nil] at hk
        subst hk
        have hKL := HKL.out
        rw [← hKL]
        rw [← hKL] at HO1 HHo
        clear hKL
        have z0 := cell_of_blk HR1.out 0
        have z1 := cell_of_blk HR1.out 1
        have z2 := cell_of_blk HR1.out 2
        have fz := unfrozen_of_blk HR1.out
        have y0 := cell_of_blk HO1.out 0
        have y1 := cell_of_blk HO1.out 1
        have y2 := cell_of_blk HO1.out 2
        simp only [List.getElem?_toArray, List.getElem?_cons_zero, List.getElem?_cons_succ] at z0 z1 z2 y0 y1 y2
        go_wp2_with fail
        refine bodyPost_ret (v := .agg #[.int .i64 xk, .int .i64 xn, .slice oad KL oc]) (by simp [results, Try.results81, go_sem, *]) rfl ⟨_, rfl, ?_, ((hBr.setCell (p := ⟨w.heap.size + 1, 0, none⟩) (by simp) _).setCell (p := ⟨w.heap.size + 1, 1, none⟩) (by simp) _).setCell (p := ⟨w.heap.size + 1, 2, none⟩) (by simp) _⟩
        have hsz := HSz0.out
        have hkk : KidT wr (fun g => w0.heap.size ≤ g) (shf by_ xk f 0 k) (.slice oad KL oc) := ⟨cs, HKs.out.keep (Nat.le_refl _) (fun g h1 _ => ⟨rfl, h1.1⟩), by rw [shf_len, ← HKL.out]; exact HHo.out⟩
        refine hkk.keep (by simp [World.setCell]) (fun g h1 h2 => ⟨?_, by omega⟩)
        have hkn : g ≠ w.heap.size + 1 := by omega
        rw [Below.heap_setCell _ _ _ _ hkn, Below.heap_setCell _ _ _ _ hkn, Below.heap_setCell _ _ _ _ hkn]
      | cons y ky b =>
        have hsz0 := HSz0.out
        have hkl2 : KL = a.len + (b.len + 1) := by rw [HKL.out, hk, F.app_len]; rfl
        have hlt' : (a.len : Int) < (KL : Int) := by omega
        have hfk : k.flat.length = a.flat.length + (1 + ky.flat.length + b.flat.length) := by rw [hk, F.app_flat]; simp [F.flat]; omega
        have hI := IH.out
        have hKO := HKO.out
        rw [hk] at hI hKO
        obtain ⟨g, cap, sy, he, hPg, hg, hTy, p0, p1, p2⟩ := KidT.kid (a := a) (k := ky) (r := b) (x := y) (s := .slice sad KL sc) (by rw [← hk]; exact HT.out)
        simp only [Value.slice.injEq] at he
        obtain ⟨rfl, -, rfl⟩ := he
        have q0 := (hBr.cell (p := ⟨g, a.len * 3, none⟩) hg).trans p0
        have q1 := (hBr.cell (p := ⟨g, a.len * 3 + 1, none⟩) hg).trans p1
        have q2 := (hBr.cell (p := ⟨g, a.len * 3 + 2, none⟩) hg).trans p2
        obtain ⟨g1, l1, o1, -⟩ := ok_cons ((F.app_ok _ _).1 hKO).2
        have hyn := good_n g1
        have hbl := binds_le xk a.len
        have HC := hide (fun (w' : World) (hw' : Below w.heap.size w w') => F.all_at hI y sy by_ (f + binds xk a.len) P w' hyn.1 hyn.2 hb1 hb2 l1 o1 (by omega) (hTy.keep hw'.size (fun k h1 h2 => ⟨hw'.block k h2, h1⟩)))
        obtain ⟨yad, yc, rfl⟩ := hTy.form
        have HSn := hide (hk.trans (F.app_snoc a ky b y))
        have HDl : Hid ((a.app (.cons y ky .nil)).len = a.len + 1) := hide (by rw [F.app_len]; rfl)
        have HSh : Hid (shf by_ xk f 0 (a.app (.cons y ky .nil)) = (shf by_ xk f 0 a).app (.cons (shc by_ (f + binds xk a.len) y) (shf by_ y.k (f + binds xk a.len) 0 ky) .nil)) := hide (by rw [shf_app, Nat.zero_add]; rfl)
        have HKl2 := hide hkl2
        have HBi := hide (l3Binds_any xk a.len)
        have hcsl := HOw.out.1
        clear p0 p1 p2 hTy hI hk hkl2 hfk hKO g1 l1 o1 hyn
        obtain ⟨al, hal⟩ : ∃ al, al = a.len := ⟨_, rfl⟩
        obtain ⟨kn, hkn⟩ : ∃ kn, kn = ky.len := ⟨_, rfl⟩
        obtain ⟨bi, hbi⟩ : ∃ bi, bi = binds xk a.len := ⟨_, rfl⟩
        obtain ⟨zz, hzz⟩ : ∃ zz, zz = shc by_ (f + binds xk a.len) y := ⟨_, rfl⟩
        obtain ⟨kk, hkk⟩ : ∃ kk, kk = shf by_ y.k (f + binds xk a.len) 0 ky := ⟨_, rfl⟩
        rw [← hzz, ← hkk] at HC HSh
        rw [← hbi] at HC HBi hbl
        rw [← hal] at hlt' q0 q1 q2 HDl HKl2 HBi HO1 HOw HHo HKs hcsl ⊢
        rw [← hkn] at HC q2
        rw [Int.natCast_add] at HC
        clear hal hkn hbi hzz hkk
        have c0 : wr.cell? ⟨w.heap.size, 0, none⟩ = some (.int .i64 xk) := (cell_of_blk HT1.out 0).trans rfl
        have c4 : wr.cell? ⟨w.heap.size + 1 + 1, 2, none⟩ = some (.slice oad al oc) := (cell_of_blk HO1.out 2).trans rfl
        have hw : IntKind.i64.wrap ((f : Int) + (bi : Int)) = (f : Int) + (bi : Int) := IntWalk.i64_in _ ⟨by omega, by omega⟩
        have hal3 : al < 2000001 := by omega
        go_wp2_with fail
        obtain ⟨w3, hw3⟩ : ∃ w3, w3 = wr.alloc (.cells #[.int .i64 y.k, .int .i64 y.n, .slice yad kn yc] 55) := ⟨_, rfl⟩
        rw [← hw3]
        have hb3 : w3.heap[wr.heap.size]? = some (.cells #[.int .i64 y.k, .int .i64 y.n, .slice yad kn yc] 55) := by rw [hw3]; exact heap_alloc_new _ _
        have hBr3 : Below wr.heap.size wr w3 := by rw [hw3]; exact (Below.refl _ _).alloc (Nat.le_refl _) _
        have hsz3 : wr.heap.size < w3.heap.size := (Array.getElem?_eq_some_iff.1 hb3).1
        have hB3 : Below w.heap.size w w3.drew := belowDrew (hBr.trans (hBr3.mono hBr.size))
        have e0 : w3.cell? ⟨wr.heap.size, 0, none⟩ = some (.int .i64 y.k) := (cell_of_blk hb3 0).trans rfl
        have e1 : w3.cell? ⟨wr.heap.size, 1, none⟩ = some (.int .i64 y.n) := (cell_of_blk hb3 1).trans rfl
        have e2 : w3.cell? ⟨wr.heap.size, 2, none⟩ = some (.slice yad kn yc) := (cell_of_blk hb3 2).trans rfl
        have e3 : w3.cell? ⟨w.heap.size, 0, none⟩ = some (.int .i64 xk) := (hBr3.cell (p := ⟨w.heap.size, 0, none⟩) (by show w.heap.size < _; omega)).trans c0
        have e4 : w3.cell? ⟨w.heap.size + 1 + 1, 2, none⟩ = some (.slice oad al oc) := (hBr3.cell (p := ⟨w.heap.size + 1 + 1, 2, none⟩) (by show w.heap.size + 1 + 1 < _; omega)).trans c4
        have HB3 := hide hB3
        have HBr3 := hide hBr3
        have hXO : ¬ wr.heap.size = w.heap.size + 1 + 1 := by omega
        have hXO' : ¬ w.heap.size + 1 + 1 = wr.heap.size := by omega
        have hTO : ¬ w.heap.size = w.heap.size + 1 + 1 := by omega
        have HNo : Hid (∀ k, (Value.slice oad al oc).ownBlock = some k → w0.heap.size ≤ k ∧ k < wr.heap.size) := hide (HOw.out.lt)
        have M1 : Hid (al + 1 ≤ maxLen) := hide (by unfold maxLen; omega)
        clear hw3 hb3 hBr3 q0 q1 q2 c0 c4 hB3
        go_region_law
          (first
            | (refine step_append_lies _ rfl _ _ 53 rfl w0.heap.size 55 i0 (.agg #[.int .i64 0, .int .i64 0, .slice none 0 0]) 3 40 Try.underlying53 Hi.out hz0 hz1 hz2 rfl (by decide) _ al cs rfl HOw5.out ⟨w5.heap.size, 0, none⟩ 1 1 (tC zz (.slice pad kk.len pc)) rfl rfl HNw.out (tC_one _ _ rfl) (by omega) M1.out (by omega) HBs.out _ rfl ?_; intro g6 cap6 w6 hown6 hgrow6 hat6 hlt6; have HO6 := hide hown6; have HG6 := hide hgrow6; have HA6 := hide hat6; have HO16 : Hid (w6.heap[w.heap.size + 1 + 1]? = some (.cells #[.int .i64 xk, .int .i64 xn, .slice oad al oc] 55 (0, 0))) := hide ((hgrow6.block _ HOl.out HNn.out).trans HO15.out); have f6 := (cell_of_blk HO16.out 2).trans rfl; have ff6 := unfrozen_of_blk HO16.out 2; clear hown6 hgrow6 hat6)
            | (go_simp; go_wp2_with (first | (go_at_call 80; refine (HBi.out _).mono ?_; rintro e w' ⟨rfl, rfl⟩) | (go_at_call 81; refine Calls.mono (HC.out _ HB3.out) ?_; rintro e w5 ⟨s5, rfl, hs5, hb5⟩; obtain ⟨pad, pc, rfl⟩ := hs5.form; have HS5 := hide hs5; have HB5 := hide hb5; clear hs5 hb5; have f0 := (HB5.out.cell (p := ⟨wr.heap.size, 0, none⟩) hsz3).trans e0; have f1 := (HB5.out.cell (p := ⟨wr.heap.size, 1, none⟩) hsz3).trans e1; have f2 := (HB5.out.cell (p := ⟨wr.heap.size, 2, none⟩) hsz3).trans e2; have f3 := (HB5.out.cell (p := ⟨w.heap.size, 0, none⟩) (show w.heap.size < w3.heap.size by omega)).trans e3; have f4 := (HB5.out.cell (p := ⟨w.heap.size + 1 + 1, 2, none⟩) (show w.heap.size + 1 + 1 < w3.heap.size by omega)).trans e4; have f5 : (w5.alloc (.cells #[.int .i64 zz.k, .int .i64 zz.n, .slice pad kk.len pc] 55)).cell? ⟨w.heap.size + 1 + 1, 2, none⟩ = some (.slice oad al oc) := (by rw [World.cell?_alloc_some _ _ _ (by rw [f4]; rfl)]; exact f4); have HOw5 : Hid ((w5.alloc (.cells #[.int .i64 zz.k, .int .i64 zz.n, .slice pad kk.len pc] 55)).ownsRow w0.heap.size 55 3 (.slice oad al oc) al cs) := hide ((tOwn_keep HOw.out (fun k _ hk => (HB5.out.block k (show k < w3.heap.size by omega)).trans (HBr3.out.block k hk))).alloc _); have HNw : Hid (∀ j u, (tC zz (.slice pad kk.len pc))[j]? = some u → (w5.alloc (.cells #[.int .i64 zz.k, .int .i64 zz.n, .slice pad kk.len pc] 55)).cell? ((⟨w5.heap.size, 0, none⟩ : Addr).add j) = some u) := hide (tC_cells (heap_alloc_new w5 _)); have hsz5 := HB5.out.size; have HBs : Hid (w0.heap.size ≤ (w5.alloc (.cells #[.int .i64 zz.k, .int .i64 zz.n, .slice pad kk.len pc] 55)).heap.size) := hide (by have h1 : w3.heap.size ≤ w5.heap.size := hsz5; simp; omega); have HO15 : Hid ((w5.alloc (.cells #[.int .i64 zz.k, .int .i64 zz.n, .slice pad kk.len pc] 55)).heap[w.heap.size + 1 + 1]? = some (.cells #[.int .i64 xk, .int .i64 xn, .slice oad al oc] 55 (0, 0))) := hide (by have h1 : w3.heap.size ≤ w5.heap.size := hsz5; rw [heap_alloc_old _ _ (by omega), HB5.out.block _ (show w.heap.size + 1 + 1 < w3.heap.size by omega)]; exact (HBr3.out.block _ (by omega)).trans HO1.out); have HOl : Hid (w.heap.size + 1 + 1 < (w5.alloc (.cells #[.int .i64 zz.k, .int .i64 zz.n, .slice pad kk.len pc] 55)).heap.size) := hide (Array.getElem?_eq_some_iff.1 HO15.out).1; have HNn : Hid (some (w.heap.size + 1 + 1) ≠ (Value.slice oad al oc).ownBlock) := hide (fun e => by have := (HNo.out _ e.symm).1; omega)))))
        all_goals
          have hrs := hide (row_step (F1 := shf by_ xk f 0 a) (HBr3.out.trans (show Below wr.heap.size w3 w5 from ⟨HB5.out.os, HB5.out.tape, HB5.out.output, HB5.out.size, fun k hk => HB5.out.block k (show k < w3.heap.size by omega)⟩)) HKs.out (HS5.out.weak (fun g h1 h2 => by have h3 : w3.heap.size ≤ g := h1; omega)) HO6.out HG6.out HA6.out HNo.out (show w.heap.size + 1 + 1 < w0.heap.size by omega) hszr HO1.out)
          clear HS5 HB5 f0 f1 f2 f3 f4 f5 HOw5 HNw hsz5 HBs HO15 HOl HNn HO6 HG6 HA6 HO16 f6 ff6 e0 e1 e2 e3 e4 HB3 HBr3 HNo HC HBi hXO hXO' hTO hw
          go_wp2_with fail
          obtain ⟨r1, r2, r3, r4, r5, r6, r7⟩ := hrs.out
          have hkl2 := HKl2.out
          refine ⟨⟨a.app (.cons y ky .nil), b, _, cs ++ tC zz (.slice pad kk.len pc), HSn.out, by rw [HDl.out]; go_num, hBr.trans (r7.mono (by omega)), by omega, (r4 _ (by omega) (by omega)).trans HT1.out, (r4 _ (by omega) (by omega)).trans HR1.out, r5, by rw [HSh.out]; exact r1, by rw [HDl.out]; exact r2, by rw [HDl.out]; exact r3⟩, by simp [intOf]; omega⟩
end Go.Proofs.Ytjmgnljjeogdlaa.W

/-
  Sizes and uses as the specification counts them: contracts of l3Size and l3Uses. Conditions: as the theorems state.
-/
namespace Go.Proofs.Ytjmgnljjeogdlaa.W
open Go.ChangeShapes Go.WideShapes Go.ChangeAt Go.RowKit
set_option linter.unusedVariables false

/-- How often the kids from i on of a term of kind pk use what is meant by K around it. -/
def usf (K : Nat) (pk : Int) : Nat → F → Nat
  | _, .nil => 0
  | i, .cons x k r => (if x.k = 1 ∧ x.n = ((K + binds pk i : Nat) : Int) then 1 else usf (K + binds pk i) x.k 0 k) + usf K pk (i + 1) r
def us1 (K : Nat) (x : Cc) (k : F) : Nat := if x.k = 1 ∧ x.n = (K : Int) then 1 else usf K x.k 0 k
theorem usf_cons (K : Nat) (pk : Int) (i : Nat) (x : Cc) (k r : F) : usf K pk i (.cons x k r) = us1 (K + binds pk i) x k + usf K pk (i + 1) r := rfl
theorem usf_app (pk : Int) (K : Nat) : ∀ (a b : F) (i : Nat), usf K pk i (a.app b) = usf K pk i a + usf K pk (i + a.len) b
  | .nil, b, i => by simp [F.app, usf, F.len]
  | .cons x k r, b, i => by
    simp only [F.app, usf, usf_app pk K r b, F.len]
    rw [show i + 1 + r.len = i + (r.len + 1) by omega]
    omega
theorem usf_le : ∀ (a : F) (pk : Int) (K i : Nat), usf K pk i a ≤ a.flat.length
  | .nil, _, _, _ => Nat.le_refl _
  | .cons x k r, pk, K, i => by
    have h1 := usf_le r pk K (i + 1)
    have h2 := usf_le k x.k (K + binds pk i) 0
    simp only [usf, F.flat, List.length_cons, List.length_append]
    split <;> omega
theorem us1_le (K : Nat) (x : Cc) (k : F) : us1 K x k ≤ k.flat.length + 1 := by
  have := usf_le k x.k K 0
  unfold us1
  split <;> omega

def L3UGoal (k : F) : Prop := ∀ (x : Cc) (s : Value) (K : Nat) (P : Nat → Prop) (w : World), -1000000 ≤ x.n → x.n ≤ 1000000 → k.len = ar x.k → k.ok → K + k.flat.length ≤ 1048576 → KidT w P k s →
    Calls Try.prog 57 #[.agg #[.int .i64 x.k, .int .i64 x.n, s], .int .i64 (K : Int)] w fun e w' => e = .returned (.int .i64 (us1 K x k : Int)) ∧ Below w.heap.size w w'

set_option maxRecDepth 20000 in
set_option maxHeartbeats 2000000 in
theorem l3Uses_any : ∀ k, L3UGoal k := by
  apply F.rec_kids
  intro k ih x s d P w hn1 hn2 hka hko hd hT
  have IH := hide ih
  have HT := hide hT
  have HKO := hide hko
  obtain ⟨sad, sc, rfl⟩ := hT.form
  clear ih hT hko
  by_cases hv : x.k = 1 ∧ x.n = (d : Int)
  · have hf : us1 d x k = 1 := if_pos hv
    rw [hf]
    obtain ⟨xk, xn⟩ := x
    obtain ⟨rfl, rfl⟩ := hv
    simp only at *
    obtain ⟨KL, hKL⟩ : ∃ KL, KL = k.len := ⟨_, rfl⟩
    rw [← hKL] at HT ⊢
    clear hKL hf
    go_enter Try.func57, Try.ntmps57
    go_wp2_with fail
    go_ret
    exact ⟨rfl, (Below.refl _ _).alloc (Nat.le_refl _) _⟩
  · have hf : us1 d x k = usf d x.k 0 k := if_neg hv
    rw [hf]
    obtain ⟨xk, xn⟩ := x
    simp only at *
    obtain ⟨KL, hKL⟩ : ∃ KL, KL = k.len := ⟨_, rfl⟩
    rw [← hKL] at HT ⊢
    have HKL := hide hKL
    have hkl := F.len_flat k
    rw [← hKL] at hkl
    clear hKL hf
    have hv' : xk = 1 → ¬ xn = (d : Int) := fun h1 h2 => hv ⟨h1, h2⟩
    clear hv
    by_cases hx1 : xk = 1
    · subst hx1
      have hv2 : ¬ xn = (d : Int) := hv' rfl
      have hk0 : k = .nil := F.len_0 (by rw [hka]; rfl)
      subst hk0
      obtain rfl : KL = 0 := HKL.out
      clear hv' hka HKL
      go_enter Try.func57, Try.ntmps57
      go_wp2_with fail
      go_loopw [5, 20] (fun o2 i w' => o2 = .int .i64 0 ∧ i = .int .i64 0 ∧ w' = w.alloc (.cells #[.int .i64 1, .int .i64 xn, .slice sad 0 sc] 55)) (fun _ _ _ => 0)
      case atStart => exact ⟨rfl, rfl, rfl⟩
      case round =>
        obtain ⟨rfl, rfl, rfl⟩ := hrel
        go_wp2_with fail
        go_ret
        exact ⟨rfl, (Below.refl _ _).alloc (Nat.le_refl _) _⟩
    · clear hv' hka
      go_enter Try.func57, Try.ntmps57
      go_wp2_with fail
      obtain ⟨w0, hw0⟩ : ∃ w0, w0 = w.alloc (.cells #[.int .i64 xk, .int .i64 xn, .slice sad KL sc] 55) := ⟨_, rfl⟩
      rw [← hw0]
      have hB0 : Below w.heap.size w w0 := by rw [hw0]; exact (Below.refl _ _).alloc (Nat.le_refl _) _
      have hb0 : w0.heap[w.heap.size]? = some (.cells #[.int .i64 xk, .int .i64 xn, .slice sad KL sc] 55) := by rw [hw0]; exact heap_alloc_new _ _
      have HB0 := hide hb0
      have hsz0 : w.heap.size < w0.heap.size := (Array.getElem?_eq_some_iff.1 hb0).1
      have HT0 := hide (HT.out.below hB0)
      clear hw0 hb0
      go_loopw [5, 20] (fun o2 i w' => ∃ a b : F, k = a.app b ∧ i = .int .i64 (a.len : Int) ∧ o2 = .int .i64 (usf d xk 0 a : Int) ∧ Below w0.heap.size w0 w') (fun _ i _ => KL - (intOf i).toNat)
      case atStart => exact ⟨.nil, k, rfl, rfl, rfl, Below.refl _ _⟩
      case round =>
        obtain ⟨a, b, hk, rfl, rfl, hBr⟩ := hrel
        have hBw : Below w.heap.size w wr := hB0.trans (hBr.mono hB0.size)
        cases b with
        | nil =>
          rw [F.app_nil] at hk
          subst hk
          have hKL := HKL.out
          rw [← hKL]
          clear hKL
          go_wp2_with fail
          go_ret
          exact ⟨rfl, hBw⟩
        | cons y ky b =>
          have hkl2 : KL = a.len + (b.len + 1) := by rw [HKL.out, hk, F.app_len]; rfl
          have hlt' : (a.len : Int) < (KL : Int) := by omega
          have hfk : k.flat.length = a.flat.length + (1 + ky.flat.length + b.flat.length) := by rw [hk, F.app_flat]; simp [F.flat]; omega
          have hK := HT0.out
          have hI := IH.out
          have hKO := HKO.out
          rw [hk] at hI hKO
          obtain ⟨g, cap, sy, he, hP, hg, hTy, p0, p1, p2⟩ := KidT.kid (a := a) (k := ky) (r := b) (x := y) (s := .slice sad KL sc) (by rw [← hk]; exact hK)
          simp only [Value.slice.injEq] at he
          obtain ⟨rfl, -, rfl⟩ := he
          have q0 := (hBr.cell (p := ⟨g, a.len * 3, none⟩) hg).trans p0
          have q1 := (hBr.cell (p := ⟨g, a.len * 3 + 1, none⟩) hg).trans p1
          have q2 := (hBr.cell (p := ⟨g, a.len * 3 + 2, none⟩) hg).trans p2
          obtain ⟨g1, l1, o1, -⟩ := ok_cons ((F.app_ok _ _).1 hKO).2
          have hyn := good_n g1
          have hbl := binds_le xk a.len
          have hfl := usf_le a xk d 0
          have hul := us1_le (d + binds xk a.len) y ky
          have HC := hide (fun (w' : World) (hw' : Below w0.heap.size w0 w') => F.all_at hI y sy (d + binds xk a.len) P w' hyn.1 hyn.2 l1 o1 (by omega) (hTy.below hw'))
          obtain ⟨yad, yc, rfl⟩ := hTy.form
          have HSn := hide (hk.trans (F.app_snoc a ky b y))
          have HDl : Hid ((a.app (.cons y ky .nil)).len = a.len + 1) := hide (by rw [F.app_len]; rfl)
          have HFr : Hid (usf d xk 0 (a.app (.cons y ky .nil)) = usf d xk 0 a + us1 (d + binds xk a.len) y ky) := hide (by rw [usf_app, Nat.zero_add, usf_cons]; rfl)
          have HKl2 := hide hkl2
          have HBi := hide (l3Binds_any xk a.len)
          obtain ⟨U0, hU0⟩ : ∃ U0, U0 = usf d xk 0 a := ⟨_, rfl⟩
          obtain ⟨U1, hU1⟩ : ∃ U1, U1 = us1 (d + binds xk a.len) y ky := ⟨_, rfl⟩
          rw [← hU0] at hfl HFr ⊢
          rw [← hU1] at hul HC HFr
          have hU0b : U0 ≤ 1048576 := by omega
          have hU1b : U1 ≤ 1048577 := by omega
          clear p0 p1 p2 hTy hK hI hk hkl2 hfk hfl hul hKO g1 l1 o1 hyn hU0 hU1
          obtain ⟨al, hal⟩ : ∃ al, al = a.len := ⟨_, rfl⟩
          obtain ⟨kn, hkn⟩ : ∃ kn, kn = ky.len := ⟨_, rfl⟩
          obtain ⟨bi, hbi⟩ : ∃ bi, bi = binds xk a.len := ⟨_, rfl⟩
          rw [← hbi] at HC HBi hbl
          rw [← hal] at hlt' q0 q1 q2 HDl HKl2 HBi ⊢
          rw [← hkn] at HC q2
          clear hal hkn hbi
          have c0 : wr.cell? ⟨w.heap.size, 0, none⟩ = some (.int .i64 xk) := (hBr.cell (p := ⟨w.heap.size, 0, none⟩) hsz0).trans ((cell_of_blk HB0.out 0).trans rfl)
          have hw : IntKind.i64.wrap ((d : Int) + (bi : Int)) = ((d + bi : Nat) : Int) := by rw [IntWalk.i64_in _ ⟨by omega, by omega⟩]; omega
          go_wp2_with fail
          obtain ⟨w3, hw3⟩ : ∃ w3, w3 = wr.alloc (.cells #[.int .i64 y.k, .int .i64 y.n, .slice yad kn yc] 55) := ⟨_, rfl⟩
          rw [← hw3]
          have hb3 : w3.heap[wr.heap.size]? = some (.cells #[.int .i64 y.k, .int .i64 y.n, .slice yad kn yc] 55) := by rw [hw3]; exact heap_alloc_new _ _
          have hBr3 : Below wr.heap.size wr w3 := by rw [hw3]; exact (Below.refl _ _).alloc (Nat.le_refl _) _
          have hsz3 : wr.heap.size < w3.heap.size := (Array.getElem?_eq_some_iff.1 hb3).1
          have hszr : w0.heap.size ≤ wr.heap.size := hBr.size
          have e0 : w3.cell? ⟨wr.heap.size, 0, none⟩ = some (.int .i64 y.k) := (cell_of_blk hb3 0).trans rfl
          have e1 : w3.cell? ⟨wr.heap.size, 1, none⟩ = some (.int .i64 y.n) := (cell_of_blk hb3 1).trans rfl
          have e2 : w3.cell? ⟨wr.heap.size, 2, none⟩ = some (.slice yad kn yc) := (cell_of_blk hb3 2).trans rfl
          have e3 : w3.cell? ⟨w.heap.size, 0, none⟩ = some (.int .i64 xk) := (hBr3.cell (p := ⟨w.heap.size, 0, none⟩) (by show w.heap.size < _; omega)).trans c0
          have hB3 : Below w0.heap.size w0 w3.drew := belowDrew (hBr.trans (hBr3.mono hBr.size))
          have HB3 := hide hB3
          clear hw3 hb3 hBr3 q0 q1 q2 c0 hB3
          go_region_held3 (fun w' => w'.cell? ⟨wr.heap.size, 0, none⟩ = some (.int .i64 y.k) ∧ w'.cell? ⟨wr.heap.size, 1, none⟩ = some (.int .i64 y.n) ∧ w'.cell? ⟨wr.heap.size, 2, none⟩ = some (.slice yad kn yc) ∧ w'.cell? ⟨w.heap.size, 0, none⟩ = some (.int .i64 xk)) (go_keep)
            (first
              | (go_at_call 80; refine (HBi.out _).mono ?_; rintro e w' ⟨rfl, rfl⟩)
              | (go_at_call 57; refine Calls.mono (HC.out _ HB3.out) ?_; rintro e w5 ⟨rfl, hb5⟩; have HB5 := hide hb5; clear hb5; have f0 := (HB5.out.cell (p := ⟨wr.heap.size, 0, none⟩) hsz3).trans e0; have f1 := (HB5.out.cell (p := ⟨wr.heap.size, 1, none⟩) hsz3).trans e1; have f2 := (HB5.out.cell (p := ⟨wr.heap.size, 2, none⟩) hsz3).trans e2; have f3 := (HB5.out.cell (p := ⟨w.heap.size, 0, none⟩) (show w.heap.size < w3.heap.size by omega)).trans e3))
          have hB5 : Below w0.heap.size w0 w5 := HB3.out.trans (HB5.out.mono HB3.out.size)
          clear f0 f1 f2 f3 e0 e1 e2 e3
          have hkl2 := HKl2.out
          go_wp2_with fail
          exact ⟨⟨a.app (.cons y ky .nil), b, HSn.out, by rw [HDl.out]; go_num, by rw [HFr.out, IntWalk.i64_in ((U0 : Int) + (U1 : Int)) ⟨by omega, by omega⟩]; rfl, hB5⟩, by simp [intOf]; omega⟩
end Go.Proofs.Ytjmgnljjeogdlaa.W

/-
  Terms put in the place of variables: the model. No conditions.
-/
namespace Go.Proofs.Ytjmgnljjeogdlaa.W
open Go.ChangeShapes Go.WideShapes Go.ChangeAt Go.RowKit
set_option linter.unusedVariables false

/-- What is put in the place of a term's first cell. -/
def sbr (K : Nat) (sx : Cc) (d : Nat) (x : Cc) : Cc := if x.k = 1 then (if x.n = (K : Int) + (d : Int) then shc (d : Int) 0 sx else if (K : Int) + (d : Int) < x.n then ⟨1, x.n - 1⟩ else x) else x
/-- The kids from i on of a term of kind pk, with a term in the place of K. -/
def sbf (K : Nat) (sx : Cc) (sk : F) (pk : Int) (d : Nat) : Nat → F → F
  | _, .nil => .nil
  | i, .cons x k r => .cons (sbr K sx (d + binds pk i) x) (if x.k = 1 then (if x.n = (K : Int) + ((d + binds pk i : Nat) : Int) then shf ((d + binds pk i : Nat) : Int) sx.k 0 0 sk else .nil) else sbf K sx sk x.k (d + binds pk i) 0 k) (sbf K sx sk pk d (i + 1) r)
def sbk (K : Nat) (sx : Cc) (sk : F) (d : Nat) (x : Cc) (k : F) : F := if x.k = 1 then (if x.n = (K : Int) + (d : Int) then shf (d : Int) sx.k 0 0 sk else .nil) else sbf K sx sk x.k d 0 k
theorem sbf_cons (K : Nat) (sx : Cc) (sk : F) (pk : Int) (d i : Nat) (x : Cc) (k r : F) : sbf K sx sk pk d i (.cons x k r) = .cons (sbr K sx (d + binds pk i) x) (sbk K sx sk (d + binds pk i) x k) (sbf K sx sk pk d (i + 1) r) := rfl
theorem sbf_app (K : Nat) (sx : Cc) (sk : F) (pk : Int) (d : Nat) : ∀ (a b : F) (i : Nat), sbf K sx sk pk d i (a.app b) = (sbf K sx sk pk d i a).app (sbf K sx sk pk d (i + a.len) b)
  | .nil, b, i => rfl
  | .cons x k r, b, i => by
    simp only [F.app, sbf_cons, sbf_app K sx sk pk d r b, F.len]
    rw [show i + 1 + r.len = i + (r.len + 1) by omega]
theorem sbf_len (K : Nat) (sx : Cc) (sk : F) (pk : Int) (d : Nat) : ∀ (a : F) (i : Nat), (sbf K sx sk pk d i a).len = a.len
  | .nil, _ => rfl
  | .cons x k r, i => by simp [sbf_cons, F.len, sbf_len K sx sk pk d r]

def L3PGoal (k : F) : Prop := ∀ (x sx : Cc) (sk : F) (s ss : Value) (K d : Nat) (P Q : Nat → Prop) (w : World), -1000000 ≤ x.n → x.n ≤ 1000000 → -1000000 ≤ sx.n → sx.n ≤ 1000000 → K ≤ 99 → k.len = ar x.k → k.ok → sk.len = ar sx.k → sk.ok → sk.flat.length ≤ 600 → d + k.flat.length ≤ 1000 → KidT w P k s → KidT w Q sk ss →
    Calls Try.prog 58 #[.agg #[.int .i64 x.k, .int .i64 x.n, s], .int .i64 (K : Int), .agg #[.int .i64 sx.k, .int .i64 sx.n, ss], .int .i64 (d : Int)] w fun e w' => ∃ s', e = .returned (.agg #[.int .i64 (sbr K sx d x).k, .int .i64 (sbr K sx d x).n, s']) ∧ KidT w' (fun g => w.heap.size ≤ g) (sbk K sx sk d x k) s' ∧ Below w.heap.size w w'
end Go.Proofs.Ytjmgnljjeogdlaa.W

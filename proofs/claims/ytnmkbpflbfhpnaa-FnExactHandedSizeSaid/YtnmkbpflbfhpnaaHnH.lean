/-
  The specification's terms made of parts: contracts of l7Var, l7Lam, l7App, and of l3Shift in the same words. No conditions.
-/
import Derived.Test.YtnmkbpflbfhpnaaHnK
import Derived.Test.YtnmkbpflbfhpnaaHnD
namespace Go.Proofs.Ytnmkbpflbfhpnaa.W
open Go.ChangeShapes Go.WideShapes Go.ChangeAt Go.RowKit
set_option linter.unusedVariables false

/-- A term of the specification's in memory, its blocks of this kind. -/
def TV (w : World) (Q : Nat → Prop) (a : F) (v : Value) : Prop := ∃ x k s, a = .cons x k .nil ∧ v = .agg #[.int .i64 x.k, .int .i64 x.n, s] ∧ KidT w Q k s
theorem TV.below {w w' : World} {Q : Nat → Prop} {a : F} {v : Value} (h : TV w Q a v) (hb : Below w.heap.size w w') : TV w' Q a v := by
  obtain ⟨x, k, s, h1, h2, h3⟩ := h
  exact ⟨x, k, s, h1, h2, h3.below hb⟩
theorem TV.keep {w w' : World} {Q : Nat → Prop} {a : F} {v : Value} (h : TV w Q a v) (hs : w.heap.size ≤ w'.heap.size) (hk : ∀ k, Q k → k < w.heap.size → w'.heap[k]? = w.heap[k]?) : TV w' Q a v := by
  obtain ⟨x, k, s, h1, h2, h3⟩ := h
  exact ⟨x, k, s, h1, h2, h3.keep hs (fun g a b => ⟨hk g a b, a⟩)⟩
theorem TV.len {w : World} {Q : Nat → Prop} {a : F} {v : Value} (h : TV w Q a v) : a.len = 1 := by
  obtain ⟨x, k, s, rfl, -⟩ := h
  rfl
theorem TV.form {w : World} {Q : Nat → Prop} {a : F} {v : Value} (h : TV w Q a v) : ∃ k n ad l c, v = .agg #[.int .i64 k, .int .i64 n, .slice ad l c] := by
  obtain ⟨x, k, s, rfl, rfl, h⟩ := h
  obtain ⟨ad, c, rfl⟩ := h.form
  exact ⟨_, _, _, _, _, rfl⟩
theorem TV.var (w : World) (Q : Nat → Prop) (n : Int) : TV w Q (varT n) (.agg #[.int .i64 1, .int .i64 n, .slice none 0 0]) := ⟨⟨1, n⟩, .nil, _, rfl, rfl, KidT.nil⟩
theorem TV.one {w : World} {Q : Nat → Prop} {a : F} {k n : Int} {ad : Option Addr} {l c : Nat} (h : TV w Q a (.agg #[.int .i64 k, .int .i64 n, .slice ad l c])) : KidsAt w Q a [.int .i64 k, .int .i64 n, .slice ad l c] := by
  obtain ⟨x, k', s, rfl, e, h⟩ := h
  simp only [Value.agg.injEq, Array.mk.injEq, List.cons.injEq, Value.int.injEq, true_and, and_true] at e
  obtain ⟨e1, e2, e3⟩ := e
  subst e1 e2 e3
  exact ⟨_, [], rfl, h, rfl⟩
/-- A row of terms in a block. -/
theorem KidT.row {w : World} {Q : Nat → Prop} {a : F} {cs : List Value} {g cap : Nat} {T : TypeId} {fr : Nat × Nat} (h : KidsAt w Q a cs) (ha : 0 < a.len) (hg : w.heap[g]? = some (.cells cs.toArray T fr)) (hQ : Q g) : KidT w Q a (.slice (some ⟨g, 0, none⟩) a.len cap) :=
  ⟨cs, h, .inr ⟨ha, g, cap, rfl, hQ, (Array.getElem?_eq_some_iff.1 hg).1, fun j v hj => by rw [cell_of_blk hg]; simpa using hj⟩⟩

set_option maxHeartbeats 400000 in
theorem l7Var_any (n : Int) (w : World) :
    Calls Try.prog 58 #[.int .i64 n] w fun e w' => e = .returned (.agg #[.int .i64 1, .int .i64 n, .slice none 0 0]) ∧ Below w.heap.size w w' := by
  go_enter Try.func58, Try.ntmps58
  go_wp2_with fail
  exact bodyPost_ret (v := .agg #[.int .i64 1, .int .i64 n, .slice none 0 0]) (by simp [results, Try.results58, go_sem]) rfl ⟨rfl, bel1 _ _⟩

set_option maxHeartbeats 1000000 in
theorem l7Lam_any (Q : Nat → Prop) (a : F) (v : Value) (w : World) (hQ : ∀ g, w.heap.size ≤ g → Q g) (h : TV w Q a v) :
    Calls Try.prog 56 #[v] w fun e w' => ∃ v', e = .returned v' ∧ TV w' Q (lamT a) v' ∧ Below w.heap.size w w' := by
  have H := hide h
  have HL := hide h.len
  obtain ⟨k, n, ad, l, c, rfl⟩ := h.form
  clear h
  go_enter Try.func56, Try.ntmps56
  go_wp2_with fail
  obtain ⟨W, hW⟩ : ∃ W, W = (((w.alloc (.cells #[.int .i64 k, .int .i64 n, .slice ad l c] 37)).alloc (.cells #[.int .i64 3, .int .i64 0, .slice (some ⟨w.heap.size + 1 + 1, 0, none⟩) 1 1] 37)).alloc (.cells #[.int .i64 k, .int .i64 n, .slice ad l c] 37)) := ⟨_, rfl⟩
  rw [← hW]
  have hB : Below w.heap.size w W := by rw [hW]; exact bel3 _ _ _ _
  have h1 : W.heap[w.heap.size + 1]? = some (.cells #[.int .i64 3, .int .i64 0, .slice (some ⟨w.heap.size + 1 + 1, 0, none⟩) 1 1] 37) := by
    rw [hW, heap_alloc_old _ _ (by simp)]
    have := heap_alloc_new (w.alloc (.cells #[.int .i64 k, .int .i64 n, .slice ad l c] 37)) (.cells #[.int .i64 3, .int .i64 0, .slice (some ⟨w.heap.size + 1 + 1, 0, none⟩) 1 1] 37)
    simpa using this
  have h2 : W.heap[w.heap.size + 1 + 1]? = some (.cells #[.int .i64 k, .int .i64 n, .slice ad l c] 37) := by
    rw [hW]
    have := heap_alloc_new ((w.alloc (.cells #[.int .i64 k, .int .i64 n, .slice ad l c] 37)).alloc (.cells #[.int .i64 3, .int .i64 0, .slice (some ⟨w.heap.size + 1 + 1, 0, none⟩) 1 1] 37)) (.cells #[.int .i64 k, .int .i64 n, .slice ad l c] 37)
    simpa using this
  have c0 := (cell_of_blk h1 0).trans rfl
  have c1 := (cell_of_blk h1 1).trans rfl
  have c2 := (cell_of_blk h1 2).trans rfl
  have hr := KidT.row (cap := 1) (H.out.below hB).one (by rw [HL.out]; omega) h2 (hQ _ (by omega))
  rw [HL.out] at hr
  clear hW
  exact bodyPost_ret (v := .agg #[.int .i64 3, .int .i64 0, .slice (some ⟨w.heap.size + 1 + 1, 0, none⟩) 1 1]) (by simp [results, Try.results56, go_sem, c0, c1, c2]) rfl ⟨_, rfl, ⟨⟨3, 0⟩, a, _, rfl, rfl, hr⟩, hB⟩

set_option maxRecDepth 20000 in
set_option maxHeartbeats 1000000 in
theorem l7App_any (Q : Nat → Prop) (a b : F) (va vb : Value) (w : World) (hQ : ∀ g, w.heap.size ≤ g → Q g) (ha : TV w Q a va) (hb : TV w Q b vb) :
    Calls Try.prog 57 #[va, vb] w fun e w' => ∃ v', e = .returned v' ∧ TV w' Q (appT a b) v' ∧ Below w.heap.size w w' := by
  have HA := hide ha
  have HB := hide hb
  have HL : Hid ((a.app b).len = 2) := hide (by rw [F.app_len, ha.len, hb.len])
  obtain ⟨k1, n1, ad1, l1, c1, rfl⟩ := ha.form
  obtain ⟨k2, n2, ad2, l2, c2, rfl⟩ := hb.form
  clear ha hb
  go_enter Try.func57, Try.ntmps57
  go_wp2_with fail
  obtain ⟨W, hW⟩ : ∃ W, W = ((((w.alloc (.cells #[.int .i64 k1, .int .i64 n1, .slice ad1 l1 c1] 37)).alloc (.cells #[.int .i64 k2, .int .i64 n2, .slice ad2 l2 c2] 37)).alloc (.cells #[.int .i64 4, .int .i64 0, .slice (some ⟨w.heap.size + 1 + 1 + 1, 0, none⟩) 2 2] 37)).alloc (.cells #[.int .i64 k1, .int .i64 n1, .slice ad1 l1 c1, .int .i64 k2, .int .i64 n2, .slice ad2 l2 c2] 37)) := ⟨_, rfl⟩
  rw [← hW]
  have hB : Below w.heap.size w W := by rw [hW]; exact (bel3 _ _ _ _).alloc (by simp; omega) _
  have h1 : W.heap[w.heap.size + 1 + 1]? = some (.cells #[.int .i64 4, .int .i64 0, .slice (some ⟨w.heap.size + 1 + 1 + 1, 0, none⟩) 2 2] 37) := by
    rw [hW, heap_alloc_old _ _ (by simp)]
    have := heap_alloc_new ((w.alloc (.cells #[.int .i64 k1, .int .i64 n1, .slice ad1 l1 c1] 37)).alloc (.cells #[.int .i64 k2, .int .i64 n2, .slice ad2 l2 c2] 37)) (.cells #[.int .i64 4, .int .i64 0, .slice (some ⟨w.heap.size + 1 + 1 + 1, 0, none⟩) 2 2] 37)
    simpa using this
  have h2 : W.heap[w.heap.size + 1 + 1 + 1]? = some (.cells #[.int .i64 k1, .int .i64 n1, .slice ad1 l1 c1, .int .i64 k2, .int .i64 n2, .slice ad2 l2 c2] 37) := by
    rw [hW]
    have := heap_alloc_new (((w.alloc (.cells #[.int .i64 k1, .int .i64 n1, .slice ad1 l1 c1] 37)).alloc (.cells #[.int .i64 k2, .int .i64 n2, .slice ad2 l2 c2] 37)).alloc (.cells #[.int .i64 4, .int .i64 0, .slice (some ⟨w.heap.size + 1 + 1 + 1, 0, none⟩) 2 2] 37)) (.cells #[.int .i64 k1, .int .i64 n1, .slice ad1 l1 c1, .int .i64 k2, .int .i64 n2, .slice ad2 l2 c2] 37)
    simpa using this
  have e0 := (cell_of_blk h1 0).trans rfl
  have e1 := (cell_of_blk h1 1).trans rfl
  have e2 := (cell_of_blk h1 2).trans rfl
  have hr := KidT.row (cap := 2) (KidsAt.app (HA.out.below hB).one (HB.out.below hB).one) (by rw [HL.out]; omega) h2 (hQ _ (by omega))
  rw [HL.out] at hr
  clear hW
  exact bodyPost_ret (v := .agg #[.int .i64 4, .int .i64 0, .slice (some ⟨w.heap.size + 1 + 1 + 1, 0, none⟩) 2 2]) (by simp [results, Try.results57, go_sem, e0, e1, e2]) rfl ⟨_, rfl, ⟨⟨4, 0⟩, a.app b, _, rfl, rfl, hr⟩, hB⟩

theorem sh_cons (by_ : Int) (f : Nat) (x : Cc) (k : F) : sh by_ f (.cons x k .nil) = .cons (shc by_ f x) (shf by_ x.k f 0 k) .nil := by simp [sh, shf, binds_0]
theorem shift_any (Q : Nat → Prop) (a : F) (v : Value) (by_ : Int) (f : Nat) (w : World) (hQ : ∀ g, w.heap.size ≤ g → Q g) (ho : a.okw) (hf : f + a.flat.length ≤ 2000000) (hb1 : -1000 ≤ by_) (hb2 : by_ ≤ 1000) (h : TV w Q a v) :
    Calls Try.prog 59 #[v, .int .i64 by_, .int .i64 (f : Int)] w fun e w' => ∃ v', e = .returned v' ∧ TV w' Q (sh by_ f a) v' ∧ Below w.heap.size w w' := by
  obtain ⟨x, k, s, rfl, rfl, hk⟩ := h
  have hx := V.good_n ho.1
  refine Calls.mono (V.l3Shift_any k x s by_ f Q w hx.1 hx.2 hb1 hb2 ho.2.1 ho.2.2.1 (by simp [F.flat] at hf; omega) hk) ?_
  rintro e w' ⟨s', rfl, hs, hb⟩
  exact ⟨_, rfl, ⟨_, _, _, sh_cons _ _ _ _, rfl, hs.weak (fun g hg _ => hQ g hg)⟩, hb⟩
end Go.Proofs.Ytnmkbpflbfhpnaa.W

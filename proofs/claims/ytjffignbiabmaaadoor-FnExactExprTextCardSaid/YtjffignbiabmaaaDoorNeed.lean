/-
  Contracts of l1Same and sameWord, and of runTogether: whether two good tokens need a blank between them. Conditions: both tokens are good; Go's table of powers of ten reads as its text lays it.
-/
import Derived.Test.YtjffignbiabmaaaDoorTxt
import Derived.Test.YtjffignbiabmaaaDoorLex4
import Derived.Test.YtjffignbiabmaaaDoorTokE
import Derived.Lib.QuietBelow
namespace Go.Proofs.YtjffignbiabmaaaDoor.W
open Go.ChangeShapes Go.WideShapes Go.ChangeAt Go.RowKit

def sameB (k1 n1 : Int) (t1 : ByteArray) (k2 n2 : Int) (t2 : ByteArray) : Bool := (k1 == k2) && ((n1 == n2) && (t1.toList == t2.toList))

set_option maxRecDepth 20000 in
set_option maxHeartbeats 400000 in
theorem l1Same_any (k1 n1 a1 k2 n2 a2 : Int) (t1 t2 : ByteArray) (w : World) :
    Calls Tryd.prog 132 #[.agg #[.int .i64 k1, .int .i64 n1, .string t1, .int .i64 a1], .agg #[.int .i64 k2, .int .i64 n2, .string t2, .int .i64 a2]] w fun e w' => e = .returned (.bool (sameB k1 n1 t1 k2 n2 t2)) ∧ Below w.heap.size w w' := by
  go_enter Tryd.func132, Tryd.ntmps132
  go_wp2
  all_goals
    go_ret
    refine ⟨ret_bool ?_, ((Below.refl _ _).alloc (Nat.le_refl _) _).alloc (by simp) _⟩
    simp [sameB, *]

set_option maxRecDepth 20000 in
set_option maxHeartbeats 400000 in
theorem sameWord_any (k1 n1 a1 k2 n2 a2 : Int) (t1 t2 : ByteArray) (w : World) :
    Calls Tryd.prog 136 #[.agg #[.int .i64 k1, .int .i64 n1, .string t1, .int .i64 a1], .agg #[.int .i64 k2, .int .i64 n2, .string t2, .int .i64 a2]] w fun e w' => e = .returned (.bool (sameB k1 n1 t1 k2 n2 t2)) ∧ Below w.heap.size w w' := by
  go_enter Tryd.func136, Tryd.ntmps136
  go_wp2
  all_goals
    go_ret
    refine ⟨ret_bool ?_, ((Below.refl _ _).alloc (Nat.le_refl _) _).alloc (by simp) _⟩
    simp [sameB, *]

/-- Is the i-th token that was read this one, its place apart? -/
def sameAt (l : Toks) (i : Nat) (k n : Int) (t : ByteArray) : Bool := match l[i]? with
  | some x => sameB x.1.kind x.1.num x.1.text k n t
  | none => false
def needR (r : Toks × Nat × Bool) (k1 n1 : Int) (t1 : ByteArray) (k2 n2 : Int) (t2 : ByteArray) : Bool :=
  if r.2.2 = true ∧ r.1.length = 2 then !(sameAt r.1 0 k1 n1 t1 && sameAt r.1 1 k2 n2 t2) else true
def needB (k1 n1 : Int) (t1 : ByteArray) (k2 n2 : Int) (t2 : ByteArray) : Bool := needR (lexR (txtOf k1 n1 t1 ++ txtOf k2 n2 t2)) k1 n1 t1 k2 n2 t2

theorem need_no {r : Toks × Nat × Bool} {k1 n1 k2 n2 : Int} {t1 t2 : ByteArray} (h : r.2.2 = false) : needR r k1 n1 t1 k2 n2 t2 = true := if_neg (by rw [h]; simp)
theorem need_len {r : Toks × Nat × Bool} {k1 n1 k2 n2 : Int} {t1 t2 : ByteArray} (h : r.1.length ≠ 2) : needR r k1 n1 t1 k2 n2 t2 = true := if_neg (fun e => h e.2)
theorem need_two {l : Toks} {q : Nat} {k1 n1 k2 n2 : Int} {t1 t2 : ByteArray} (x y : Wd × Nat) (h : l = [x, y]) : needR (l, q, true) k1 n1 t1 k2 n2 t2 = !(sameB x.1.kind x.1.num x.1.text k1 n1 t1 && sameB y.1.kind y.1.num y.1.text k2 n2 t2) := by
  subst h; rfl

/-- Two boxes behind a call that makes memory alone. -/
theorem boxes_kept {w w1 : World} {k1 n1 a1 k2 n2 a2 : Int} {t1 t2 : ByteArray} {T : TypeId}
    (hb1 : Below ((w.alloc (.cells #[.int .i64 k1, .int .i64 n1, .string t1, .int .i64 a1] T)).alloc (.cells #[.int .i64 k2, .int .i64 n2, .string t2, .int .i64 a2] T)).heap.size ((w.alloc (.cells #[.int .i64 k1, .int .i64 n1, .string t1, .int .i64 a1] T)).alloc (.cells #[.int .i64 k2, .int .i64 n2, .string t2, .int .i64 a2] T)) w1) :
    w1.heap[w.heap.size]? = some (.cells #[.int .i64 k1, .int .i64 n1, .string t1, .int .i64 a1] T) ∧ w1.heap[w.heap.size + 1]? = some (.cells #[.int .i64 k2, .int .i64 n2, .string t2, .int .i64 a2] T) ∧ Below w.heap.size w w1 := by
  refine ⟨?_, ?_, ?_⟩
  · rw [hb1.block _ (by simp; omega), Below.heap_alloc _ _ _ (by simp)]; exact heap_alloc_new w _
  · rw [hb1.block _ (by simp)]; have := heap_alloc_new (w.alloc (.cells #[.int .i64 k1, .int .i64 n1, .string t1, .int .i64 a1] T)) (.cells #[.int .i64 k2, .int .i64 n2, .string t2, .int .i64 a2] T); simpa using this
  · exact (((Below.refl _ _).alloc (Nat.le_refl _) _).alloc (by simp) _).trans (hb1.mono (by simp; omega))

/-- A box's four cells. -/
theorem box_cells {w : World} {g : Nat} {k n a : Int} {t : ByteArray} {T : TypeId} (h : w.heap[g]? = some (.cells #[.int .i64 k, .int .i64 n, .string t, .int .i64 a] T)) :
    w.cell? ⟨g, 0, none⟩ = some (.int .i64 k) ∧ w.cell? ⟨g, 1, none⟩ = some (.int .i64 n) ∧ w.cell? ⟨g, 2, none⟩ = some (.string t) ∧ w.cell? ⟨g, 3, none⟩ = some (.int .i64 a) := by
  refine ⟨?_, ?_, ?_, ?_⟩ <;> (rw [cell_of_blk h]; simp)

set_option maxRecDepth 20000 in
set_option maxHeartbeats 4000000 in
theorem runTogether_any (k1 n1 a1 k2 n2 a2 : Int) (t1 t2 : ByteArray) (w : World) (h1 : t1.size ≤ 1048576) (h2 : t2.size ≤ 1048576) (g1 : goodB k1 n1 t1 a1 = true) (g2 : goodB k2 n2 t2 a2 = true) (ht : Tab w) :
    Calls Tryd.prog 98 #[.agg #[.int .i64 k1, .int .i64 n1, .string t1, .int .i64 a1], .agg #[.int .i64 k2, .int .i64 n2, .string t2, .int .i64 a2]] w fun e w' => e = .returned (.bool (needB k1 n1 t1 k2 n2 t2)) ∧ Below w.heap.size w w' := by
  have HT := hide ht
  have s1 := txt_size g1
  have s2 := txt_size g2
  have E1 : Hid (ttOf k1 n1 a1 t1 = txtOf k1 n1 t1) := if_pos g1
  have E2 : Hid (ttOf k2 n2 a2 t2 = txtOf k2 n2 t2) := if_pos g2
  have G1 := hide g1
  have G2 := hide g2
  have hS : (txtOf k1 n1 t1 ++ txtOf k2 n2 t2).size ≤ 18 := by rw [ByteArray.size_append]; omega
  have HL : Hid (lexT (txtOf k1 n1 t1 ++ txtOf k2 n2 t2) = lexR (txtOf k1 n1 t1 ++ txtOf k2 n2 t2)) := if_neg (by omega)
  have hSm : (txtOf k1 n1 t1 ++ txtOf k2 n2 t2).size ≤ maxLen := by unfold maxLen; omega
  clear ht g1 g2
  go_enter Tryd.func98, Tryd.ntmps98
  go_wp2_with fail
  refine (implText_any _ _ _ _ _ h1 (HT.out.below (((Below.refl _ _).alloc (Nat.le_refl _) _).alloc (by simp) _))).mono ?_
  rintro e w1 ⟨rfl, hb1⟩
  rw [E1.out, G1.out]
  obtain ⟨x1, y1, hB1⟩ := boxes_kept hb1
  clear hb1
  obtain ⟨c0, c1, c2, c3⟩ := box_cells x1
  obtain ⟨d0, d1, d2, d3⟩ := box_cells y1
  have X1 := hide x1
  have Y1 := hide y1
  clear x1 y1
  go_wp2_with fail
  refine (implText_any _ _ _ _ _ h2 (HT.out.below hB1)).mono ?_
  rintro e w2 ⟨rfl, hb2⟩
  rw [E2.out, G2.out]
  have X2 : Hid (w2.heap[w.heap.size]? = _) := (hb2.block _ (Array.getElem?_eq_some_iff.1 X1.out).1).trans X1.out
  have Y2 : Hid (w2.heap[w.heap.size + 1]? = _) := (hb2.block _ (Array.getElem?_eq_some_iff.1 Y1.out).1).trans Y1.out
  have hB2 : Below w.heap.size w w2 := hB1.trans (hb2.mono hB1.size)
  clear hb2 hB1 X1 Y1 c0 c1 c2 c3 d0 d1 d2 d3
  go_wp2_with fail
  refine (implLex_any _ _ hSm).mono ?_
  rintro e w3 ⟨v, rfl, ho, hb3⟩
  rw [HL.out] at ho ⊢
  have X3 : Hid (w3.heap[w.heap.size]? = _) := (hb3.block _ (Array.getElem?_eq_some_iff.1 X2.out).1).trans X2.out
  have Y3 : Hid (w3.heap[w.heap.size + 1]? = _) := (hb3.block _ (Array.getElem?_eq_some_iff.1 Y2.out).1).trans Y2.out
  have hB3 : Below w.heap.size w w3 := hB2.trans (hb3.mono hB2.size)
  clear hb3 hB2 X2 Y2 E1 E2 G1 G2 HL hSm hS s1 s2 HT
  obtain ⟨⟨l, q, ok⟩, hr⟩ : ∃ r, r = lexR (txtOf k1 n1 t1 ++ txtOf k2 n2 t2) := ⟨_, rfl⟩
  rw [← hr] at ho ⊢
  have NB : needB k1 n1 t1 k2 n2 t2 = needR (l, q, ok) k1 n1 t1 k2 n2 t2 := by unfold needB; rw [← hr]
  have HNB := hide NB
  clear hr NB
  dsimp only at ho ⊢
  obtain ⟨ad, cp, rfl⟩ := own_form ho
  cases ok with
  | false =>
    go_wp2_with fail
    go_quiet (fail)
    go_wp2_with fail
    go_ret
    exact ⟨ret_bool (by rw [HNB.out, need_no rfl]), below_drewN hB3 _⟩
  | true =>
    by_cases hl : l.length = 2
    · obtain ⟨x, y, rfl⟩ : ∃ x y, l = [x, y] := by
        match l, hl with
        | [x, y], _ => exact ⟨x, y, rfl⟩
      have HN2 := hide (HNB.out.trans (need_two x y rfl))
      clear HNB hl
      obtain ⟨g, c, he, -, hg, p0, p1, p2, p3⟩ := own_tok ho (i := 0) (by simp)
      obtain ⟨g', c', he', -, hg', q0, q1, q2, q3⟩ := own_tok ho (i := 1) (by simp)
      simp only [Value.slice.injEq] at he he'
      obtain ⟨rfl, -, rfl⟩ := he
      obtain ⟨he1, -, -⟩ := he'
      simp only [Option.some.injEq, Addr.mk.injEq, and_true] at he1
      subst he1
      simp at p0 p1 p2 p3 q0 q1 q2 q3
      obtain ⟨c0, c1, c2, c3⟩ := box_cells X3.out
      obtain ⟨d0, d1, d2, d3⟩ := box_cells Y3.out
      have P0 := cell_regrown p0
      have P1 := cell_regrown p1
      have P2 := cell_regrown p2
      have P3 := cell_regrown p3
      have Q0 := cell_regrown q0
      have Q1 := cell_regrown q1
      have Q2 := cell_regrown q2
      have Q3 := cell_regrown q3
      have C0 := cell_regrown c0
      have C1 := cell_regrown c1
      have C2 := cell_regrown c2
      have C3 := cell_regrown c3
      have D0 := cell_regrown d0
      have D1 := cell_regrown d1
      have D2 := cell_regrown d2
      have D3 := cell_regrown d3
      clear p0 p1 p2 p3 q0 q1 q2 q3 c0 c1 c2 c3 d0 d1 d2 d3 ho hg hg'
      by_cases hs0 : sameB x.1.kind x.1.num x.1.text k1 n1 t1 = true
      · have cX : Hid (∀ d os, Calls Tryd.prog 136 #[.agg #[.int .i64 x.1.kind, .int .i64 x.1.num, .string x.1.text, .int .i64 x.2], .agg #[.int .i64 k1, .int .i64 n1, .string t1, .int .i64 a1]] (Go.Sort.grow (redrawn w3 d) os) fun e w'' => e = .returned (.bool true) ∧ ∃ p : Regrown, w'' = Go.Sort.grow (redrawn w3 p.d) p.os) := fun d os => Calls.regrown_of (by have := sameWord_any x.1.kind x.1.num x.2 k1 n1 a1 x.1.text t1 (Go.Sort.grow (redrawn w3 d) os); rw [hs0] at this; exact this)
        have cY : Hid (∀ d os, Calls Tryd.prog 136 #[.agg #[.int .i64 y.1.kind, .int .i64 y.1.num, .string y.1.text, .int .i64 y.2], .agg #[.int .i64 k2, .int .i64 n2, .string t2, .int .i64 a2]] (Go.Sort.grow (redrawn w3 d) os) fun e w'' => e = .returned (.bool (sameB y.1.kind y.1.num y.1.text k2 n2 t2)) ∧ ∃ p : Regrown, w'' = Go.Sort.grow (redrawn w3 p.d) p.os) := fun d os => Calls.regrown_of (sameWord_any y.1.kind y.1.num y.2 k2 n2 a2 y.1.text t2 (Go.Sort.grow (redrawn w3 d) os))
        go_wp2_with fail
        refine wp_region_quiet_below (by kernel_rfl) (by kernel_rfl) ?_
        repeat (go_big_quiet_step (first | (go_at_call_of 136 (x.1.kind); exact cX.out _ _) | (go_at_call_of 136 (y.1.kind); exact cY.out _ _)))
        refine wpQuiet_nil ?_
        intro _ hw'
        obtain ⟨⟨dq, osq⟩, hw''⟩ := hw'
        subst hw''
        go_wp2_with fail
        go_ret
        exact ⟨ret_bool (by rw [HN2.out, hs0]; rfl), hB3.trans ((below_regrown w3 dq osq).mono hB3.size)⟩
      · rw [Bool.not_eq_true] at hs0
        have cX : Hid (∀ d os, Calls Tryd.prog 136 #[.agg #[.int .i64 x.1.kind, .int .i64 x.1.num, .string x.1.text, .int .i64 x.2], .agg #[.int .i64 k1, .int .i64 n1, .string t1, .int .i64 a1]] (Go.Sort.grow (redrawn w3 d) os) fun e w'' => e = .returned (.bool false) ∧ ∃ p : Regrown, w'' = Go.Sort.grow (redrawn w3 p.d) p.os) := fun d os => Calls.regrown_of (by have := sameWord_any x.1.kind x.1.num x.2 k1 n1 a1 x.1.text t1 (Go.Sort.grow (redrawn w3 d) os); rw [hs0] at this; exact this)
        go_wp2_with fail
        refine wp_region_quiet_below (by kernel_rfl) (by kernel_rfl) ?_
        repeat (go_big_quiet_step ((go_at_call_of 136 (x.1.kind); exact cX.out _ _)))
        refine wpQuiet_nil ?_
        intro _ hw'
        obtain ⟨⟨dq, osq⟩, hw''⟩ := hw'
        subst hw''
        go_wp2_with fail
        go_ret
        exact ⟨ret_bool (by rw [HN2.out, hs0]; rfl), hB3.trans ((below_regrown w3 dq osq).mono hB3.size)⟩
    · have hl' : ((l.length : Int) != 2) = true := by simp; omega
      go_wp2_with fail
      go_quiet (fail)
      go_wp2_with fail
      go_ret
      exact ⟨ret_bool (by rw [HNB.out, need_len hl]), below_drewN hB3 _⟩
end Go.Proofs.YtjffignbiabmaaaDoor.W

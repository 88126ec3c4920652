/-
  The specification's reader of patterns: a row is read as a tree that lies in new memory. Conditions: good data, at most 1048576 cells. Written by wip/build/mk_pard.py.
-/
import Derived.Test.YtmlpnmdckgppnaaPaR9
namespace Go.Proofs.Ytmlpnmdckgppnaa.W
open Go.ChangeShapes Go.WideShapes Go.ChangeAt Go.RowKit
set_option linter.unusedVariables false

set_option maxRecDepth 20000 in
set_option maxHeartbeats 4000000 in
theorem l8ReadPat_any (vd : Value) (D : List Int) (ad : Option Addr) (c : Nat) (l : List Pt) (at_ : Nat) (w : World) (hl : l.length ≤ 1048576) (hD : DRow w vd D) (hR : PtRow w ad l) (hlt : at_ < l.length) (hk : l[at_].kd = 1) : RdGoal 34 vd D (.slice ad l.length c) l at_ w := by
  unfold RdGoal
  have HR := hide hR
  have HD := hide hD
  clear hR
  have hlt' : (at_ : Int) < (l.length : Int) := by omega
  have hnle : ¬ (l.length : Int) ≤ (at_ : Int) := by omega
  have hat0 : (0 : Int) ≤ (at_ : Int) := by omega
  obtain ⟨da, dc, rfl, hDi, hDl⟩ := hD
  obtain ⟨b, o, rfl, hb, p0, p1⟩ := PtRow.tok HR.out (Below.refl _ _) hlt
  have hdr : l.drop at_ = l[at_] :: l.drop (at_ + 1) := List.drop_eq_getElem_cons hlt
  obtain ⟨x, hx⟩ : ∃ x, x = l[at_] := ⟨_, rfl⟩
  rw [← hx] at p0 p1 hdr hk
  rw [hdr]
  have HAt := hide (show (l.length - (l.drop (at_ + 1)).length : Nat) = at_ + 1 by rw [List.length_drop]; omega)
  clear hx hdr
  obtain ⟨xk, xn⟩ := x
  simp only at hk p0 p1
  subst hk
  by_cases h0 : xn = 0
  · subst h0
    rw [rt_1v (by simp [goodC]) (by simp [ar])]
    go_enter Try.func34, Try.ntmps34
    go_upto_region 1 with fail
    have HB0 := hide (show Below w.heap.size w ((w.alloc (.cells #[.slice da D.length dc] 31)).alloc (.cells #[.int .i64 0, .slice none 0 0] 50)) from ((Below.refl _ _).alloc (Nat.le_refl _) _).alloc (by simp) _)
    have X0 := (Bx.new w #[.slice da D.length dc] 31).alloc (.cells #[.int .i64 0, .slice none 0 0] 50)
    have X1 := Bx.new (w.alloc (.cells #[.slice da D.length dc] 31)) #[.int .i64 0, .slice none 0 0] 50
    have hS0 : ((w.alloc (.cells #[.slice da D.length dc] 31)).alloc (.cells #[.int .i64 0, .slice none 0 0] 50)).heap.size = w.heap.size + 2 := by simp
    rw [show (w.alloc (.cells #[.slice da D.length dc] 31)).heap.size = w.heap.size + 1 by simp] at X1
    obtain ⟨w0, hw0⟩ : ∃ w0, w0 = ((w.alloc (.cells #[.slice da D.length dc] 31)).alloc (.cells #[.int .i64 0, .slice none 0 0] 50)) := ⟨_, rfl⟩
    rw [← hw0] at HB0 X0 X1 hS0 ⊢
    have HX0 := hide X0
    have HX1 := hide X1
    have HS0 := hide hS0
    have hS1 : w.heap.size + 1 < w0.heap.size := by omega
    clear hw0 X0 X1 hS0
    have q0 : w0.cell? ⟨b, o + at_ * 2, none⟩ = some (.int .i64 1) := (HB0.out.cell (p := ⟨b, o + at_ * 2, none⟩) hb).trans p0
    have q1 : w0.cell? ⟨b, o + at_ * 2 + 1, none⟩ = some (.int .i64 0) := (HB0.out.cell (p := ⟨b, o + at_ * 2 + 1, none⟩) hb).trans p1
    have cxx : w0.cell? ⟨w.heap.size, 0, none⟩ = some (.slice da D.length dc) := HX0.out.c 0
    have hxx : (w0.alloc (.cells #[.int .i64 1, .int .i64 0] 75)).heap.size = w.heap.size + 3 := by have := HS0.out; simp [this]
    have zc : ∀ i, w0.cell? ⟨w.heap.size + 1, i, none⟩ = #[.int .i64 0, .slice none 0 0][i]? := HX1.out.c
    have zf : ∀ i, w0.frozen? ⟨w.heap.size + 1, i, none⟩ = false := HX1.out.f
    have hS2 : w.heap.size < w0.heap.size := by omega
    have HBs : Hid (∀ (u v : Value) (X : Obj), Below w.heap.size w (((w0.setCell ⟨w.heap.size + 1, 0, none⟩ u).setCell ⟨w.heap.size + 1, 1, none⟩ v).alloc X)) := hide (fun u v X => ((HB0.out.setCell (p := ⟨w.heap.size + 1, 0, none⟩) (by simp) _).setCell (p := ⟨w.heap.size + 1, 1, none⟩) (by simp) _).alloc (by simp [World.setCell]; omega) _)
    have HBx := hide (show Below w.heap.size w (w0.alloc (.cells #[.int .i64 1, .int .i64 0] 75)) from HB0.out.alloc HB0.out.size _)
    have Hxx := hide hxx
    clear p0 p1 hxx
    go_wp2_with fail
    refine bodyPost_ret (v := .tuple #[.agg #[.int .i64 (-1), .slice none 0 0], .int .i64 ((at_ : Int) + 1)]) (by simp [results, Try.results34, go_sem, *]) rfl ⟨HBs.out _ _ _, ⟨1, 0⟩, .nil, _, rfl, ?_, KidT.nil⟩
    rw [HAt.out]
    rfl
  · have hbd : goodC D ⟨1, xn⟩ = false := by simp [goodC, h0]
    rw [rt_bad hbd]
    clear hbd
    have h0b : (xn == 0) = false := by simp [h0]
    go_enter Try.func34, Try.ntmps34
    go_upto_region 1 with fail
    have HB0 := hide (show Below w.heap.size w ((w.alloc (.cells #[.slice da D.length dc] 31)).alloc (.cells #[.int .i64 0, .slice none 0 0] 50)) from ((Below.refl _ _).alloc (Nat.le_refl _) _).alloc (by simp) _)
    have X0 := (Bx.new w #[.slice da D.length dc] 31).alloc (.cells #[.int .i64 0, .slice none 0 0] 50)
    have X1 := Bx.new (w.alloc (.cells #[.slice da D.length dc] 31)) #[.int .i64 0, .slice none 0 0] 50
    have hS0 : ((w.alloc (.cells #[.slice da D.length dc] 31)).alloc (.cells #[.int .i64 0, .slice none 0 0] 50)).heap.size = w.heap.size + 2 := by simp
    rw [show (w.alloc (.cells #[.slice da D.length dc] 31)).heap.size = w.heap.size + 1 by simp] at X1
    obtain ⟨w0, hw0⟩ : ∃ w0, w0 = ((w.alloc (.cells #[.slice da D.length dc] 31)).alloc (.cells #[.int .i64 0, .slice none 0 0] 50)) := ⟨_, rfl⟩
    rw [← hw0] at HB0 X0 X1 hS0 ⊢
    have HX0 := hide X0
    have HX1 := hide X1
    have HS0 := hide hS0
    have hS1 : w.heap.size + 1 < w0.heap.size := by omega
    clear hw0 X0 X1 hS0
    have q0 : w0.cell? ⟨b, o + at_ * 2, none⟩ = some (.int .i64 1) := (HB0.out.cell (p := ⟨b, o + at_ * 2, none⟩) hb).trans p0
    have q1 : w0.cell? ⟨b, o + at_ * 2 + 1, none⟩ = some (.int .i64 xn) := (HB0.out.cell (p := ⟨b, o + at_ * 2 + 1, none⟩) hb).trans p1
    have cxx : w0.cell? ⟨w.heap.size, 0, none⟩ = some (.slice da D.length dc) := HX0.out.c 0
    have hxx : (w0.alloc (.cells #[.int .i64 1, .int .i64 xn] 75)).heap.size = w.heap.size + 3 := by have := HS0.out; simp [this]
    have zc : ∀ i, w0.cell? ⟨w.heap.size + 1, i, none⟩ = #[.int .i64 0, .slice none 0 0][i]? := HX1.out.c
    have zf : ∀ i, w0.frozen? ⟨w.heap.size + 1, i, none⟩ = false := HX1.out.f
    have hS2 : w.heap.size < w0.heap.size := by omega
    have HBs : Hid (∀ (u v : Value) (X : Obj), Below w.heap.size w (((w0.setCell ⟨w.heap.size + 1, 0, none⟩ u).setCell ⟨w.heap.size + 1, 1, none⟩ v).alloc X)) := hide (fun u v X => ((HB0.out.setCell (p := ⟨w.heap.size + 1, 0, none⟩) (by simp) _).setCell (p := ⟨w.heap.size + 1, 1, none⟩) (by simp) _).alloc (by simp [World.setCell]; omega) _)
    have HBx := hide (show Below w.heap.size w (w0.alloc (.cells #[.int .i64 1, .int .i64 xn] 75)) from HB0.out.alloc HB0.out.size _)
    have Hxx := hide hxx
    clear p0 p1 hxx
    go_wp2_with fail
    exact bodyPost_ret (v := .tuple #[.agg #[.int .i64 0, .slice none 0 0], .int .i64 0]) (by simp [results, Try.results34, go_sem, *]) rfl ⟨HBs.out _ _ _, rfl⟩

set_option maxRecDepth 20000 in
set_option maxHeartbeats 4000000 in
theorem l8ReadPat_bad (vd : Value) (D : List Int) (ad : Option Addr) (c : Nat) (l : List Pt) (at_ : Nat) (w : World) (hl : l.length ≤ 1048576) (hD : DRow w vd D) (hR : PtRow w ad l) (hlt : at_ < l.length) (hk : l[at_].kd ≠ 1 ∧ goodC D l[at_] = false) : RdGoal 34 vd D (.slice ad l.length c) l at_ w := by
  unfold RdGoal
  have HR := hide hR
  have HD := hide hD
  clear hR
  have hlt' : (at_ : Int) < (l.length : Int) := by omega
  have hnle : ¬ (l.length : Int) ≤ (at_ : Int) := by omega
  have hat0 : (0 : Int) ≤ (at_ : Int) := by omega
  obtain ⟨da, dc, rfl, hDi, hDl⟩ := hD
  obtain ⟨b, o, rfl, hb, p0, p1⟩ := PtRow.tok HR.out (Below.refl _ _) hlt
  have hdr : l.drop at_ = l[at_] :: l.drop (at_ + 1) := List.drop_eq_getElem_cons hlt
  obtain ⟨x, hx⟩ : ∃ x, x = l[at_] := ⟨_, rfl⟩
  rw [← hx] at p0 p1 hdr hk
  rw [hdr]
  have HAt := hide (show (l.length - (l.drop (at_ + 1)).length : Nat) = at_ + 1 by rw [List.length_drop]; omega)
  clear hx hdr
  obtain ⟨hk1, hbad⟩ := hk
  rw [rt_bad hbad]
  obtain ⟨xk, xn⟩ := x
  simp only [goodC, if_neg hk1] at hbad
  simp only at *
  go_enter Try.func34, Try.ntmps34
  go_upto_region 1 with fail
  have HB0 := hide (show Below w.heap.size w ((w.alloc (.cells #[.slice da D.length dc] 31)).alloc (.cells #[.int .i64 0, .slice none 0 0] 50)) from ((Below.refl _ _).alloc (Nat.le_refl _) _).alloc (by simp) _)
  have X0 := (Bx.new w #[.slice da D.length dc] 31).alloc (.cells #[.int .i64 0, .slice none 0 0] 50)
  have X1 := Bx.new (w.alloc (.cells #[.slice da D.length dc] 31)) #[.int .i64 0, .slice none 0 0] 50
  have hS0 : ((w.alloc (.cells #[.slice da D.length dc] 31)).alloc (.cells #[.int .i64 0, .slice none 0 0] 50)).heap.size = w.heap.size + 2 := by simp
  rw [show (w.alloc (.cells #[.slice da D.length dc] 31)).heap.size = w.heap.size + 1 by simp] at X1
  obtain ⟨w0, hw0⟩ : ∃ w0, w0 = ((w.alloc (.cells #[.slice da D.length dc] 31)).alloc (.cells #[.int .i64 0, .slice none 0 0] 50)) := ⟨_, rfl⟩
  rw [← hw0] at HB0 X0 X1 hS0 ⊢
  have HX0 := hide X0
  have HX1 := hide X1
  have HS0 := hide hS0
  have hS1 : w.heap.size + 1 < w0.heap.size := by omega
  clear hw0 X0 X1 hS0
  have q0 : w0.cell? ⟨b, o + at_ * 2, none⟩ = some (.int .i64 xk) := (HB0.out.cell (p := ⟨b, o + at_ * 2, none⟩) hb).trans p0
  have q1 : w0.cell? ⟨b, o + at_ * 2 + 1, none⟩ = some (.int .i64 xn) := (HB0.out.cell (p := ⟨b, o + at_ * 2 + 1, none⟩) hb).trans p1
  have cxx : w0.cell? ⟨w.heap.size, 0, none⟩ = some (.slice da D.length dc) := HX0.out.c 0
  have hxx : (w0.alloc (.cells #[.int .i64 xk, .int .i64 xn] 75)).heap.size = w.heap.size + 3 := by have := HS0.out; simp [this]
  have zc : ∀ i, w0.cell? ⟨w.heap.size + 1, i, none⟩ = #[.int .i64 0, .slice none 0 0][i]? := HX1.out.c
  have zf : ∀ i, w0.frozen? ⟨w.heap.size + 1, i, none⟩ = false := HX1.out.f
  have hS2 : w.heap.size < w0.heap.size := by omega
  have HBs : Hid (∀ (u v : Value) (X : Obj), Below w.heap.size w (((w0.setCell ⟨w.heap.size + 1, 0, none⟩ u).setCell ⟨w.heap.size + 1, 1, none⟩ v).alloc X)) := hide (fun u v X => ((HB0.out.setCell (p := ⟨w.heap.size + 1, 0, none⟩) (by simp) _).setCell (p := ⟨w.heap.size + 1, 1, none⟩) (by simp) _).alloc (by simp [World.setCell]; omega) _)
  have HBx := hide (show Below w.heap.size w (w0.alloc (.cells #[.int .i64 xk, .int .i64 xn] 75)) from HB0.out.alloc HB0.out.size _)
  have Hxx := hide hxx
  clear p0 p1 hxx
  by_cases h2 : xk = 2
  · subst h2
    by_cases hn : xn < 0
    · clear hbad
      go_wp2_with fail
      exact bodyPost_ret (v := .tuple #[.agg #[.int .i64 0, .slice none 0 0], .int .i64 0]) (by simp [results, Try.results34, go_sem, *]) rfl ⟨HBs.out _ _ _, rfl⟩
    · have hge : (D.length : Int) ≤ xn := by
        have h1 : ¬ xn < (D.length : Int) := by
          intro h
          rw [decide_eq_true (by omega : 0 ≤ xn), decide_eq_true h] at hbad
          simp at hbad
        omega
      clear hbad
      go_wp2_with fail
      exact bodyPost_ret (v := .tuple #[.agg #[.int .i64 0, .slice none 0 0], .int .i64 0]) (by simp [results, Try.results34, go_sem, *]) rfl ⟨HBs.out _ _ _, rfl⟩
  · clear hbad
    have h1b : (xk == 1) = false := by simp [hk1]
    have h2b : (xk == 2) = false := by simp [h2]
    have h2c : (xk != 2) = true := by simp [h2]
    go_wp2_with fail
    exact bodyPost_ret (v := .tuple #[.agg #[.int .i64 0, .slice none 0 0], .int .i64 0]) (by simp [results, Try.results34, go_sem, *]) rfl ⟨HBs.out _ _ _, rfl⟩

end Go.Proofs.Ytmlpnmdckgppnaa.W

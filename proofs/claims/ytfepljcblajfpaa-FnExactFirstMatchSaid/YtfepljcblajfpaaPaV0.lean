/-
  The specification's reader of values: a row is read as a tree that lies in new memory. Conditions: good data, at most 1048576 cells. Written by wip/build/mk_pard.py.
-/
import Derived.Test.YtfepljcblajfpaaPaV9
namespace Go.Proofs.Ytfepljcblajfpaa.W
open Go.ChangeShapes Go.WideShapes Go.ChangeAt Go.RowKit
set_option linter.unusedVariables false

set_option maxRecDepth 20000 in
set_option maxHeartbeats 4000000 in
theorem l8ReadVal_bad (vd : Value) (D : List Int) (ad : Option Addr) (c : Nat) (v : List Int) (l : List Pt) (hv : Hid (l = v.map oP)) (at_ : Nat) (w : World) (hl : v.length ≤ 1048576) (hD : DRow w vd D) (hR : IRow w ad v) (hlt : at_ < v.length) (hk : (oP v[at_]).kd ≠ 1 ∧ goodC D (oP v[at_]) = false) : RdGoal 68 vd D (.slice ad v.length c) l at_ w := by
  unfold RdGoal
  have HR := hide hR
  have HD := hide hD
  clear hR
  have hlt' : (at_ : Int) < (v.length : Int) := by omega
  have hnle : ¬ (v.length : Int) ≤ (at_ : Int) := by omega
  have hat0 : (0 : Int) ≤ (at_ : Int) := by omega
  obtain ⟨da, dc, rfl, hDi, hDl⟩ := hD
  obtain ⟨b, o, rfl, hb, p1⟩ := IRow.iat HR.out (Below.refl _ _) hlt
  have hln1 : l.length ≤ v.length := by rw [hv.out]; simp
  have hln2 : v.length ≤ l.length := by rw [hv.out]; simp
  have hltm : at_ < l.length := by omega
  have hdr : l.drop at_ = l[at_] :: l.drop (at_ + 1) := List.drop_eq_getElem_cons hltm
  have hlat : l[at_] = oP v[at_] := by
    have : l[at_]? = (v.map oP)[at_]? := by rw [hv.out]
    rw [List.getElem?_eq_getElem hltm, List.getElem?_eq_getElem (by simpa using hlt), List.getElem_map] at this
    exact Option.some.inj this
  rw [hlat] at hdr
  obtain ⟨x, hx⟩ : ∃ x, x = oP v[at_] := ⟨_, rfl⟩
  have hxc : v[at_] = x.con := by rw [hx]; rfl
  have hkd : x.kd = 2 := by rw [hx]; rfl
  clear hlat
  rw [← hx] at hdr hk
  rw [hxc] at p1
  clear hxc
  rw [hdr]
  have HAt := hide (show (l.length - (l.drop (at_ + 1)).length : Nat) = at_ + 1 by rw [List.length_drop]; omega)
  clear hx hdr
  obtain ⟨hk1, hbad⟩ := hk
  rw [rt_bad hbad]
  obtain ⟨xk, xn⟩ := x
  simp only [goodC, if_neg hk1] at hbad
  simp only at *
  go_enter Try.func68, Try.ntmps68
  go_upto_region 1 with fail
  have HB0 := hide (show Below w.heap.size w ((w.alloc (.cells #[.slice da D.length dc] 27)).alloc (.cells #[.int .i64 0, .slice none 0 0] 71)) from ((Below.refl _ _).alloc (Nat.le_refl _) _).alloc (by simp) _)
  have X0 := (Bx.new w #[.slice da D.length dc] 27).alloc (.cells #[.int .i64 0, .slice none 0 0] 71)
  have X1 := Bx.new (w.alloc (.cells #[.slice da D.length dc] 27)) #[.int .i64 0, .slice none 0 0] 71
  have hS0 : ((w.alloc (.cells #[.slice da D.length dc] 27)).alloc (.cells #[.int .i64 0, .slice none 0 0] 71)).heap.size = w.heap.size + 2 := by simp
  rw [show (w.alloc (.cells #[.slice da D.length dc] 27)).heap.size = w.heap.size + 1 by simp] at X1
  obtain ⟨w0, hw0⟩ : ∃ w0, w0 = ((w.alloc (.cells #[.slice da D.length dc] 27)).alloc (.cells #[.int .i64 0, .slice none 0 0] 71)) := ⟨_, rfl⟩
  rw [← hw0] at HB0 X0 X1 hS0 ⊢
  have HX0 := hide X0
  have HX1 := hide X1
  have HS0 := hide hS0
  have hS1 : w.heap.size + 1 < w0.heap.size := by omega
  clear hw0 X0 X1 hS0
  have q1 : w0.cell? ⟨b, o + at_, none⟩ = some (.int .i64 xn) := (HB0.out.cell (p := ⟨b, o + at_, none⟩) hb).trans p1
  have cxx : w0.cell? ⟨w.heap.size, 0, none⟩ = some (.slice da D.length dc) := HX0.out.c 0
  have zc : ∀ i, w0.cell? ⟨w.heap.size + 1, i, none⟩ = #[.int .i64 0, .slice none 0 0][i]? := HX1.out.c
  have zf : ∀ i, w0.frozen? ⟨w.heap.size + 1, i, none⟩ = false := HX1.out.f
  have hS2 : w.heap.size < w0.heap.size := by omega
  clear p1
  subst hkd
  have hq1 : decide (v.length ≤ at_) = false := decide_eq_false (by omega)
  have hq4 : decide ((v.length : Int) ≤ (at_ : Int)) = false := decide_eq_false (by omega)
  by_cases hn : xn < 0
  · clear hbad
    have hq2 : decide (xn < 0) = true := decide_eq_true hn
    go_wp2_with fail
    go_quiet (fail)
    go_wp2_with fail
    exact bodyPost_ret (v := .tuple #[.agg #[.int .i64 0, .slice none 0 0], .int .i64 0]) (by simp [results, Try.results68, go_sem, *]) rfl ⟨((belowN8 HB0.out _).setCell (p := ⟨w.heap.size + 1, 0, none⟩) (by simp) _).setCell (p := ⟨w.heap.size + 1, 1, none⟩) (by simp) _, rfl⟩
  · have hge : (D.length : Int) ≤ xn := by
      have h1 : ¬ xn < (D.length : Int) := by
        intro h
        rw [decide_eq_true (by omega : 0 ≤ xn), decide_eq_true h] at hbad
        simp at hbad
      omega
    have hq2 : decide (xn < 0) = false := decide_eq_false hn
    have hq5 : decide ((D.length : Int) ≤ xn) = true := decide_eq_true hge
    clear hbad
    go_wp2_with fail
    go_quiet (fail)
    go_wp2_with fail
    exact bodyPost_ret (v := .tuple #[.agg #[.int .i64 0, .slice none 0 0], .int .i64 0]) (by simp [results, Try.results68, go_sem, *]) rfl ⟨((belowN8 HB0.out _).setCell (p := ⟨w.heap.size + 1, 0, none⟩) (by simp) _).setCell (p := ⟨w.heap.size + 1, 1, none⟩) (by simp) _, rfl⟩

end Go.Proofs.Ytfepljcblajfpaa.W

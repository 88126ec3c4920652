/-
  Sizes of flows, with bounds on what is left. Conditions: none but those that each theorem states. Written by wip/build/mk_lvwb.py.
-/
import Derived.Test.YtaniiolphghhiaaLvW
namespace Go.Proofs.Ytaniiolphghhiaa.W
open Go.ChangeShapes Go.WideShapes Go.ChangeAt Go.RowKit Go.Joins
set_option linter.unusedVariables false

set_option maxHeartbeats 2000000 in
theorem szBlockS_b (ad : Option Addr) (c n : Nat) (F : List (List Int)) (m : Int) (w' : World) {w : World} (hn : FFit n F) (hF : F.length = 2 * n) (h : QRow w ad F) (hb : Below w.heap.size w w') (hm0 : 0 ≤ m) (hm1 : m ≤ 1048576) :
    Calls Try.prog 33 #[.slice ad n c, .int .i64 m] w' fun e w'' => ∃ r : Int, e = .returned (.int .i64 r) ∧ (r < 0 ∨ 0 ≤ r ∧ r ≤ 1048576 ∧ FSm n F) ∧ Below w'.heap.size w' w'' := by
  have hl2 : (n : Int) ≤ 9223372036854775807 := by have := hn.1; unfold maxLen at this; omega
  have HR := hide h
  have HS := hide (fun k => row_sm (m := maxLen) hn.2 k)
  have hB := hb
  have HF := hide hF
  clear h hn hb hF
  by_cases hbig : m < (n : Int)
  · go_enter Try.func33, Try.ntmps33
    go_wp2_with fail
    go_ret
    exact ⟨_, rfl, .inl (by omega), Below.refl _ _⟩
  · have hln : n ≤ 1048576 := by omega
    have hge : ¬ m - (n : Int) < 0 := by omega
    clear hl2
    go_enter Try.func33, Try.ntmps33
    go_wp2_with fail
    go_loopw [1, 5] (fun v1 i w1 => ∃ (j : Nat) (q : Int), j ≤ n ∧ i = .int .i64 j ∧ v1 = .int .i64 q ∧ 0 ≤ q ∧ q ≤ 1048576 ∧ (∀ k, k < j → (fu F k).length ≤ 1048576 ∧ (fs F k).length ≤ 1048576) ∧ Below w'.heap.size w' w1) (fun _ i _ => n - (intOf i).toNat)
    case atStart => exact ⟨0, m - (n : Int), by omega, rfl, rfl, by omega, by omega, by intros; omega, Below.refl _ _⟩
    case round =>
      obtain ⟨j, q, hj, rfl, rfl, hq0, hq1, hall, hBw⟩ := hrel
      have HA := hide hall
      clear hall
      have HBw := hide hBw
      by_cases hlt : j < n
      · have hlt' : (j : Int) < (n : Int) := by omega
        obtain ⟨b, o, a0, c0, a1, c1, rfl, hb, p0, p1, -, -, -, -⟩ := QRow.two HR.out (hB.trans (hBw.mono hB.size)) HF.out hlt
        have s0 : (fu F j).length ≤ maxLen := HS.out (2 * j)
        have s1 : (fs F j).length ≤ maxLen := HS.out (2 * j + 1)
        obtain ⟨x0, hx0⟩ : ∃ x, x = (fu F j).length := ⟨_, rfl⟩
        obtain ⟨x1, hx1⟩ : ∃ x, x = (fs F j).length := ⟨_, rfl⟩
        rw [← hx0] at p0 s0
        rw [← hx1] at p1 s1
        have HX0 := hide hx0
        have HX1 := hide hx1
        clear hx0 hx1 hBw
        go_wp2_with fail
        refine Calls.mono (szBlock_any a0 c0 x0 a1 c1 x1 q _ s0 s1 hq0 hq1) ?_
        rintro e w2 ⟨r, rfl, hr, hw⟩
        have hB2 := HBw.out.trans (hw.mono HBw.out.size)
        clear p0 p1 hw
        by_cases hneg : r < 0
        · clear hr
          go_wp2_with fail
          go_ret
          exact ⟨_, rfl, .inl (by omega), hB2⟩
        · obtain ⟨r0, r1, rx, ry⟩ := hr.resolve_left hneg
          clear hr
          go_wp2_with fail
          refine ⟨⟨j + 1, r, by omega, by go_num, rfl, by omega, by omega, fun k hkj => ?_, hB2⟩, by simp [intOf]; omega⟩
          by_cases e : k = j
          · subst e; exact ⟨by rw [← HX0.out]; exact rx, by rw [← HX1.out]; exact ry⟩
          · exact HA.out k (by omega)
      · obtain rfl : j = n := by omega
        go_wp2_with fail
        go_ret
        refine ⟨_, rfl, .inr ⟨hq0, hq1, hln, fun l hl => ?_⟩, HBw.out⟩
        obtain ⟨k, hk, rfl⟩ := List.getElem_of_mem hl
        have hF := HF.out
        rcases Nat.mod_two_eq_zero_or_one k with e | e
        · have := (HA.out (k / 2) (by omega)).1
          unfold fu at this
          rw [show 2 * (k / 2) = k by omega, row_at hk] at this
          exact this
        · have := (HA.out (k / 2) (by omega)).2
          unfold fs at this
          rw [show 2 * (k / 2) + 1 = k by omega, row_at hk] at this
          exact this

set_option maxHeartbeats 1000000 in
theorem szFlow_b (ad : Option Addr) (c : Nat) (D : List (List Int)) (bd : Option Addr) (bc n : Nat) (F : List (List Int)) (m : Int) {w : World} (hn : QFit D) (h : QRow w ad D) (hnF : FFit n F) (hF : F.length = 2 * n) (hR : QRow w bd F) (h0 : 0 ≤ m) (h1 : m ≤ 1048576) (w0 : World) (hb : Below w.heap.size w w0) :
    Calls Try.prog 9 #[.agg #[.slice ad D.length c, .slice bd n bc], .int .i64 m] w0 fun e w' => ∃ r : Int, e = .returned (.int .i64 r) ∧ (r < 0 ∨ 0 ≤ r ∧ r ≤ 1048576 ∧ QSm D ∧ FSm n F) ∧ Below w0.heap.size w0 w' := by
  have HC := hide (fun w' hb => szGraphR_any ad c D m hn h h0 h1 w' hb)
  have HD := hide (fun (q : Int) w' (hq0 : 0 ≤ q) (hq1 : q ≤ 1048576) hb => szBlockS_b bd bc n F q w' hnF hF hR hb hq0 hq1)
  have hB : Below w0.heap.size w0 (w0.alloc (.cells #[.slice ad D.length c, .slice bd n bc] 27)) := (Below.refl _ _).alloc (Nat.le_refl _) _
  have HX := hide (Bx.new w0 #[.slice ad D.length c, .slice bd n bc] 27)
  have hB2 := hb.trans (hB.mono hb.size)
  clear hn h h0 h1 hnF hF hR
  obtain ⟨W1, hW1⟩ : ∃ W1, W1 = w0.alloc (.cells #[.slice ad D.length c, .slice bd n bc] 27) := ⟨_, rfl⟩
  obtain ⟨X, hX⟩ : ∃ X, X = w0.heap.size := ⟨_, rfl⟩
  go_enter Try.func9, Try.ntmps9
  go_upto_region 1 with fail
  rw [← hW1] at HX hB hB2 ⊢
  rw [← hX] at HX ⊢
  clear hW1
  have hX0 := hide hX
  clear hX
  have cX := HX.out.c
  go_wp2_with fail
  refine Calls.mono (HC.out _ hB2) ?_
  rintro e w1 ⟨r, rfl, hr, hw⟩
  have hB3 := hB.trans (hw.mono hB.size)
  have hB4 := hB2.trans (hw.mono hB2.size)
  clear cX
  have cX := (HX.out.below hw HX.out.lt).c
  clear hw hB hB2 HC
  by_cases hneg : r < 0
  · clear hr
    go_wp2_with fail
    go_ret
    exact ⟨_, rfl, .inl (by omega), hB3⟩
  obtain ⟨r0, r1, hr'⟩ := hr.resolve_left hneg
  clear hr
  go_wp2_with fail
  refine Calls.mono (HD.out r _ r0 r1 hB4) ?_
  rintro e w2 ⟨q, rfl, hq, hw⟩
  have hB5 := hB3.trans (hw.mono hB3.size)
  clear hw hB3 hB4 HD cX
  by_cases hneg2 : q < 0
  · clear hq
    go_wp2_with fail
    go_ret
    exact ⟨_, rfl, .inl (by omega), hB5⟩
  obtain ⟨t0, t1, hq'⟩ := hq.resolve_left hneg2
  clear hq
  go_wp2_with fail
  go_ret
  exact ⟨_, rfl, .inr ⟨t0, t1, hr', hq'⟩, hB5⟩

end Go.Proofs.Ytaniiolphghhiaa.W

/-
  Flows in memory, further: copies, equal flows, marks, and a flow as a law's argument. Conditions: at most 1048576 blocks where they are copied.
-/
import Derived.Test.YtaniiolphghhiabLvF
namespace Go.Proofs.Ytaniiolphghhiab.W
open Go.ChangeShapes Go.WideShapes Go.ChangeAt Go.RowKit Go.Joins
set_option linter.unusedVariables false

theorem infoBlk : (Try.prog.info? 64).map (fun i => (i.zero, i.size, i.bytes)) = some (some (.agg #[.slice none 0 0, .slice none 0 0]), 2, 48) := by kernel_rfl
theorem mk_BlkS (n : Nat) (hn : n ≤ 1048576) (w : World) :
    (Instr.makeSlice 32 (.int .i64 (n : Int)) (.int .i64 (n : Int))).run Try.prog w = .ok (.slice (some ⟨w.heap.size, 0, none⟩) n n) (w.alloc (.cells (madeCells #[.slice none 0 0, .slice none 0 0] (n * 2)) 64)) := by
  obtain ⟨i, hi, hzz⟩ := Option.map_eq_some_iff.1 infoBlk
  simp only [Prod.mk.injEq] at hzz
  obtain ⟨hz, hs, hb⟩ := hzz
  have := run_make (P := Try.prog) w 32 64 i _ Try.underlying32 hi hz .i64 .i64 n n (by omega) (Int.le_refl _) (by rw [hb]; omega) (by omega)
  rw [hs, show (Value.agg #[.slice none 0 0, .slice none 0 0]).cells = #[.slice none 0 0, .slice none 0 0] from by simp [Value.cells]] at this
  simpa using this
abbrev FBk := QBT 64

set_option maxHeartbeats 4000000 in
theorem toBlockS_any (ad : Option Addr) (c n : Nat) (F : List (List Int)) (w : World) (hs : FSm n F) (hF : F.length = 2 * n) (h : QRow w ad F) :
    Calls Try.prog 19 #[.slice ad n c] w fun e w' => e = .returned (.slice (some ⟨w.heap.size, 0, none⟩) n n) ∧ FBk w' w.heap.size F ∧ Below w.heap.size w w' := by
  have HR := hide h
  have HS := hide (fun k => row_sm (m := 1048576) hs.2 k)
  have HF := hide hF
  have hl := hs.1
  clear h hs hF
  have hmk := mk_BlkS n hl
  obtain ⟨S, hS⟩ : ∃ S, S = w.heap.size := ⟨_, rfl⟩
  have HSe := hide hS
  go_enter Try.func19, Try.ntmps19
  go_wp2_with fail
  rw [← hS]
  clear hS
  go_loopw [4] (fun i w' => ∃ (j : Nat) (cur : Array Value), j ≤ n ∧ i = .int .i64 j ∧ w'.heap[S]? = some (.cells cur 64 (0, 0)) ∧ cur.size = 2 * n ∧ (∀ q, q < 2 * j → ∃ g, cur[q]? = some (.slice (some ⟨g, 0, none⟩) (row F q).length (row F q).length) ∧ S < g ∧ IBlk w' g (row F q)) ∧ Below S w w') (fun i _ => n - (intOf i).toNat)
  case atStart =>
    clear hmk
    refine ⟨0, madeCells #[.slice none 0 0, .slice none 0 0] (n * 2), by omega, rfl, ?_, by simp [madeCells]; omega, by intros; omega, ?_⟩
    · rw [HSe.out]; exact heap_alloc_new w _
    · rw [HSe.out]; exact (Below.refl _ _).alloc (Nat.le_refl _) _
  case round =>
    clear hmk
    obtain ⟨j, cur, hj, rfl, hh, hsz, hF, hB⟩ := hrel
    have HQ := hide hF
    have HH := hide hh
    have hSl : S < wr.heap.size := (Array.getElem?_eq_some_iff.1 hh).1
    clear hF hh
    by_cases hlt : j < n
    · have hlt' : (j : Int) < (n : Int) := by omega
      have hj0 : (0 : Int) ≤ (j : Int) := by omega
      obtain ⟨b, o, a0, c0, a1, c1, rfl, hb, p0, p1, r0, r1, -, -⟩ := QRow.two HR.out (by rw [← HSe.out]; exact hB) HF.out hlt
      have HC := hide (toBlock_any a0 c0 a1 c1 (fu F j) (fs F j) wr r0 r1 (HS.out _) (HS.out _))
      obtain ⟨x0, hx0⟩ : ∃ x, x = (fu F j).length := ⟨_, rfl⟩
      obtain ⟨x1, hx1⟩ : ∃ x, x = (fs F j).length := ⟨_, rfl⟩
      rw [← hx0] at p0 HC
      rw [← hx1] at p1 HC
      have HX0 := hide hx0
      have HX1 := hide hx1
      clear hx0 hx1 r0 r1
      go_wp2_with fail
      refine Calls.mono HC.out ?_
      rintro e w1 ⟨g0, g1, rfl, hg0, hg1, hI0, hI1, hb1⟩
      have hB1 : Below S w w1 := hB.trans (hb1.mono (by omega))
      have hh1 : w1.heap[S]? = some (.cells cur 64 (0, 0)) := (hb1.block _ hSl).trans HH.out
      have HF1 : Hid (∀ q, q < 2 * j → ∃ g, cur[q]? = some (.slice (some ⟨g, 0, none⟩) (row F q).length (row F q).length) ∧ S < g ∧ IBlk w1 g (row F q)) := hide (fun q hq => by
        obtain ⟨g, e1, e2, e3⟩ := HQ.out q hq
        exact ⟨g, e1, e2, e3.below hb1⟩)
      have HI0 := hide hI0
      have HI1 := hide hI1
      have hG0 : S < g0 := by omega
      have hG1 : S < g1 := by omega
      have fz : ∀ i, w1.frozen? ⟨S, i, none⟩ = false := fun i => unfrozen_of_blk hh1 i
      obtain ⟨y0, hy0⟩ : ∃ x, w1.cell? ⟨S, j * 2, none⟩ = some x := by
        rw [cell_of_blk hh1, Array.getElem?_eq_getElem (by omega)]; exact ⟨_, rfl⟩
      obtain ⟨y1, hy1⟩ : ∃ x, w1.cell? ⟨S, j * 2 + 1, none⟩ = some x := by
        rw [cell_of_blk hh1, Array.getElem?_eq_getElem (by omega)]; exact ⟨_, rfl⟩
      have HH1 := hide hh1
      clear hb1 hh1 hI0 hI1 HC p0 p1 HQ HH hg0 hg1
      go_wp2_with fail
      refine ⟨⟨j + 1, _, by omega, by go_num, blk_setCell (blk_setCell HH1.out _) _, by simp [hsz], fun q hq => ?_, (hB1.setCell (p := ⟨S, j * 2, none⟩) (Nat.le_refl _) _).setCell (p := ⟨S, j * 2 + 1, none⟩) (Nat.le_refl _) _⟩, by simp [intOf]; omega⟩
      simp only [Array.getElem?_setIfInBounds, Array.size_setIfInBounds]
      by_cases e1 : j * 2 + 1 = q
      · rw [if_pos e1, if_pos (by omega)]
        have e : row F q = fs F j := by rw [← e1]; unfold fs; rw [show j * 2 + 1 = 2 * j + 1 by omega]
        rw [e, ← HX1.out]
        exact ⟨_, rfl, hG1, RBlk.setne (RBlk.setne HI1.out _ _ _ (by omega)) _ _ _ (by omega)⟩
      · rw [if_neg e1]
        by_cases e0 : j * 2 = q
        · rw [if_pos e0, if_pos (by omega)]
          have e : row F q = fu F j := by rw [← e0]; unfold fu; rw [show j * 2 = 2 * j by omega]
          rw [e, ← HX0.out]
          exact ⟨_, rfl, hG0, RBlk.setne (RBlk.setne HI0.out _ _ _ (by omega)) _ _ _ (by omega)⟩
        · rw [if_neg e0]
          obtain ⟨g, e1, e2, e3⟩ := HF1.out q (by omega)
          exact ⟨g, e1, e2, RBlk.setne (RBlk.setne e3 _ _ _ (by omega)) _ _ _ (by omega)⟩
    · obtain rfl : j = n := by omega
      go_wp2_with fail
      go_ret
      rw [← HSe.out]
      refine ⟨rfl, ⟨cur, HH.out, by rw [HF.out]; exact hsz, fun q hq => ?_⟩, hB⟩
      obtain ⟨g, e1, e2, e3⟩ := HQ.out q (by rw [← HF.out]; exact hq)
      rw [row_at hq] at e1 e3
      exact ⟨g, e1, e2, e3⟩

/-- The graph's rows lie ahead of block b. -/
def FMg (w : World) (lo g b : Nat) (D : List (List Int)) : Prop := QM w lo b g D ∧ b < w.heap.size

set_option maxHeartbeats 1000000 in
theorem toFlow_any (v : Value) (D : List (List Int)) (n : Nat) (F : List (List Int)) (w : World) (h : FRow w v D n F) :
    Calls Try.prog 6 #[v] w fun e w' => ∃ g b, e = .returned (.agg #[.slice (some ⟨g, 0, none⟩) D.length D.length, .slice (some ⟨b, 0, none⟩) n n]) ∧ w.heap.size ≤ g ∧ w.heap.size ≤ b ∧ QBlk w' g D ∧ FBk w' b F ∧ Below w.heap.size w w' ∧ FMg w' w.heap.size g b D := by
  obtain ⟨ad, c, bd, bc, rfl, hR, hq, hlc, hRF, hsm, hbc, hF⟩ := h
  have HC0 := hide (fun w' hb => toGraph_any (.agg #[.slice ad D.length c]) D w' ⟨ad, c, rfl, QRow.below (w' := w') hR hb, hq, hlc⟩)
  have HC1 := hide (fun w' hb => toBlockS_any bd bc n F w' hsm hF (QRow.below (w' := w') hRF hb))
  clear hR hRF hq hsm hbc hF hlc
  obtain ⟨m0, hm0⟩ : ∃ m, m = D.length := ⟨_, rfl⟩
  rw [← hm0]
  rw [← hm0] at HC0
  clear hm0
  obtain ⟨W1, hW1⟩ : ∃ W1, W1 = ((w.alloc (.cells #[.slice ad m0 c, .slice bd n bc] 27)).alloc (.cells #[.slice none 0 0, .slice none 0 0] 34)).alloc (.cells #[.slice none 0 0, .slice none 0 0] 34) := ⟨_, rfl⟩
  have hB : Below w.heap.size w W1 := by rw [hW1]; exact (((Below.refl _ _).alloc (Nat.le_refl _) _).alloc (by simp) _).alloc (by simp; omega) _
  obtain ⟨X, hX⟩ : ∃ X, X = w.heap.size := ⟨_, rfl⟩
  have x0 : Bx W1 X #[.slice ad m0 c, .slice bd n bc] 27 := by rw [hW1, hX]; exact ((Bx.new w _ _).alloc _).alloc _
  have x1 : Bx W1 (X + 1) #[.slice none 0 0, .slice none 0 0] 34 := by rw [hW1, hX]; have := (Bx.new (w.alloc (.cells #[.slice ad m0 c, .slice bd n bc] 27)) #[.slice none 0 0, .slice none 0 0] 34).alloc (.cells #[.slice none 0 0, .slice none 0 0] 34); simpa using this
  have x2 : Bx W1 (X + 1 + 1) #[.slice none 0 0, .slice none 0 0] 34 := by rw [hW1, hX]; have := Bx.new ((w.alloc (.cells #[.slice ad m0 c, .slice bd n bc] 27)).alloc (.cells #[.slice none 0 0, .slice none 0 0] 34)) #[.slice none 0 0, .slice none 0 0] 34; simpa using this
  have X0 := hide x0
  have X1 := hide x1
  have X2 := hide x2
  clear x0 x1 x2
  go_enter Try.func6, Try.ntmps6
  go_upto_region 2 with fail
  rw [← hW1]
  rw [← hX]
  clear hW1
  have hXw : w.heap.size ≤ X := by omega
  clear hX
  have k0 := X0.out.c
  have k1 := X2.out.c
  have f1 := X2.out.f
  go_wp2_with fail
  refine Calls.mono (HC0.out _ hB) ?_
  rintro e w1 ⟨S0, rfl, hS0, hI0, hb⟩
  have hS0' : X + 1 + 1 < S0 := Nat.lt_of_lt_of_le X2.out.lt hS0
  have hB1 := hB.trans (hb.mono hB.size)
  have Y0 := hide (X0.out.below hb X0.out.lt)
  have Y1 := hide (X1.out.below hb X1.out.lt)
  have Y2 := hide (X2.out.below hb X2.out.lt)
  have HI0 := hide hI0
  have hS0w : S0 < w1.heap.size := by obtain ⟨cur, hh, -⟩ := hI0; exact (Array.getElem?_eq_some_iff.1 hh).1
  have HM0 := hide (hI0.qm (lo := w.heap.size) (by omega))
  clear hb hB HC0 X0 X1 X2 hI0 k0 k1 f1 hS0
  have k0 := Y0.out.c
  have k1 := Y2.out.c
  have f1 := Y2.out.f
  go_upto_region 3 with fail
  obtain ⟨w2, hw2⟩ : ∃ w2, w2 = w1.setCell ⟨X + 1 + 1, 0, none⟩ (.slice (some ⟨S0, 0, none⟩) m0 m0) := ⟨_, rfl⟩
  rw [← hw2]
  have Z0 := hide (Y0.out.setne (X + 1 + 1) 0 (.slice (some ⟨S0, 0, none⟩) m0 m0) (by omega))
  have Z1 := hide (Y1.out.setne (X + 1 + 1) 0 (.slice (some ⟨S0, 0, none⟩) m0 m0) (by omega))
  have Z2 := hide (Y2.out.set 0 (.slice (some ⟨S0, 0, none⟩) m0 m0))
  have ZI0 := hide (QBlk.setne HI0.out (X + 1 + 1) 0 (.slice (some ⟨S0, 0, none⟩) m0 m0) (by omega))
  have hB2 := hB1.setCell (p := ⟨X + 1 + 1, 0, none⟩) (by show w.heap.size ≤ X + 1 + 1; omega) (.slice (some ⟨S0, 0, none⟩) m0 m0)
  have hs2 : w2.heap.size = w1.heap.size := by rw [hw2]; simp
  have HM2 := hide (HM0.out.keep (w' := w1.setCell ⟨X + 1 + 1, 0, none⟩ (.slice (some ⟨S0, 0, none⟩) m0 m0)) (fun k hk _ => Below.heap_setCell _ _ _ _ (by show k ≠ X + 1 + 1; omega)))
  rw [← hw2, ← hs2] at HM2
  clear HM0
  rw [← hw2] at Z0 Z1 Z2 ZI0 hB2
  clear hw2 Y0 Y1 Y2 HI0 hB1 k0 k1 f1
  have k0 := Z0.out.c
  have k1 := Z2.out.c
  have f1 := Z2.out.f
  have HS2 := hide hs2
  clear hs2
  go_wp2_with fail
  refine Calls.mono (HC1.out _ hB2) ?_
  rintro e w3 ⟨rfl, hI1, hb⟩
  obtain ⟨S1, hS1⟩ : ∃ S1, S1 = w2.heap.size := ⟨_, rfl⟩
  have HM3 := hide (HM2.out.below hb)
  rw [← hS1] at hI1 HM3 ⊢
  have hS1l : S1 < w3.heap.size := by obtain ⟨cur, hh, -⟩ := hI1; exact (Array.getElem?_eq_some_iff.1 hh).1
  clear HM2
  have hS1' : S0 < S1 := by rw [hS1, HS2.out]; exact hS0w
  clear hS1
  have hB3 := hB2.trans (hb.mono hB2.size)
  have Y1 := hide (Z1.out.below hb Z1.out.lt)
  have Y2 := hide (Z2.out.below hb Z2.out.lt)
  have HI0 := hide (QBlk.below ZI0.out hb)
  have HI1 := hide hI1
  clear hb HC1 Z0 Z1 Z2 hI1 k0 k1 f1 ZI0 HS2 hB2 hS0w
  have k1 := Y1.out.c
  have f1 := Y1.out.f
  have k2 := Y2.out.c
  have f2 := Y2.out.f
  go_wp2_with fail
  refine bodyPost_ret (v := .agg #[.slice (some ⟨S0, 0, none⟩) m0 m0, .slice (some ⟨S1, 0, none⟩) n n]) (by simp [results, Try.results6, go_sem, *]) rfl ⟨S0, S1, rfl, by omega, by omega, ?_, ?_, ?_, ?_, ?_⟩
  · exact QBlk.setne (QBlk.setne (QBlk.setne HI0.out _ _ _ (by omega)) _ _ _ (by omega)) _ _ _ (by omega)
  · exact QBT.setne (QBT.setne (QBT.setne HI1.out _ _ _ (by omega)) _ _ _ (by omega)) _ _ _ (by omega)
  · exact ((hB3.setCell (by simp; omega) _).setCell (by simp; omega) _).setCell (by simp; omega) _
  · refine HM3.out.keep (fun k hk _ => ?_)
    rw [Below.heap_setCell _ _ _ _ (by show k ≠ X + 1; omega), Below.heap_setCell _ _ _ _ (by show k ≠ X + 1; omega)]
    first | rfl | exact Below.heap_setCell _ _ _ _ (by show k ≠ X + 1 + 1; omega)
  · simp; omega
theorem FRow.made {w : World} {g b n : Nat} {D F : List (List Int)} (hD : QBlk w g D) (hF : FBk w b F) (h1 : QSm D) (h2 : FSm n F) (h3 : F.length = 2 * n) : FRow w (.agg #[.slice (some ⟨g, 0, none⟩) D.length D.length, .slice (some ⟨b, 0, none⟩) n n]) D n F :=
  ⟨_, _, _, _, rfl, hD.row, h1, Nat.le_refl _, hF.row, h2, Nat.le_refl _, h3⟩

set_option maxHeartbeats 1000000 in
theorem eqBlock_any (a0 : Option Addr) (c0 : Nat) (a1 : Option Addr) (c1 : Nat) (b0 : Option Addr) (d0 : Nat) (b1 : Option Addr) (d1 : Nat) (u s : List Int) (w : World) (h0 : IRow w a0 u) (h1 : IRow w a1 s) (i0 : IRow w b0 u) (i1 : IRow w b1 s) (l0 : u.length ≤ 1048576) (l1 : s.length ≤ 1048576) :
    Calls Try.prog 53 #[.agg #[.slice a0 u.length c0, .slice a1 s.length c1], .agg #[.slice b0 u.length d0, .slice b1 s.length d1]] w fun e w' => e = .returned (.bool true) ∧ Below w.heap.size w w' := by
  have HC0 := hide (fun w' (hb : Below w.heap.size w w') => eqIntS_row a0 b0 c0 d0 u w' l0 (RRow.below h0 hb) (RRow.below i0 hb))
  have HC1 := hide (fun w' (hb : Below w.heap.size w w') => eqIntS_row a1 b1 c1 d1 s w' l1 (RRow.below h1 hb) (RRow.below i1 hb))
  clear h0 h1 i0 i1 l0 l1
  obtain ⟨m0, hm0⟩ : ∃ m, m = u.length := ⟨_, rfl⟩
  obtain ⟨m1, hm1⟩ : ∃ m, m = s.length := ⟨_, rfl⟩
  rw [← hm0, ← hm1]
  rw [← hm0] at HC0
  rw [← hm1] at HC1
  clear hm0 hm1
  obtain ⟨W1, hW1⟩ : ∃ W1, W1 = (w.alloc (.cells #[.slice a0 m0 c0, .slice a1 m1 c1] 64)).alloc (.cells #[.slice b0 m0 d0, .slice b1 m1 d1] 64) := ⟨_, rfl⟩
  have hB : Below w.heap.size w W1 := by rw [hW1]; exact ((Below.refl _ _).alloc (Nat.le_refl _) _).alloc (by simp) _
  obtain ⟨X, hX⟩ : ∃ X, X = w.heap.size := ⟨_, rfl⟩
  have X0 := hide (show Bx W1 X #[.slice a0 m0 c0, .slice a1 m1 c1] 64 by rw [hW1, hX]; exact (Bx.new w _ _).alloc _)
  have X1 := hide (show Bx W1 (X + 1) #[.slice b0 m0 d0, .slice b1 m1 d1] 64 by rw [hW1, hX]; have := Bx.new (w.alloc (.cells #[.slice a0 m0 c0, .slice a1 m1 c1] 64)) #[.slice b0 m0 d0, .slice b1 m1 d1] 64; simpa using this)
  go_enter Try.func53, Try.ntmps53
  go_upto_region 1 with fail
  rw [← hW1]
  rw [← hX]
  clear hW1 hX
  have k0 := X0.out.c
  have k1 := X1.out.c
  go_wp2_with fail
  refine Calls.mono (HC0.out _ hB) ?_
  rintro e w1 ⟨rfl, hb⟩
  have hB1 := hB.trans (hb.mono hB.size)
  have Y0 := hide (X0.out.below hb X0.out.lt)
  have Y1 := hide (X1.out.below hb X1.out.lt)
  clear hb hB X0 X1 k0 k1
  have k0 := Y0.out.c
  have k1 := Y1.out.c
  go_wp2_with fail
  refine Calls.mono (HC1.out _ hB1) ?_
  rintro e w2 ⟨rfl, hb⟩
  have hB2 := hB1.trans (hb.mono hB1.size)
  clear hb hB1 k0 k1
  go_wp2_with fail
  go_ret
  exact ⟨rfl, hB2⟩

set_option maxHeartbeats 2000000 in
theorem eqBlockS_any (a1 a2 : Option Addr) (c1 c2 n : Nat) (F : List (List Int)) (w : World) (hs : FSm n F) (hF : F.length = 2 * n) (r1 : QRow w a1 F) (r2 : QRow w a2 F) :
    Calls Try.prog 28 #[.slice a1 n c1, .slice a2 n c2] w fun e w' => e = .returned (.bool true) ∧ Below w.heap.size w w' := by
  have H1 := hide r1
  have H2 := hide r2
  have H6 := hide (fun k => row_sm (m := 1048576) hs.2 k)
  have hl := hs.1
  have HF := hide hF
  clear r1 r2 hs hF
  go_enter Try.func28, Try.ntmps28
  go_wp2_with fail
  go_loopw [5] (fun i w' => ∃ j : Nat, j ≤ n ∧ i = .int .i64 j ∧ Below w.heap.size w w') (fun i _ => n - (intOf i).toNat)
  case atStart => exact ⟨0, by omega, rfl, Below.refl _ _⟩
  case round =>
    obtain ⟨j, hj, rfl, hB⟩ := hrel
    by_cases hlt : j < n
    · have hlt' : (j : Int) < (n : Int) := by omega
      obtain ⟨b1, o1, x0, k0, x1, k1, rfl, -, p0, p1, q0, q1, -, -⟩ := QRow.two H1.out hB HF.out hlt
      obtain ⟨b2, o2, y0, m0, y1, m1, rfl, -, s0, s1, t0, t1, -, -⟩ := QRow.two H2.out hB HF.out hlt
      have HE := hide (fun (w1 : World) (hw : Below wr.heap.size wr w1) => eqBlock_any x0 k0 x1 k1 y0 m0 y1 m1 (fu F j) (fs F j) w1 (RRow.below q0 hw) (RRow.below q1 hw) (RRow.below t0 hw) (RRow.below t1 hw) (H6.out _) (H6.out _))
      obtain ⟨N0, hN0⟩ : ∃ N, N = (fu F j).length := ⟨_, rfl⟩
      obtain ⟨N1, hN1⟩ : ∃ N, N = (fs F j).length := ⟨_, rfl⟩
      rw [← hN0] at p0 s0 HE
      rw [← hN1] at p1 s1 HE
      clear q0 q1 t0 t1 H1 H2 H6 hN0 hN1
      go_wp2_with fail
      go_region_with (go_at_call 53; refine Calls.mono (HE.out _ ⟨rfl, rfl, rfl, Nat.le_refl _, fun _ _ => rfl⟩) ?_; rintro e w1 ⟨rfl, hb1⟩)
      all_goals
        have hB1 : Below w.heap.size w w1 := hB.trans ((show Below wr.heap.size wr w1 from ⟨hb1.os, hb1.tape, hb1.output, hb1.size, hb1.block⟩).mono hB.size)
        clear p0 p1 s0 s1 hb1
        go_wp2_with fail
        exact ⟨⟨j + 1, by omega, by go_num, hB1⟩, by simp [intOf]; omega⟩
    · go_wp2_with fail
      go_ret
      exact ⟨rfl, hB⟩

set_option maxHeartbeats 1000000 in
theorem eqFlow_row (v1 v2 : Value) (D : List (List Int)) (n : Nat) (F : List (List Int)) (w : World) (h1 : FRow w v1 D n F) (h2 : FRow w v2 D n F) :
    Calls Try.prog 9 #[v1, v2] w fun e w' => e = .returned (.bool true) ∧ Below w.heap.size w w' := by
  obtain ⟨a0, c0, a1, c1, rfl, q0, hq, e0, q1, hsm, -, hF⟩ := h1
  obtain ⟨b0, d0, b1, d1, rfl, t0, -, e2, t1, -, -, -⟩ := h2
  have HC0 := hide (fun w' (hb : Below w.heap.size w w') => eqGraph_row (.agg #[.slice a0 D.length c0]) (.agg #[.slice b0 D.length d0]) D w' ⟨a0, c0, rfl, QRow.below q0 hb, hq, e0⟩ ⟨b0, d0, rfl, QRow.below t0 hb, hq, e2⟩)
  have HC1 := hide (fun w' (hb : Below w.heap.size w w') => eqBlockS_any a1 b1 c1 d1 n F w' hsm hF (QRow.below q1 hb) (QRow.below t1 hb))
  clear q0 q1 t0 t1 hq hsm hF e0 e2
  obtain ⟨m0, hm0⟩ : ∃ m, m = D.length := ⟨_, rfl⟩
  rw [← hm0]
  rw [← hm0] at HC0
  clear hm0
  obtain ⟨W1, hW1⟩ : ∃ W1, W1 = (w.alloc (.cells #[.slice a0 m0 c0, .slice a1 n c1] 34)).alloc (.cells #[.slice b0 m0 d0, .slice b1 n d1] 34) := ⟨_, rfl⟩
  have hB : Below w.heap.size w W1 := by rw [hW1]; exact ((Below.refl _ _).alloc (Nat.le_refl _) _).alloc (by simp) _
  obtain ⟨X, hX⟩ : ∃ X, X = w.heap.size := ⟨_, rfl⟩
  have X0 := hide (show Bx W1 X #[.slice a0 m0 c0, .slice a1 n c1] 34 by rw [hW1, hX]; exact (Bx.new w _ _).alloc _)
  have X1 := hide (show Bx W1 (X + 1) #[.slice b0 m0 d0, .slice b1 n d1] 34 by rw [hW1, hX]; have := Bx.new (w.alloc (.cells #[.slice a0 m0 c0, .slice a1 n c1] 34)) #[.slice b0 m0 d0, .slice b1 n d1] 34; simpa using this)
  go_enter Try.func9, Try.ntmps9
  go_upto_region 1 with fail
  rw [← hW1]
  rw [← hX]
  clear hW1 hX
  have k0 := X0.out.c
  have k1 := X1.out.c
  go_wp2_with fail
  refine Calls.mono (HC0.out _ hB) ?_
  rintro e w1 ⟨rfl, hb⟩
  have hB1 := hB.trans (hb.mono hB.size)
  have Y0 := hide (X0.out.below hb X0.out.lt)
  have Y1 := hide (X1.out.below hb X1.out.lt)
  clear hb hB X0 X1 k0 k1
  have k0 := Y0.out.c
  have k1 := Y1.out.c
  go_wp2_with fail
  refine Calls.mono (HC1.out _ hB1) ?_
  rintro e w2 ⟨rfl, hb⟩
  have hB2 := hB1.trans (hb.mono hB1.size)
  clear hb hB1 k0 k1
  go_wp2_with fail
  go_ret
  exact ⟨rfl, hB2⟩

set_option maxHeartbeats 2000000 in
theorem markBlockS_w (S lo hi c k0 n : Nat) (F : List (List Int)) (w : World) (hs : FSm n F) (hF : F.length = 2 * n) (hk0 : k0 ≤ 10000000000000) (h : QMT 64 w lo hi S F) :
    Calls Try.prog 30 #[.slice (some ⟨S, 0, none⟩) n c, .int .i64 (k0 : Int)] w fun e w' => (∃ k : Nat, e = .returned (.int .i64 (k : Int))) ∧ Bet lo hi w w' := by
  have HQ := hide h
  have HS := hide hs.2
  have HF := hide hF
  have hl := hs.1
  clear h hs hF
  go_enter Try.func30, Try.ntmps30
  go_wp2
  go_loopw [1, 5] (fun k i w' => ∃ (j k1 : Nat), j ≤ n ∧ i = .int .i64 j ∧ k = .int .i64 (k1 : Int) ∧ k1 ≤ k0 + j * 2097152 ∧ QMT 64 w' lo hi S F ∧ Bet lo hi w w') (fun _ i _ => n - (intOf i).toNat)
  case atStart => exact ⟨0, k0, by omega, rfl, rfl, by omega, HQ.out, Bet.refl _ _ _⟩
  case round =>
    clear HQ
    obtain ⟨j, k1, hj, rfl, rfl, hk1, hQ, hB⟩ := hrel
    have HB := hide hB
    by_cases hlt : j < n
    · have hlt' : (j : Int) < (n : Int) := by omega
      have hj0 : (0 : Int) ≤ (j : Int) := by omega
      have h20 : 2 * j < F.length := by have := HF.out; omega
      have h21 : 2 * j + 1 < F.length := by have := HF.out; omega
      have hsj := HS.out _ (List.getElem_mem h20)
      have hsj2 := HS.out _ (List.getElem_mem h21)
      have HQ := hide hQ
      obtain ⟨cur, g1, g2⟩ := hQ
      have HG := hide g2
      obtain ⟨g, p1, p2, p3, p4, cg, p5, p6⟩ := g2 (2 * j) h20
      have p0 : wr.cell? ⟨S, j * 2, none⟩ = some (.slice (some ⟨g, 0, none⟩) F[2 * j].length F[2 * j].length) := by rw [cell_of_blk g1, show j * 2 = 2 * j by omega]; exact p1
      have HG1 := hide g1
      have HC := hide (markIntS_w g F[2 * j].length F[2 * j].length k1 cg wr hsj (by omega) p5 (by omega))
      have HC2 : Hid (∀ (cur' : Array Value) (w' : World), w'.heap[g]? = some (.cells cur' 3 (0, 0)) → cur'.size = cg.size → ∀ m, SBk 3 wr g m → SBk 3 w' g m) := hide (fun cur' w' h1 h2 m h3 => by
        obtain ⟨c3, e1, e2⟩ := h3
        rw [p5] at e1
        simp only [Option.some.injEq, Obj.cells.injEq, and_true] at e1
        subst e1
        exact ⟨cur', h1, by omega⟩)
      obtain ⟨x, hx⟩ : ∃ x, x = F[2 * j].length := ⟨_, rfl⟩
      rw [← hx] at p0 HC hsj
      clear hx g1 g2 p1 p5 p6
      go_wp2_with fail
      refine Calls.mono HC.out ?_
      rintro e w2 ⟨rfl, ⟨cur', m1, m2, -⟩, hO⟩
      have HQ2 := hide (HQ.out.oth hO (by omega) (HC2.out cur' w2 m1 m2))
      have HB2 := hide (HB.out.trans (Bet.ofOth hO p2 p3))
      clear hO m1 m2 HC HC2 p0 HQ HB hB HG HG1 p2 p3 p4
      have hQ := HQ2.out
      obtain ⟨cur, g1, g2⟩ := hQ
      obtain ⟨g, p1, p2, p3, p4, cg, p5, p6⟩ := g2 (2 * j + 1) h21
      have p0 : w2.cell? ⟨S, j * 2 + 1, none⟩ = some (.slice (some ⟨g, 0, none⟩) F[2 * j + 1].length F[2 * j + 1].length) := by rw [cell_of_blk g1, show j * 2 + 1 = 2 * j + 1 by omega]; exact p1
      obtain ⟨k2, hk2⟩ : ∃ k2, k2 = k1 + x := ⟨_, rfl⟩
      have HK2 := hide hk2
      rw [← hk2]
      clear hk2
      have HC := hide (markIntS_w g F[2 * j + 1].length F[2 * j + 1].length k2 cg w2 hsj2 (by have := HK2.out; omega) p5 (by omega))
      have HC2 : Hid (∀ (cur' : Array Value) (w' : World), w'.heap[g]? = some (.cells cur' 3 (0, 0)) → cur'.size = cg.size → ∀ m, SBk 3 w2 g m → SBk 3 w' g m) := hide (fun cur' w' h1 h2 m h3 => by
        obtain ⟨c3, e1, e2⟩ := h3
        rw [p5] at e1
        simp only [Option.some.injEq, Obj.cells.injEq, and_true] at e1
        subst e1
        exact ⟨cur', h1, by omega⟩)
      obtain ⟨y, hy⟩ : ∃ y, y = F[2 * j + 1].length := ⟨_, rfl⟩
      rw [← hy] at p0 HC hsj2
      clear hy g1 g2 p1 p5 p6
      go_wp2_with fail
      refine Calls.mono HC.out ?_
      rintro e w3 ⟨rfl, ⟨cur', m1, m2, -⟩, hO⟩
      have HQ3 := hide (HQ2.out.oth hO (by omega) (HC2.out cur' w3 m1 m2))
      have HB3 := hide (HB2.out.trans (Bet.ofOth hO p2 p3))
      clear hO m1 m2 HC HC2 p0 HQ2 HB2
      go_wp2_with fail
      exact ⟨⟨j + 1, k2 + y, by omega, by go_num, rfl, by have := HK2.out; omega, HQ3.out, HB3.out⟩, by simp [intOf]; omega⟩
    · clear hQ hB
      go_wp2_with fail
      go_ret
      exact ⟨⟨k1, rfl⟩, HB.out⟩

set_option maxHeartbeats 2000000 in
theorem markIntSS_k (S lo hi c k0 : Nat) (L : List (List Int)) (w : World) (hs : QSm L) (hk0 : k0 ≤ 100000000) (h : QM w lo hi S L) :
    Calls Try.prog 11 #[.slice (some ⟨S, 0, none⟩) L.length c, .int .i64 (k0 : Int)] w fun e w' => (∃ k : Nat, e = .returned (.int .i64 (k : Int)) ∧ k ≤ 10000000000000) ∧ Bet lo hi w w' := by
  have HQ := hide h
  have HS := hide hs.2
  have hl := hs.1
  clear h hs
  go_enter Try.func11, Try.ntmps11
  go_wp2
  go_loopw [1, 5] (fun k i w' => ∃ (j k1 : Nat), j ≤ L.length ∧ i = .int .i64 j ∧ k = .int .i64 (k1 : Int) ∧ k1 ≤ k0 + j * 2097152 ∧ QM w' lo hi S L ∧ Bet lo hi w w') (fun _ i _ => L.length - (intOf i).toNat)
  case atStart => exact ⟨0, k0, by omega, rfl, rfl, by omega, HQ.out, Bet.refl _ _ _⟩
  case round =>
    clear HQ
    obtain ⟨j, k1, hj, rfl, rfl, hk1, hQ, hB⟩ := hrel
    have HB := hide hB
    by_cases hlt : j < L.length
    · have hlt' : (j : Int) < (L.length : Int) := by omega
      have hj0 : (0 : Int) ≤ (j : Int) := by omega
      have hsj := HS.out _ (List.getElem_mem hlt)
      have HQ := hide hQ
      obtain ⟨cur, g1, g2⟩ := hQ
      obtain ⟨g, p1, p2, p3, p4, cg, p5, p6⟩ := g2 j hlt
      have p0 : wr.cell? ⟨S, j, none⟩ = some (.slice (some ⟨g, 0, none⟩) L[j].length L[j].length) := by rw [cell_of_blk g1]; exact p1
      have HC := hide (markIntS_w g L[j].length L[j].length k1 cg wr hsj (by omega) p5 (by omega))
      have HC2 : Hid (∀ (cur' : Array Value) (w' : World), w'.heap[g]? = some (.cells cur' 3 (0, 0)) → cur'.size = cg.size → ∀ m, SBk 3 wr g m → SBk 3 w' g m) := hide (fun cur' w' h1 h2 m h3 => by
        obtain ⟨c3, e1, e2⟩ := h3
        rw [p5] at e1
        simp only [Option.some.injEq, Obj.cells.injEq, and_true] at e1
        subst e1
        exact ⟨cur', h1, by omega⟩)
      obtain ⟨x, hx⟩ : ∃ x, x = L[j].length := ⟨_, rfl⟩
      rw [← hx] at p0 HC hsj
      clear hx g1 g2 p1 p5 p6
      go_wp2_with fail
      refine Calls.mono HC.out ?_
      rintro e w2 ⟨rfl, ⟨cur', m1, m2, -⟩, hO⟩
      have HQ2 := hide (HQ.out.oth hO (by omega) (HC2.out cur' w2 m1 m2))
      have HB2 := hide (HB.out.trans (Bet.ofOth hO p2 p3))
      clear hO m1 m2 HC HC2 p0 HQ HB hB
      go_wp2_with fail
      exact ⟨⟨j + 1, k1 + x, by omega, by go_num, rfl, by omega, HQ2.out, HB2.out⟩, by simp [intOf]; omega⟩
    · clear hQ hB
      go_wp2_with fail
      go_ret
      exact ⟨⟨k1, rfl, by omega⟩, HB.out⟩

set_option maxHeartbeats 1000000 in
theorem markGraph_k (S lo hi c k0 : Nat) (L : List (List Int)) (w : World) (hs : QSm L) (hk0 : k0 ≤ 100000000) (h : QM w lo hi S L) (hh : hi ≤ w.heap.size) :
    Calls Try.prog 29 #[.agg #[.slice (some ⟨S, 0, none⟩) L.length c], .int .i64 (k0 : Int)] w fun e w' => (∃ k : Nat, e = .returned (.int .i64 (k : Int)) ∧ k ≤ 10000000000000) ∧ Bet lo hi w w' := by
  obtain ⟨W1, hW1⟩ : ∃ W1, W1 = w.alloc (.cells #[.slice (some ⟨S, 0, none⟩) L.length c] 31) := ⟨_, rfl⟩
  have hb1 : Below w.heap.size w W1 := by rw [hW1]; exact (Below.refl _ _).alloc (Nat.le_refl _) _
  have HC := hide (markIntSS_k S lo hi c k0 L W1 hs hk0 (h.below hb1))
  have HB1 := hide hb1
  have HW1 := hide hW1
  clear hb1 hW1 h
  go_enter Try.func29, Try.ntmps29
  go_wp2_with fail
  rw [← HW1.out]
  refine Calls.mono HC.out ?_
  rintro e w2 ⟨⟨k, rfl, hk⟩, hO⟩
  have hO2 : Bet lo hi w w2 := (Bet.ofBelow HB1.out).trans hO
  clear hO HC HW1
  go_wp2_with fail
  go_ret
  exact ⟨⟨k, rfl, hk⟩, hO2⟩

theorem Bet.wide {lo hi lo' hi' : Nat} {x y : World} (h : Bet lo hi x y) (h1 : lo' ≤ lo) (h2 : hi ≤ hi') : Bet lo' hi' x y := ⟨h.os, h.tape, h.output, h.size, fun k hk ho => h.block k hk (by omega)⟩
/-- A flow's rows in blocks of their own, from lo up to hi: the graph's lie ahead of the blocks'. -/
def FM (w : World) (lo hi g b : Nat) (D F : List (List Int)) : Prop := QM w lo b g D ∧ QMT 64 w b hi b F ∧ lo ≤ b ∧ b ≤ hi ∧ b < w.heap.size
theorem FM.below {w w' : World} {lo hi g b : Nat} {D F : List (List Int)} (h : FM w lo hi g b D F) (hb : Below w.heap.size w w') : FM w' lo hi g b D F :=
  ⟨h.1.below hb, h.2.1.below hb, h.2.2.1, h.2.2.2.1, Nat.lt_of_lt_of_le h.2.2.2.2 hb.size⟩

set_option maxHeartbeats 1000000 in
theorem markFlow_w (g b lo hi k0 n : Nat) (D F : List (List Int)) (w : World) (hs : QSm D) (hsm : FSm n F) (hF : F.length = 2 * n) (hk0 : k0 ≤ 100000000) (h : FM w lo hi g b D F) :
    Calls Try.prog 10 #[.agg #[.slice (some ⟨g, 0, none⟩) D.length D.length, .slice (some ⟨b, 0, none⟩) n n], .int .i64 (k0 : Int)] w fun e w' => (∃ k : Nat, e = .returned (.int .i64 (k : Int))) ∧ Bet lo hi w w' := by
  obtain ⟨hD, hB, hlb, hbh, hbw⟩ := h
  obtain ⟨m0, hm0⟩ : ∃ m, m = D.length := ⟨_, rfl⟩
  obtain ⟨W1, hW1⟩ : ∃ W1, W1 = w.alloc (.cells #[.slice (some ⟨g, 0, none⟩) m0 m0, .slice (some ⟨b, 0, none⟩) n n] 34) := ⟨_, rfl⟩
  have hb1 : Below w.heap.size w W1 := by rw [hW1]; exact (Below.refl _ _).alloc (Nat.le_refl _) _
  obtain ⟨X, hX⟩ : ∃ X, X = w.heap.size := ⟨_, rfl⟩
  have X0 := hide (show Bx W1 X #[.slice (some ⟨g, 0, none⟩) m0 m0, .slice (some ⟨b, 0, none⟩) n n] 34 by rw [hW1, hX]; exact Bx.new w _ _)
  have HC0 := hide (markGraph_k g lo b D.length k0 D W1 hs hk0 (hD.below hb1) (by have := hb1.size; omega))
  have HC1 := hide (fun (k : Nat) (w' : World) (hk : k ≤ 10000000000000) (hq : QMT 64 w' b hi b F) => markBlockS_w b b hi n k n F w' hsm hF hk hq)
  have HB := hide (hB.below hb1)
  have hB1 := hide (Bet.ofBelow (lo := lo) (hi := hi) hb1)
  rw [← hm0] at HC0 ⊢
  clear hD hB hb1 hs hsm hF hm0
  go_enter Try.func10, Try.ntmps10
  go_upto_region 1 with fail
  rw [← hW1]
  rw [← hX]
  clear hW1
  have hbX : b < X := by omega
  clear hX
  have k0' := X0.out.c
  go_wp2_with fail
  refine Calls.mono HC0.out ?_
  rintro e w1 ⟨⟨k1, rfl, hk1⟩, hO⟩
  have hQ := hide (HB.out.keep (w' := w1) (fun k h1 h2 => hO.block k h2 (.inr h1)))
  have hx1 : Bx w1 X _ _ := (hO.block X X0.out.lt (.inr (by omega))).trans X0.out
  have hB2 := hide (hB1.out.trans (hO.wide (Nat.le_refl _) hbh))
  clear k0' hO HC0 HB hB1 X0
  have k1' := hx1.c
  clear hx1
  go_wp2_with fail
  refine Calls.mono (HC1.out k1 _ hk1 hQ.out) ?_
  rintro e w2 ⟨⟨k2, rfl⟩, hO⟩
  have hB3 := hB2.out.trans (hO.wide hlb (Nat.le_refl _))
  clear k1' hO HC1 hB2
  go_wp2_with fail
  go_ret
  exact ⟨⟨k2, rfl⟩, hB3⟩

set_option maxRecDepth 20000 in
theorem open_BRow {H : Type} {enc : TypeId × Value → H} {W : World} {sp : Nat → Bool} {held : Bool} {fuel : Nat} {ad : Option Addr} {len cap : Nat} {x : DataW H × List MemPlace}
    (h : DataW.trod enc Try.prog W 0 sp held fuel 25 [.slice ad len cap] = some x) :
    ∃ F : List (List Int), F.length = 2 * len ∧ FFit len F ∧ QRow W ad F := by
  rcases Go.Deep.open_slice Try.underlying25 h with ⟨hcs, -⟩ | ⟨a, len', cap', m, n, D, Pl, hcs, hb, hl, hm, hmm, -, hx⟩
  · simp at hcs
    exact ⟨[], by simp [hcs.2.1], ⟨by rw [hcs.2.1]; exact Nat.zero_le _, by simp⟩, .inl rfl⟩
  simp at hcs
  obtain ⟨rfl, rfl, rfl⟩ := hcs
  have hlm : len ≤ m := by rw [hmm]; split <;> omega
  have hc : Try.prog.cellsOf 63 = 2 := by kernel_rfl
  have ci : Try.prog.cellsOf 45 = 1 := by kernel_rfl
  have one : ∀ {v0 : Value} {f : Nat} {x : DataW H × List MemPlace}, DataW.trod enc Try.prog W 0 sp held f 45 [v0] = some x → ∃ l : List Int, l.length ≤ maxLen ∧ PV W v0 l := fun {v0 f x} h2 => by
    have hv : ∃ ad1 n1 c1, v0 = .slice ad1 n1 c1 ∧ n1 ≤ c1 := by
      rcases Go.Deep.open_slice Try.underlying45 h2 with ⟨hcs, -⟩ | ⟨a, len, cap, m, n, D, Pl, hcs, hb, hl, -⟩
      · simp at hcs; exact ⟨none, 0, 0, hcs, Nat.le_refl _⟩
      · simp at hcs; exact ⟨some a, len, cap, hcs, hl⟩
    obtain ⟨ad1, n1, c1, rfl, hn1⟩ := hv
    obtain ⟨l, rfl, hm1, hr⟩ := open_ints h2
    exact ⟨l, hm1, _, _, rfl, hr, hn1⟩
  obtain ⟨G, hG⟩ := Go.Deep.choose_lt (α := List Int × List Int) (n := len) (p := fun i q => q.1.length ≤ maxLen ∧ q.2.length ≤ maxLen ∧ (∃ v, W.cell? (a.add (i * 2)) = some v ∧ PV W v q.1) ∧ (∃ v, W.cell? (a.add (i * 2 + 1)) = some v ∧ PV W v q.2)) (fun i hi => by
    obtain ⟨cs', h1, h2⟩ := hx i (by omega)
    rw [hc] at h1
    obtain ⟨_, hlen, hcell⟩ := World.cells?_some h1
    obtain ⟨xs, k, hk, hxy, _, hxl, hf⟩ := DataW.trod_struct Try.underlying63 h2
    match cs', hlen with
    | [v0, v1], _ =>
      have g0 := hf 0 _ rfl
      have g1 := hf 1 _ rfl
      simp [ci] at g0 g1
      rw [List.getElem?_eq_getElem (by rw [hxl]; decide)] at g0 g1
      obtain ⟨l0, m0, r0⟩ := one g0
      obtain ⟨l1, m1, r1⟩ := one g1
      have c0 := hcell 0 (by omega)
      have c1 := hcell 1 (by omega)
      rw [Go.Deep.add_add] at c0 c1
      exact ⟨(l0, l1), m0, m1, ⟨_, by simpa using c0, r0⟩, ⟨_, by simpa using c1, r1⟩⟩)
  obtain ⟨F, hFd⟩ : ∃ F : List (List Int), F = (List.range (2 * len)).map (fun q => if q % 2 = 0 then (G (q / 2)).1 else (G (q / 2)).2) := ⟨_, rfl⟩
  have hFl : F.length = 2 * len := by rw [hFd]; simp
  have hFa : ∀ q (h : q < F.length), F[q] = if q % 2 = 0 then (G (q / 2)).1 else (G (q / 2)).2 := fun q h => by subst hFd; simp
  refine ⟨F, hFl, ⟨by omega, fun l hl' => ?_⟩, ?_⟩
  · obtain ⟨q, hq, rfl⟩ := List.getElem_of_mem hl'
    rw [hFa q hq]
    have := hG (q / 2) (by omega)
    split
    · exact this.1
    · exact this.2.1
  · by_cases h0 : len = 0
    · left; exact List.eq_nil_of_length_eq_zero (by omega)
    · right
      obtain ⟨b, o, spot⟩ := a
      obtain ⟨-, -, ⟨v0, f0, -⟩, -⟩ := hG 0 (by omega)
      have hspot : spot = none := by simpa [Addr.add] using World.cell?_spot f0
      subst hspot
      refine ⟨b, o, rfl, ?_, fun i hi => ?_⟩
      · have := World.block_lt_of_cell? _ _ f0
        simpa [Addr.add] using this
      · have hi' : i / 2 < len := by omega
        obtain ⟨-, -, ⟨v, f, g⟩, ⟨v', f', g'⟩⟩ := hG (i / 2) hi'
        rw [Addr.add_lit] at f f'
        rw [hFa i hi]
        rcases Nat.mod_two_eq_zero_or_one i with e | e
        · rw [if_pos e]
          exact ⟨v, by rw [show o + i = o + i / 2 * 2 by omega]; exact f, g⟩
        · rw [if_neg (by omega)]
          exact ⟨v', by rw [show o + i = o + (i / 2 * 2 + 1) by omega]; exact f', g'⟩

set_option maxRecDepth 20000 in
theorem open_flow {H : Type} {enc : TypeId × Value → H} {W : World} {sp : Nat → Bool} {held : Bool} {base : Nat} {v : Value} {x : DataW H × List MemPlace} (hv : Value.okWide Try.prog W .any base 27 v)
    (h : ∃ fuel, DataW.trod enc Try.prog W 0 sp held fuel 27 v.cells.toList = some x) :
    ∃ (D : List (List Int)) (ad : Option Addr) (c : Nat) (F : List (List Int)) (bd : Option Addr) (bc n : Nat), v = .agg #[.slice ad D.length c, .slice bd n bc] ∧ QRow W ad D ∧ QFit D ∧ D.length ≤ c ∧ QRow W bd F ∧ FFit n F ∧ n ≤ bc ∧ F.length = 2 * n := by
  obtain ⟨cs, rfl, hsz⟩ := okWide_struct Try.underlying27 hv
  obtain ⟨fuel, h⟩ := h
  obtain ⟨xs, k, hk, hxy, hl, hxl, hf⟩ := DataW.trod_struct Try.underlying27 h
  have hc : Try.prog.cellsOf 27 = 2 := by kernel_rfl
  have c0 : Try.prog.cellsOf 24 = 1 := by kernel_rfl
  have c1 : Try.prog.cellsOf 25 = 1 := by kernel_rfl
  have c2 : Try.prog.cellsOf 22 = 1 := by kernel_rfl
  obtain ⟨l, rfl⟩ : ∃ l : List Value, cs = l.toArray := ⟨cs.toList, by simp⟩
  rw [hc] at hsz
  have hsz' : l.length = 2 := by simpa using hsz
  match l, hsz' with
  | [v0, v1], _ =>
    have g0 := hf 0 _ rfl
    have g1 := hf 1 _ rfl
    simp [c0, c1, Value.cells] at g0 g1
    rw [List.getElem?_eq_getElem (by rw [hxl]; decide)] at g0 g1
    obtain ⟨ys, k2, hk2, hxy2, hl2, hxl2, hf2⟩ := DataW.trod_struct Try.underlying24 g0
    have q0 := hf2 0 _ rfl
    simp [c2] at q0
    rw [List.getElem?_eq_getElem (by rw [hxl2]; decide)] at q0
    obtain ⟨ad, n0, c, rfl, hc1⟩ := open_slice1 Try.underlying22 q0
    obtain ⟨D, rfl, m1, r1⟩ := open_QRow q0
    obtain ⟨bd, n, bc, rfl, hbc⟩ := open_slice1 Try.underlying25 g1
    obtain ⟨F, hF, m2, r2⟩ := open_BRow g1
    exact ⟨D, ad, c, F, bd, bc, n, rfl, r1, m1, hc1, r2, m2, hbc, hF⟩
end Go.Proofs.Ytaniiolphghhiab.W

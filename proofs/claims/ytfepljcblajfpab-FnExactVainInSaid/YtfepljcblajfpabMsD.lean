/-
  A row whose first pattern any value fits, with the parts of a constructor in its place: a contract of the program's opened. Conditions: good data, rows of at most 1000 cells. Written by wip/build/mk_msd.py.
-/
import Derived.Test.YtfepljcblajfpabMsC
namespace Go.Proofs.Ytfepljcblajfpab.W
open Go.ChangeShapes Go.WideShapes Go.ChangeAt Go.RowKit
set_option linter.unusedVariables false
set_option linter.unusedSimpArgs false

theorem PtBlk.set2 {w : World} {b : Nat} {m : List Pt} (h : PtBlk w b m) {j : Nat} (hj : j < m.length) (x y : Int) : PtBlk ((w.setCell ⟨b, j * 2, none⟩ (.int .i64 x)).setCell ⟨b, j * 2 + 1, none⟩ (.int .i64 y)) b (m.set j ⟨x, y⟩) := by
  obtain ⟨cur, hh, hF⟩ := h
  refine ⟨_, blk_setCell (blk_setCell hh _) _, by simp [hF.1], fun i hi _ r hr => ?_⟩
  have hi' : i < m.length := by simpa using hi
  simp only [Array.getElem?_setIfInBounds, Array.size_setIfInBounds]
  by_cases e : i = j
  · subst e
    rw [List.getElem_set_self]
    match r, hr with
    | 0, _ => rw [if_neg (by omega), if_pos (by omega), if_pos (by rw [hF.1]; omega)]; rfl
    | 1, _ => rw [if_pos rfl, if_pos (by rw [hF.1]; omega)]; rfl
  · rw [if_neg (by omega), if_neg (by omega), List.getElem_set_ne (fun h => e h.symm)]
    exact hF.2 i hi' hi' r hr
theorem rep_set (A B : Pt) (j q : Nat) : (List.replicate j A ++ List.replicate (q + 1) B).set j A = List.replicate (j + 1) A ++ List.replicate q B := by
  have h : ∀ (j : Nat) (X : List Pt), List.replicate j A ++ A :: X = A :: (List.replicate j A ++ X) := by
    intro j X
    induction j with
    | zero => rfl
    | succ j ih => simp [List.replicate_succ, ih]
  rw [List.set_append_right _ _ (by simp)]
  simp [List.replicate_succ, h]
theorem made_rep (n : Nat) : ∀ i r, i < n → r < 2 → (madeCells #[.int .i64 0, .int .i64 0] (n * 2))[i * 2 + r]? = some (Value.int .i64 0) := by
  intro i r hi hr
  have hlt : i * 2 + r < (madeCells #[.int .i64 0, .int .i64 0] (n * 2)).size := by simp [madeCells]; omega
  rw [Array.getElem?_eq_getElem hlt]
  simp only [madeCells, Array.getElem_ofFn]
  have : (i * 2 + r) % 2 = 0 ∨ (i * 2 + r) % 2 = 1 := by omega
  rcases this with h | h <;> simp [h]
theorem PtBlk.made (w : World) (n : Nat) : PtBlk (w.alloc (.cells (madeCells #[.int .i64 0, .int .i64 0] (n * 2)) 67)) w.heap.size (List.replicate n ⟨0, 0⟩) := by
  refine ⟨_, heap_alloc_new w _, by simp [madeCells], fun i hi _ r hr => ?_⟩
  rw [List.getElem_replicate, made_rep n i r (by simpa using hi) hr]
  match r, hr with
  | 0, _ => rfl
  | 1, _ => rfl

set_option maxRecDepth 20000 in
set_option maxHeartbeats 8000000 in
theorem opened_all (vd : Value) (D : List Int) (v : Value) (x : Pt) (k r : F) (c : Nat) (w : World) (hD : DRow w vd D) (hd : goodD D = true) (hc : c < D.length) (ha : (F.cons x k r).ok D) (hx : x.kd = 1) (hv : PV w v (F.cons x k r).flat) (hl : (F.cons x k r).flat.length ≤ 1000) :
    Calls Try.prog 48 #[vd, v, .int .i64 (c : Int)] w fun e w' => OpOut D c (.cons x k r) w v w' e ∧ Below w.heap.size w w' := by
  obtain ⟨da, dc, rfl, hDi, hDl⟩ := hD
  obtain rfl : k = .nil := F.len_0 (by rw [ha.2.1, ar, if_pos hx])
  have HV : Hid (PV w v (x :: r.flat)) := hide hv
  obtain ⟨b, o, cc, rfl, hb, hcc, -, -⟩ := HV.out.head (Below.refl _ _)
  obtain ⟨p, hp⟩ : ∃ p, p = nP D c := ⟨_, rfl⟩
  have hp2 : p ≤ 2 := by rw [hp]; exact nP_le hd c
  have hDc : D[c] = (p : Int) := by
    have := goodD_parts hd hc
    rw [hp, nP, List.getD_eq_getElem?_getD, List.getElem?_eq_getElem hc, Option.getD_some]; omega
  have HRow : Hid (PtRow w (some ⟨b, o, none⟩) (x :: r.flat)) := hide (by
    obtain ⟨ad, c', e, h1, h2⟩ := HV.out
    simp only [Value.slice.injEq] at e
    rw [e.1]; exact h1)
  have HPt := hide (fun q hq => HV.out.tail q hq)
  have hop : opn D c (.cons x .nil r) = some ((anys p).app r) := by rw [opn, if_pos hx, hp]
  have HOp := hide hop
  have HFl : Hid (((anys p).app r).flat = List.replicate p ⟨1, 0⟩ ++ r.flat) := hide (by rw [F.app_flat, anys_flat])
  obtain ⟨M, hM⟩ : ∃ M, M = r.flat.length := ⟨_, rfl⟩
  have HM := hide hM
  have hM1 : M ≤ 1000 := by simp [F.flat] at hl; omega
  rw [← hM] at hcc HPt ⊢
  clear hv hp hop hM hl HV
  have HB := hide (show Below w.heap.size w (w.alloc (.cells #[.slice da D.length dc] 31)) from (Below.refl _ _).alloc (Nat.le_refl _) _)
  have HX := hide (Bx.new w #[.slice da D.length dc] 31)
  obtain ⟨db, dof, hda, hdb, pD⟩ := IRow.iat hDi HB.out hc
  rw [hDc] at pD
  subst hda
  have hc' : (c : Int) < (D.length : Int) := by omega
  have hmk0 := mk_PtS (p + M) (by omega)
  have hmk : ∀ w, (Instr.makeSlice 28 (.int .i64 ((p : Int) + ((M : Int) + 1) - 1)) (.int .i64 ((p : Int) + ((M : Int) + 1) - 1))).run Try.prog w = .ok (.slice (some ⟨w.heap.size, 0, none⟩) (p + M) (p + M)) (w.alloc (.cells (madeCells #[.int .i64 0, .int .i64 0] ((p + M) * 2)) 67)) := fun w => by
    rw [show (p : Int) + ((M : Int) + 1) - 1 = ((p + M : Nat) : Int) by omega]
    exact hmk0 w
  obtain ⟨q0, q1⟩ : w.cell? ⟨b, o, none⟩ = some (.int .i64 1) ∧ True := by
    obtain ⟨b', o', e, -, p0, p1⟩ := PtRow.tok HRow.out (Below.refl _ _) (i := 0) (by simp)
    simp only [Option.some.injEq, Addr.mk.injEq] at e
    obtain ⟨rfl, rfl, -⟩ := e
    refine ⟨?_, trivial⟩
    rw [← hx]; simpa using p0
  have q0' : (w.alloc (.cells #[.slice (some ⟨db, dof, none⟩) D.length dc] 31)).cell? ⟨b, o, none⟩ = some (.int .i64 1) := (HB.out.cell (p := ⟨b, o, none⟩) hb).trans q0
  obtain ⟨S, hS⟩ : ∃ S, S = w.heap.size + 1 := ⟨_, rfl⟩
  have hSw : w.heap.size < S := by omega
  have HEnd : Hid (∀ w', PtBlk w' S (List.replicate p ⟨1, 0⟩ ++ r.flat) → Below w.heap.size w w' → OpOut D c (.cons x .nil r) w (.slice (some ⟨b, o, none⟩) (M + 1) cc) w' (.returned (.tuple #[.slice (some ⟨S, 0, none⟩) (p + M) (p + M), .bool true])) ∧ Below w.heap.size w w') := hide (fun w' hk hb' => by
    refine ⟨⟨some ⟨S, 0, none⟩, p + M, p + M, by rw [HOp.out]; rfl, fun q hq => .inr (by simp [Value.ownBlock] at hq; omega), fun a' ha' => ?_⟩, hb'⟩
    rw [HOp.out] at ha'
    simp only [Option.some.injEq] at ha'
    rw [← ha', HFl.out]
    have := hk.pv
    rw [show (List.replicate p (⟨1, 0⟩ : Pt) ++ r.flat).length = p + M by simp [HM.out]] at this
    exact this)
  have hbig : ¬ 9223372036854775807 < p + M + 1 := by omega
  obtain ⟨w0, hw0⟩ : ∃ w0, w0 = w.alloc (.cells #[.slice (some ⟨db, dof, none⟩) D.length dc] 31) := ⟨_, rfl⟩
  have hS0 : w0.heap.size = S := by rw [hw0, hS]; simp
  rw [← hw0] at HB HX pD q0'
  have HS0 := hide hS0
  have cx := HX.out.c
  have xl := HX.out.lt
  have hNpos : 0 < M + 1 := by omega
  clear hS0 hDc q0 q1 hmk0 hDi hS
  go_enter Try.func48, Try.ntmps48
  go_upto_region 1 with fail
  rw [← hw0]
  clear hw0
  go_wp2_with fail
  have hBm : Below w.heap.size w (w0.alloc (.cells (madeCells #[.int .i64 0, .int .i64 0] ((p + M) * 2)) 67)) := HB.out.alloc HB.out.size _
  have hPm := PtBlk.made w0 (p + M)
  rw [HS0.out] at hPm ⊢
  obtain ⟨w1, hw1⟩ : ∃ w1, w1 = w0.alloc (.cells (madeCells #[.int .i64 0, .int .i64 0] ((p + M) * 2)) 67) := ⟨_, rfl⟩
  rw [← hw1] at hBm hPm ⊢
  have HPm := hide hPm
  clear hw1 hPm hmk cx HX q0' pD HB HS0 xl
  go_loopw [36] (fun i w' => ∃ j : Nat, j ≤ p ∧ i = .int .i64 j ∧ PtBlk w' S (List.replicate j ⟨1, 0⟩ ++ List.replicate (p + M - j) ⟨0, 0⟩) ∧ Below w.heap.size w w') (fun i _ => p - (intOf i).toNat)
  case atStart => exact ⟨0, by omega, rfl, by simpa using HPm.out, hBm⟩
  case round =>
    clear HPm hBm
    obtain ⟨j, hj, rfl, hP, hB⟩ := hrel
    have HP := hide hP
    have hPl := hP.lt
    clear hP
    by_cases hlt : j < p
    · have hlt' : (j : Int) < (p : Int) := by omega
      have hj0 : (0 : Int) ≤ (j : Int) := by omega
      have hjm : (j : Int) < ((p + M : Nat) : Int) := by omega
      have hjm2 : j < p + M := by omega
      obtain ⟨cur, hh, hF⟩ := HP.out
      have fz : ∀ i, wr.frozen? ⟨S, i, none⟩ = false := fun i => unfrozen_of_blk hh i
      have cs : ∀ r, r < 2 → ∃ x, wr.cell? ⟨S, j * 2 + r, none⟩ = some x := fun r hr => by
        rw [cell_of_blk hh, Array.getElem?_eq_getElem (by have := hF.1; simp at this; omega)]; exact ⟨_, rfl⟩
      obtain ⟨y0, hy0⟩ := cs 0 (by omega)
      obtain ⟨y1, hy1⟩ := cs 1 (by omega)
      rw [Nat.add_zero] at hy0
      have hset := PtBlk.set2 HP.out (j := j) (by simp; omega) 1 0
      rw [show p + M - j = (p + M - (j + 1)) + 1 by omega, rep_set] at hset
      have HSet := hide hset
      clear cs hset hF hh
      go_wp2_with fail
      exact ⟨⟨j + 1, by omega, by go_num, HSet.out, (hB.setCell (p := ⟨S, j * 2, none⟩) (by simp; omega) _).setCell (p := ⟨S, j * 2 + 1, none⟩) (by simp; omega) _⟩, by simp [intOf]; omega⟩
    · obtain rfl : j = p := by omega
      have HP2 : Hid (wr.heap[S]? = some (.cells (rcells 2 Pt.c (List.replicate j ⟨1, 0⟩ ++ List.replicate M ⟨0, 0⟩)).toArray 67 (0, 0))) := hide (by
        have := HP.out.arr
        rw [show j + M - j = M by omega] at this
        exact this)
      have HSp : Hid (∀ w', w'.heap[S]? = some (.cells ((rcells 2 Pt.c (List.replicate j ⟨1, 0⟩ ++ List.replicate M ⟨0, 0⟩)).take (j * 2) ++ (rcells 2 Pt.c r.flat ++ (rcells 2 Pt.c (List.replicate j ⟨1, 0⟩ ++ List.replicate M ⟨0, 0⟩)).drop (j * 2 + (rcells 2 Pt.c r.flat).length))).toArray 67 (0, 0)) → PtBlk w' S (List.replicate j ⟨1, 0⟩ ++ r.flat)) := hide (fun w' h => by
        rw [rcells_splice 2 Pt.c _ _ j (by simp [HM.out])] at h
        have h2 := PtBlk.ofArr h
        rw [List.take_left' (by simp), List.drop_eq_nil_of_le (by simp [HM.out]), List.append_nil] at h2
        exact h2)
      have hbr : b < wr.heap.size := Nat.lt_of_lt_of_le hb hB.size
      have HNw : Hid (∀ w', Below wr.heap.size wr w' → PtRow w' (some ⟨b, o + 2, none⟩) r.flat) := hide (fun w' hb2 => by
        have h := HPt.out (o + 2) (.inr rfl)
        obtain ⟨ad, c', e, h1, -⟩ := h
        simp only [Value.slice.injEq] at e
        rw [← e.1] at h1
        exact RRow.below h1 (hB.trans (hb2.mono hB.size)))
      have hbne : b ≠ S := by omega
      have k1 : (0 : Int) ≤ (j : Int) := by omega
      have k2 : (j : Int) ≤ ((j + M : Nat) : Int) := by omega
      have k2' : (j : Int) ≤ (j : Int) + (M : Int) := by omega
      have k3 : (1 : Int) ≤ ((M + 1 : Nat) : Int) := by omega
      have k3' : (1 : Int) ≤ (M : Int) + 1 := by omega
      have k4 : ((M + 1 : Nat) : Int) ≤ (cc : Int) := by omega
      have k4' : (M : Int) + 1 ≤ (cc : Int) := by omega
      have k5 : (1 : Int) ≤ (cc : Int) := by omega
      have HBr := hide hB
      clear HP hB
      by_cases hM0 : M = 0
      · have hr0 : r.flat = [] := List.eq_nil_of_length_eq_zero (by have := HM.out; omega)
        subst hM0
        by_cases hc1 : cc = 1
        · subst hc1
          go_wp2_with fail
          refine wp_region_noPanic ?_
          refine wp_region_held_drew (S := fun _ => True) (by kernel_rfl) trivial (fun hHeld => ?_)
          refine wpAnyH_take (i := 0) (oi := _) (v := ?_) rfl (by kernel_rfl) (by kernel_rfl) (by kernel_rfl) (fun _ _ _ h => h) (Or.inl ⟨by rfl, ?_⟩) (by assumption) ?_
          rotate_left 1
          · (intro w hSw; (try dsimp only at hSw); (first | (go_simp; done) | (go_simp; with_reducible rfl)))
          try simp only [Act.put, List.getElem_toArray, List.getElem_cons_zero, List.getElem_cons_succ, List.setIfInBounds_toArray, List.set_cons_zero, List.set_cons_succ]
          refine wpAnyH_take (i := 1) (oi := _) (v := ?_) rfl (by kernel_rfl) (by kernel_rfl) (by kernel_rfl) (fun _ _ _ h => h) (Or.inl ⟨by rfl, ?_⟩) (by assumption) ?_
          rotate_left 1
          · (intro w hSw; (try dsimp only at hSw); (first | (go_simp; done) | (go_simp; with_reducible rfl)))
          try simp only [Act.put, List.getElem_toArray, List.getElem_cons_zero, List.getElem_cons_succ, List.setIfInBounds_toArray, List.set_cons_zero, List.set_cons_succ]
          refine wpAnyH_take (i := 2) (oi := _) (v := ?_) rfl (by kernel_rfl) (by kernel_rfl) (by kernel_rfl) (fun _ _ _ h => h) (Or.inl ⟨by rfl, ?_⟩) (by assumption) ?_
          rotate_left 1
          · (intro w hSw; (try dsimp only at hSw); (first | (go_simp; done) | (go_simp; with_reducible rfl)))
          try simp only [Act.put, List.getElem_toArray, List.getElem_cons_zero, List.getElem_cons_succ, List.setIfInBounds_toArray, List.set_cons_zero, List.set_cons_succ]
          refine wpAnyH_take (i := 3) (oi := _) (v := ?_) rfl (by kernel_rfl) (by kernel_rfl) (by kernel_rfl) (fun _ _ _ h => h) (Or.inl ⟨by rfl, ?_⟩) (by assumption) ?_
          rotate_left 1
          · (intro w hSw; (try dsimp only at hSw); (first | (go_simp; done) | (go_simp; with_reducible rfl)))
          try simp only [Act.put, List.getElem_toArray, List.getElem_cons_zero, List.getElem_cons_succ, List.setIfInBounds_toArray, List.set_cons_zero, List.set_cons_succ]
          refine wpAnyH_take (i := 4) (oi := _) (v := ?_) rfl (by kernel_rfl) (by kernel_rfl) (by kernel_rfl) (fun _ _ _ h => h) (Or.inl ⟨by rfl, ?_⟩) (by assumption) ?_
          rotate_left 1
          · (intro w hSw; (try dsimp only at hSw); (first | (go_simp; done) | (go_simp; with_reducible rfl)))
          try simp only [Act.put, List.getElem_toArray, List.getElem_cons_zero, List.getElem_cons_succ, List.setIfInBounds_toArray, List.set_cons_zero, List.set_cons_succ]
          refine wpAnyH_ready (rs := [5]) (by kernel_rfl) (by simp) ?_
          refine AllReadyH.cons (o := _) rfl (fun K hK => ?_) AllReadyH.nil
          obtain ⟨wc, hr, hblk, hoth⟩ := copy_run_z (P := Try.prog) (w := wr.drew) 2 28 28 3 67 Try.underlying28 sizePt (some ⟨S, 0, none⟩) (some ⟨b, o, none⟩) (j + 0 - j) (j + 0 - j) (0 + 1 - 1) (1 - 1) S (j * 2) _ 67 HP2.out (rcells 2 Pt.c r.flat) (by rw [rcells_len, ← HM.out]; simp) (fun h => by simp at h) (by simp [rcells_len, ← HM.out] <;> omega) (Pt.one _)
          refine step_copy_z rfl _ _ 28 28 rfl rfl rfl hr ?_
          refine hK.out _ _ trivial (fun hHeld => ?_)
          clear hK K
          try simp only [Act.put, List.getElem_toArray, List.getElem_cons_zero, List.getElem_cons_succ, List.setIfInBounds_toArray, List.set_cons_zero, List.set_cons_succ]
          refine wpAnyH_done (by kernel_rfl) ?_ _
          refine NoPanic.normal ?_
          have hE := HEnd.out wc (HSp.out wc hblk) (HBr.out.trans ⟨hoth.os, hoth.tape, hoth.output, hoth.size, fun k hk => hoth.block k (Nat.lt_of_lt_of_le hk HBr.out.size) (by omega)⟩)
          have HE := hide hE
          clear hE hblk hoth
          go_wp2_with fail
          exact bodyPost_ret (v := .tuple #[.slice (some ⟨S, 0, none⟩) (j + 0) (j + 0), .bool true]) (by simp [results, Try.results48, go_sem]) rfl HE.out
        · go_wp2_with fail
          refine wp_region_noPanic ?_
          refine wp_region_held_drew (S := fun _ => True) (by kernel_rfl) trivial (fun hHeld => ?_)
          refine wpAnyH_take (i := 0) (oi := _) (v := ?_) rfl (by kernel_rfl) (by kernel_rfl) (by kernel_rfl) (fun _ _ _ h => h) (Or.inl ⟨by rfl, ?_⟩) (by assumption) ?_
          rotate_left 1
          · (intro w hSw; (try dsimp only at hSw); (first | (go_simp; done) | (go_simp; with_reducible rfl)))
          try simp only [Act.put, List.getElem_toArray, List.getElem_cons_zero, List.getElem_cons_succ, List.setIfInBounds_toArray, List.set_cons_zero, List.set_cons_succ]
          refine wpAnyH_take (i := 1) (oi := _) (v := ?_) rfl (by kernel_rfl) (by kernel_rfl) (by kernel_rfl) (fun _ _ _ h => h) (Or.inl ⟨by rfl, ?_⟩) (by assumption) ?_
          rotate_left 1
          · (intro w hSw; (try dsimp only at hSw); (first | (go_simp; done) | (go_simp; with_reducible rfl)))
          try simp only [Act.put, List.getElem_toArray, List.getElem_cons_zero, List.getElem_cons_succ, List.setIfInBounds_toArray, List.set_cons_zero, List.set_cons_succ]
          refine wpAnyH_take (i := 2) (oi := _) (v := ?_) rfl (by kernel_rfl) (by kernel_rfl) (by kernel_rfl) (fun _ _ _ h => h) (Or.inl ⟨by rfl, ?_⟩) (by assumption) ?_
          rotate_left 1
          · (intro w hSw; (try dsimp only at hSw); (first | (go_simp; done) | (go_simp; with_reducible rfl)))
          try simp only [Act.put, List.getElem_toArray, List.getElem_cons_zero, List.getElem_cons_succ, List.setIfInBounds_toArray, List.set_cons_zero, List.set_cons_succ]
          refine wpAnyH_take (i := 3) (oi := _) (v := ?_) rfl (by kernel_rfl) (by kernel_rfl) (by kernel_rfl) (fun _ _ _ h => h) (Or.inl ⟨by rfl, ?_⟩) (by assumption) ?_
          rotate_left 1
          · (intro w hSw; (try dsimp only at hSw); (first | (go_simp; done) | (go_simp; with_reducible rfl)))
          try simp only [Act.put, List.getElem_toArray, List.getElem_cons_zero, List.getElem_cons_succ, List.setIfInBounds_toArray, List.set_cons_zero, List.set_cons_succ]
          refine wpAnyH_take (i := 4) (oi := _) (v := ?_) rfl (by kernel_rfl) (by kernel_rfl) (by kernel_rfl) (fun _ _ _ h => h) (Or.inl ⟨by rfl, ?_⟩) (by assumption) ?_
          rotate_left 1
          · (intro w hSw; (try dsimp only at hSw); (first | (go_simp; done) | (go_simp; with_reducible rfl)))
          try simp only [Act.put, List.getElem_toArray, List.getElem_cons_zero, List.getElem_cons_succ, List.setIfInBounds_toArray, List.set_cons_zero, List.set_cons_succ]
          refine wpAnyH_ready (rs := [5]) (by kernel_rfl) (by simp) ?_
          refine AllReadyH.cons (o := _) rfl (fun K hK => ?_) AllReadyH.nil
          obtain ⟨wc, hr, hblk, hoth⟩ := copy_run_z (P := Try.prog) (w := wr.drew) 2 28 28 3 67 Try.underlying28 sizePt (some ⟨S, 0, none⟩) (some ⟨b, o + 2, none⟩) (j + 0 - j) (j + 0 - j) (0 + 1 - 1) (cc - 1) S (j * 2) _ 67 HP2.out (rcells 2 Pt.c r.flat) (by rw [rcells_len, ← HM.out]; simp) (fun h => by simp at h) (by simp [rcells_len, ← HM.out] <;> omega) (Pt.one _)
          refine step_copy_z rfl _ _ 28 28 rfl rfl rfl hr ?_
          refine hK.out _ _ trivial (fun hHeld => ?_)
          clear hK K
          try simp only [Act.put, List.getElem_toArray, List.getElem_cons_zero, List.getElem_cons_succ, List.setIfInBounds_toArray, List.set_cons_zero, List.set_cons_succ]
          refine wpAnyH_done (by kernel_rfl) ?_ _
          refine NoPanic.normal ?_
          have hE := HEnd.out wc (HSp.out wc hblk) (HBr.out.trans ⟨hoth.os, hoth.tape, hoth.output, hoth.size, fun k hk => hoth.block k (Nat.lt_of_lt_of_le hk HBr.out.size) (by omega)⟩)
          have HE := hide hE
          clear hE hblk hoth
          go_wp2_with fail
          exact bodyPost_ret (v := .tuple #[.slice (some ⟨S, 0, none⟩) (j + 0) (j + 0), .bool true]) (by simp [results, Try.results48, go_sem]) rfl HE.out
      · have hcn : ¬ cc = 1 := by omega
        have hjm : ¬ j + M = j := by omega
        go_wp2_with fail
        refine wp_region_noPanic ?_
        refine wp_region_held_drew (S := fun _ => True) (by kernel_rfl) trivial (fun hHeld => ?_)
        refine wpAnyH_take (i := 0) (oi := _) (v := ?_) rfl (by kernel_rfl) (by kernel_rfl) (by kernel_rfl) (fun _ _ _ h => h) (Or.inl ⟨by rfl, ?_⟩) (by assumption) ?_
        rotate_left 1
        · (intro w hSw; (try dsimp only at hSw); (first | (go_simp; done) | (go_simp; with_reducible rfl)))
        try simp only [Act.put, List.getElem_toArray, List.getElem_cons_zero, List.getElem_cons_succ, List.setIfInBounds_toArray, List.set_cons_zero, List.set_cons_succ]
        refine wpAnyH_take (i := 1) (oi := _) (v := ?_) rfl (by kernel_rfl) (by kernel_rfl) (by kernel_rfl) (fun _ _ _ h => h) (Or.inl ⟨by rfl, ?_⟩) (by assumption) ?_
        rotate_left 1
        · (intro w hSw; (try dsimp only at hSw); (first | (go_simp; done) | (go_simp; with_reducible rfl)))
        try simp only [Act.put, List.getElem_toArray, List.getElem_cons_zero, List.getElem_cons_succ, List.setIfInBounds_toArray, List.set_cons_zero, List.set_cons_succ]
        refine wpAnyH_take (i := 2) (oi := _) (v := ?_) rfl (by kernel_rfl) (by kernel_rfl) (by kernel_rfl) (fun _ _ _ h => h) (Or.inl ⟨by rfl, ?_⟩) (by assumption) ?_
        rotate_left 1
        · (intro w hSw; (try dsimp only at hSw); (first | (go_simp; done) | (go_simp; with_reducible rfl)))
        try simp only [Act.put, List.getElem_toArray, List.getElem_cons_zero, List.getElem_cons_succ, List.setIfInBounds_toArray, List.set_cons_zero, List.set_cons_succ]
        refine wpAnyH_take (i := 3) (oi := _) (v := ?_) rfl (by kernel_rfl) (by kernel_rfl) (by kernel_rfl) (fun _ _ _ h => h) (Or.inl ⟨by rfl, ?_⟩) (by assumption) ?_
        rotate_left 1
        · (intro w hSw; (try dsimp only at hSw); (first | (go_simp; done) | (go_simp; with_reducible rfl)))
        try simp only [Act.put, List.getElem_toArray, List.getElem_cons_zero, List.getElem_cons_succ, List.setIfInBounds_toArray, List.set_cons_zero, List.set_cons_succ]
        refine wpAnyH_take (i := 4) (oi := _) (v := ?_) rfl (by kernel_rfl) (by kernel_rfl) (by kernel_rfl) (fun _ _ _ h => h) (Or.inl ⟨by rfl, ?_⟩) (by assumption) ?_
        rotate_left 1
        · (intro w hSw; (try dsimp only at hSw); (first | (go_simp; done) | (go_simp; with_reducible rfl)))
        try simp only [Act.put, List.getElem_toArray, List.getElem_cons_zero, List.getElem_cons_succ, List.setIfInBounds_toArray, List.set_cons_zero, List.set_cons_succ]
        refine wpAnyH_ready (rs := [5]) (by kernel_rfl) (by simp) ?_
        refine AllReadyH.cons (o := _) rfl (fun K hK => ?_) AllReadyH.nil
        obtain ⟨wc, hr, hblk, hoth⟩ := copy_run_z (P := Try.prog) (w := wr.drew) 2 28 28 3 67 Try.underlying28 sizePt (some ⟨S, j * 2, none⟩) (some ⟨b, o + 2, none⟩) M M M (cc - 1) S (j * 2) _ 67 HP2.out (rcells 2 Pt.c r.flat) (by rw [rcells_len, ← HM.out]; simp) (fun _ => ⟨rfl, _, rfl, PtRow.news (HNw.out wr.drew ⟨rfl, rfl, rfl, Nat.le_refl _, fun _ _ => rfl⟩)⟩) (by simp [rcells_len, ← HM.out] <;> omega) (Pt.one _)
        refine step_copy_z rfl _ _ 28 28 rfl rfl rfl hr ?_
        refine hK.out _ _ trivial (fun hHeld => ?_)
        clear hK K
        try simp only [Act.put, List.getElem_toArray, List.getElem_cons_zero, List.getElem_cons_succ, List.setIfInBounds_toArray, List.set_cons_zero, List.set_cons_succ]
        refine wpAnyH_done (by kernel_rfl) ?_ _
        refine NoPanic.normal ?_
        have hE := HEnd.out wc (HSp.out wc hblk) (HBr.out.trans ⟨hoth.os, hoth.tape, hoth.output, hoth.size, fun k hk => hoth.block k (Nat.lt_of_lt_of_le hk HBr.out.size) (by omega)⟩)
        have HE := hide hE
        clear hE hblk hoth
        go_wp2_with fail
        exact bodyPost_ret (v := .tuple #[.slice (some ⟨S, 0, none⟩) (j + M) (j + M), .bool true]) (by simp [results, Try.results48, go_sem]) rfl HE.out
end Go.Proofs.Ytfepljcblajfpab.W

/-
  The specification's NormalOf. Conditions: at most 1048576 cells.
-/
import Derived.Test.YtbimfnnbfbfdoabTeNs
import Derived.Test.YtbimfnnbfbfdoabTeNi
import Derived.Test.YtbimfnnbfbfdoabTeT
namespace Go.Proofs.Ytbimfnnbfbfdoab.W
open Go.ChangeShapes Go.WideShapes Go.ChangeAt Go.RowKit
set_option linter.unusedVariables false

theorem fh_len {x : Cc} {k : F} (hok : okT x k) (hl : k.flat.length + 1 ≤ 600) {p : Cc × F} (h : fh x k = some (some p)) : p.2.flat.length + 1 ≤ 1200 := by
  rcases first_one hok with ⟨f1, -⟩ | ⟨c, pos, f1, -, pre, y, ky, post, h1, h2, h3, h4, h5⟩
  · rw [h] at f1; cases f1
  · rw [h] at f1
    simp only [Option.some.injEq] at f1
    subst f1
    cases hc : ctrO y ky with
    | none => rw [hc] at h5; cases h5
    | some q =>
      rw [hc] at h5
      simp only [Option.map_some, Option.some.injEq] at h5
      have e1 := congrArg List.length h1
      have e2 := congrArg List.length h5
      simp at e1 e2
      have := ctrO_len h3 h4 (by omega) hc
      omega
theorem flatNew (p : Cc × F) (s : Value) (P : Nat → Prop) (w : World) (hl : p.2.flat.length + 1 ≤ 1048576) (hT : KidT w P p.2 s) :
    Calls Try.prog 41 #[.agg #[.int .i64 p.1.k, .int .i64 p.1.n, s], .slice none 0 0] w fun e w' => ∃ v', e = .returned v' ∧ w'.ownsRow w.heap.size 46 2 v' (p.1 :: p.2.flat).length (cv (p.1 :: p.2.flat)) ∧ Below w.heap.size w w' := by
  refine (l3Flat_any p.2 p.1 s (.slice none 0 0) w.heap.size 0 [] P w (fun g _ _ => by simp [Value.ownBlock]) (by omega) (Nat.le_refl _) hT (World.ownsRow_nil _ _ _ _)).mono ?_
  rintro e w' ⟨v', rfl, ho, hg, -⟩
  rw [Nat.zero_add, List.nil_append] at ho
  exact ⟨v', rfl, ho, hg.os, hg.tape, hg.output, hg.size, fun k hk => hg.block k hk (by simp [Value.ownBlock])⟩

set_option maxRecDepth 20000 in
set_option maxHeartbeats 2000000 in
theorem specNormal_bad (ad : Option Addr) (c : Nat) (l : List Cc) (s : Int) (w : World) (hl : l.length ≤ 1048576) (h : CRow w ad l) (hb : goodT l = false ∨ inB s 0 60 = false) :
    Calls Try.prog 20 #[.slice ad l.length c, .int .i64 s] w fun e w' => RN w none e w' := by
  have HC := hide (l3Tree_any ad c l w hl h)
  have HI := hide (l1In_any s 0 60)
  clear h
  cases ht : treeT l with
  | none =>
    rw [ht] at HC
    clear hb ht
    go_enter Try.func20, Try.ntmps20
    go_wp2_with fail
    refine Calls.mono HC.out ?_
    rintro e w1 ⟨hb1, k, n, sad, sn, sc, rfl⟩
    clear HC
    go_wp2_with fail
    exact bodyPost_ret (v := .tuple #[.slice none 0 0, .int .i64 0, .bool false]) (by simp [results, Try.results20, go_sem]) rfl ⟨_, rfl, World.ownsRow_nil _ _ _ _, hb1.alloc hb1.size _⟩
  | some t =>
    have hs : inB s 0 60 = false := by
      rcases hb with h | h
      · unfold goodT at h; rw [ht] at h; cases h
      · exact h
    rw [ht] at HC
    rw [hs] at HI
    clear hb hs ht
    go_enter Try.func20, Try.ntmps20
    go_wp2_with fail
    refine Calls.mono HC.out ?_
    rintro e w1 ⟨hb1, x, k, s', -, rfl, hT⟩
    obtain ⟨sad, sc, rfl⟩ := hT.form
    clear HC hT
    go_wp2_with fail
    refine (HI.out _).mono ?_
    rintro e w' ⟨rfl, rfl⟩
    go_wp2_with fail
    exact bodyPost_ret (v := .tuple #[.slice none 0 0, .int .i64 0, .bool false]) (by simp [results, Try.results20, go_sem]) rfl ⟨_, rfl, World.ownsRow_nil _ _ _ _, hb1.alloc hb1.size _⟩

set_option maxRecDepth 20000 in
set_option maxHeartbeats 4000000 in
theorem specNormal_good (ad : Option Addr) (c : Nat) (l : List Cc) (S : Nat) (x : Cc) (k : F) (w : World) (hl : l.length ≤ 1048576) (hS : S ≤ 60) (ht : treeT l = some (.cons x k .nil)) (h : CRow w ad l) :
    Calls Try.prog 20 #[.slice ad l.length c, .int .i64 (S : Int)] w fun e w' => RN w (nmR l (S : Int)) e w' := by
  have hr : nmR l (S : Int) = (nm S 0 (x, k)).map (fun q => (q.1.1 :: q.1.2.flat, q.2)) := by
    unfold nmR
    rw [if_pos (by simp [inB]; omega), ht, Int.toNat_natCast]
  have HC := hide (l3Tree_any ad c l w hl h)
  rw [ht] at HC
  have HI := hide (l1In_any (S : Int) 0 60)
  rw [show inB (S : Int) 0 60 = true by simp [inB]; omega] at HI
  obtain ⟨e1, ho, -, e4, -⟩ := treeT_flat ht
  obtain ⟨g1, l1, o1, -⟩ := ho
  have hok : okT x k := ⟨g1, l1, o1⟩
  rw [hr]
  obtain ⟨R, hR⟩ : ∃ R, R = nm S 0 (x, k) := ⟨_, rfl⟩
  rw [← hR]
  have HR := hide hR
  have HOk := hide hok
  have hk6 : k.flat.length + 1 ≤ 600 := by rw [e1] at e4; simpa [F.flat] using e4
  clear ht hr h e1 e4 g1 l1 o1 hok hR
  go_enter Try.func20, Try.ntmps20
  go_wp2_with fail
  refine Calls.mono HC.out ?_
  rintro e w1 ⟨hb1, x', k', s, hxe, rfl, hT⟩
  simp only [F.cons.injEq, and_true] at hxe
  obtain ⟨rfl, rfl⟩ := hxe
  have HT := hide hT
  obtain ⟨sad, sc, rfl⟩ := hT.form
  clear HC hT
  obtain ⟨KN, hKN⟩ : ∃ KN, KN = k.len := ⟨_, rfl⟩
  rw [← hKN] at HT ⊢
  clear hKN
  go_wp2_with fail
  refine (HI.out _).mono ?_
  rintro e w' ⟨rfl, rfl⟩
  go_wp2_with fail
  obtain ⟨XB, hXB⟩ : ∃ XB, XB = w1.heap.size := ⟨_, rfl⟩
  obtain ⟨w2, hw2⟩ : ∃ w2, w2 = w1.alloc (.cells #[.int .i64 x.k, .int .i64 x.n, .slice sad KN sc] 40) := ⟨_, rfl⟩
  rw [← hw2, ← hXB]
  have hb2 : Below w1.heap.size w1 w2 := by rw [hw2]; exact (Below.refl _ _).alloc (Nat.le_refl _) _
  have hx2 : w2.heap[XB]? = some (.cells #[.int .i64 x.k, .int .i64 x.n, .slice sad KN sc] 40) := by rw [hw2, hXB]; exact heap_alloc_new _ _
  have hB2 : Below w.heap.size w w2 := hb1.trans (hb2.mono hb1.size)
  have hXw : w.heap.size ≤ XB := by rw [hXB]; exact hb1.size
  have HT2 : Hid (KidT w2 (fun g => g ≠ XB) k (.slice sad KN sc)) := hide (HT.out.old.keep hb2.size (fun g h1 h2 => ⟨hb2.block g h2, by rw [hXB]; exact Nat.ne_of_lt h2⟩))
  have HX2 := hide hx2
  clear hw2 hx2 HT hXB hb2
  go_loopw [9] (fun i w' => ∃ (p : Cc × F) (j : Nat) (sv : Value), j ≤ S ∧ i = .int .i64 (j : Int) ∧ okT p.1 p.2 ∧ p.2.flat.length + 1 ≤ 600 ∧ R = nm (S - j) j p ∧ w'.heap[XB]? = some (.cells #[.int .i64 p.1.k, .int .i64 p.1.n, sv] 40 (0, 0)) ∧ KidT w' (fun g => g ≠ XB) p.2 sv ∧ Below w.heap.size w w') (fun i _ => S - (intOf i).toNat)
  case atStart => exact ⟨(x, k), 0, _, Nat.zero_le _, rfl, HOk.out, hk6, HR.out, HX2.out, HT2.out, hB2⟩
  case round =>
    obtain ⟨p, j, sv, hj, rfl, hok, hp6, hRj, hxb, hKT, hB⟩ := hrel
    clear HX2 HT2 HR HOk hk6 hB2 hb1
    obtain ⟨vad, vc, hvf⟩ := hKT.form
    subst hvf
    have HRj := hide hRj
    have HXb := hide hxb
    have HKT := hide hKT
    have hXlt : XB < wr.heap.size := (Array.getElem?_eq_some_iff.1 hxb).1
    have hS0 := hS
    by_cases hlt : j < S
    · have hlt' : (j : Int) < (S : Int) := by omega
      have hnm : nm (S - j) j p = match fh p.1 p.2 with | none => some (p, j) | some none => none | some (some q) => if goodT (q.1 :: q.2.flat) = true then nm (S - (j + 1)) (j + 1) q else none := by
        rw [show S - j = (S - (j + 1)) + 1 by omega]; rfl
      have HFi := hide (l4First_any p.2 p.1 _ _ wr hok hp6 hKT)
      have HFit := hide (fun (q : Cc × F) (h : fh p.1 p.2 = some (some q)) => (⟨fh_fit hok h, fh_len hok hp6 h⟩ : (F.cons q.1 q.2 .nil).fit ∧ q.2.flat.length + 1 ≤ 1200))
      have u0 : wr.cell? ⟨XB, 0, none⟩ = some (.int .i64 p.1.k) := (cell_of_blk hxb 0).trans rfl
      have u1 : wr.cell? ⟨XB, 1, none⟩ = some (.int .i64 p.1.n) := (cell_of_blk hxb 1).trans rfl
      have u2 : wr.cell? ⟨XB, 2, none⟩ = some (.slice vad p.2.len vc) := (cell_of_blk hxb 2).trans rfl
      obtain ⟨FR, hFR⟩ : ∃ FR, FR = fh p.1 p.2 := ⟨_, rfl⟩
      rw [← hFR] at HFi hnm HFit
      obtain ⟨PN, hPN⟩ : ∃ PN, PN = p.2.len := ⟨_, rfl⟩
      rw [← hPN] at HFi u2 HKT HXb
      have HNm := hide (HRj.out.trans hnm)
      clear hRj hxb hKT hnm hFR hPN HRj
      go_wp2_with fail
      refine Calls.mono HFi.out ?_
      rintro e w3 ⟨hfo, hb3⟩
      have hB3 : Below w.heap.size w w3 := hB.trans (hb3.mono hB.size)
      have hX3 := (hb3.block XB hXlt).trans HXb.out
      have hsz3 := hb3.size
      have HX3 := hide hX3
      have hal : ∀ o : Obj, Below w3.heap.size w3 (w3.alloc o) := fun o => (Below.refl _ _).alloc (Nat.le_refl _) _
      have HKT3 := hide (HKT.out.below hb3)
      clear u0 u1 u2 HFi hX3 HXb HKT hb3
      cases FR with
      | none =>
        obtain rfl : e = .returned (.tuple #[.agg #[.int .i64 0, .int .i64 0, .slice none 0 0], .bool false, .bool true]) := hfo
        have hRe : R = some (p, j) := HNm.out
        have HRe := hide hRe
        have T0 : ∀ o : Obj, (w3.alloc o).cell? ⟨XB, 0, none⟩ = some (.int .i64 p.1.k) := fun o => ((hal o).cell (p := ⟨XB, 0, none⟩) (show XB < w3.heap.size by omega)).trans ((cell_of_blk HX3.out 0).trans rfl)
        have T1 : ∀ o : Obj, (w3.alloc o).cell? ⟨XB, 1, none⟩ = some (.int .i64 p.1.n) := fun o => ((hal o).cell (p := ⟨XB, 1, none⟩) (show XB < w3.heap.size by omega)).trans ((cell_of_blk HX3.out 1).trans rfl)
        have T2 : ∀ o : Obj, (w3.alloc o).cell? ⟨XB, 2, none⟩ = some (.slice vad PN vc) := fun o => ((hal o).cell (p := ⟨XB, 2, none⟩) (show XB < w3.heap.size by omega)).trans ((cell_of_blk HX3.out 2).trans rfl)
        have HFl := hide (fun o : Obj => flatNew p _ _ (w3.alloc o) (by omega) (HKT3.out.below (hal o)))
        have hB3a : ∀ o : Obj, Below w.heap.size w (w3.alloc o) := fun o => hB3.alloc hB3.size o
        have HB3a := hide hB3a
        clear hRe HNm HFit HKT3 HX3 hal hB3a
        go_wp2_with fail
        refine Calls.mono (HFl.out _) ?_
        rintro e w5 ⟨v5, rfl, ho5, hb5⟩
        have hB5 : Below w.heap.size w w5 := (HB3a.out _).trans (hb5.mono (HB3a.out _).size)
        have HO5 := hide (iOwn_lower ho5 (HB3a.out _).size)
        obtain ⟨rad, rc, rfl⟩ := iOwn_form ho5
        obtain ⟨RN', hRN⟩ : ∃ RN', RN' = (p.1 :: p.2.flat).length := ⟨_, rfl⟩
        rw [← hRN] at HO5 ⊢
        have HRN := hide hRN
        clear ho5 hb5 hRN T0 T1 T2 HFl
        go_wp2_with fail
        refine bodyPost_ret (v := .tuple #[.slice rad RN' rc, .int .i64 (j : Int), .bool true]) (by simp [results, Try.results20, go_sem]) rfl ?_
        rw [HRe.out]
        exact ⟨_, rfl, by show w5.ownsRow _ _ 2 _ (p.1 :: p.2.flat).length (cv (p.1 :: p.2.flat)); rw [← HRN.out]; exact HO5.out, hB5⟩
      | some cc =>
        obtain ⟨q, s2, rfl, hK2, hqe⟩ : ∃ (p : Cc × F) (s' : Value), e = .returned (.tuple #[.agg #[.int .i64 p.1.k, .int .i64 p.1.n, s'], .bool true, .bool cc.isSome]) ∧ KidT w3 _ p.2 s' ∧ (∀ q, cc = some q → p = q) := hfo
        obtain ⟨qad, qc, hqf⟩ := hK2.form
        subst hqf
        cases cc with
        | none =>
          have hRe : R = none := HNm.out
          have HRe := hide hRe
          obtain ⟨QN, hQN⟩ : ∃ QN, QN = q.2.len := ⟨_, rfl⟩
          rw [← hQN]
          simp only [Option.isSome_none]
          clear hRe HNm HFit HKT3 HX3 hK2 hqe hQN
          go_wp2_with fail
          refine bodyPost_ret (v := .tuple #[.slice none 0 0, .int .i64 0, .bool false]) (by simp [results, Try.results20, go_sem]) rfl ?_
          rw [HRe.out]
          exact ⟨_, rfl, World.ownsRow_nil _ _ _ _, hB3.alloc hB3.size _⟩
        | some q' =>
          obtain rfl : q = q' := hqe q' rfl
          obtain ⟨hfit, hfl⟩ := HFit.out q rfl
          have hRq : R = if goodT (q.1 :: q.2.flat) = true then nm (S - (j + 1)) (j + 1) q else none := HNm.out
          have HRq := hide hRq
          have HFt := hide hfit
          obtain ⟨w4, hw4⟩ : ∃ w4, w4 = w3.alloc (.cells #[.int .i64 q.1.k, .int .i64 q.1.n, .slice qad q.2.len qc] 40) := ⟨_, rfl⟩
          have hb4 : Below w3.heap.size w3 w4 := by rw [hw4]; exact hal _
          have hy4 : w4.heap[w3.heap.size]? = some (.cells #[.int .i64 q.1.k, .int .i64 q.1.n, .slice qad q.2.len qc] 40) := by rw [hw4]; exact heap_alloc_new _ _
          have hX4 := (hb4.block XB (by omega)).trans HX3.out
          have hB4 : Below w.heap.size w w4 := hB3.trans (hb4.mono hB3.size)
          have hsz4 : w3.heap.size < w4.heap.size := (Array.getElem?_eq_some_iff.1 hy4).1
          have HK4 := hide (hK2.below hb4)
          have HTl := hide (l3Tell_any q.1 q.2 _ _ w4 (by omega) HK4.out)
          have HW4 := hide hw4
          have HY4 := hide hy4
          have HX4 := hide hX4
          obtain ⟨QN, hQN⟩ : ∃ QN, QN = q.2.len := ⟨_, rfl⟩
          rw [← hQN] at HW4 HY4 HTl HK4 ⊢
          obtain ⟨G, hG⟩ : ∃ G, G = goodT (q.1 :: q.2.flat) := ⟨_, rfl⟩
          rw [← hG] at HTl HRq
          have HG := hide hG
          simp only [Option.isSome_some]
          clear hRq hw4 hb4 hy4 hX4 hK2 HKT3 HX3 HNm HFit hfit hQN hG hqe
          go_wp2_with fail
          rw [← HW4.out]
          refine Calls.mono HTl.out ?_
          rintro e w5 ⟨s5, rfl, ho5, hb5⟩
          obtain ⟨zad, zc, rfl⟩ := iOwn_form ho5
          have hB5 : Below w.heap.size w w5 := hB4.trans (hb5.mono hB4.size)
          have hsz5 := hb5.size
          have hX5 := (hb5.block XB (by omega)).trans HX4.out
          have hY5 := (hb5.block w3.heap.size hsz4).trans HY4.out
          have HK5 := hide (HK4.out.below hb5)
          have y0 : w5.cell? ⟨w3.heap.size, 0, none⟩ = some (.int .i64 q.1.k) := (cell_of_blk hY5 0).trans rfl
          have y1 : w5.cell? ⟨w3.heap.size, 1, none⟩ = some (.int .i64 q.1.n) := (cell_of_blk hY5 1).trans rfl
          have y2 : w5.cell? ⟨w3.heap.size, 2, none⟩ = some (.slice qad QN qc) := (cell_of_blk hY5 2).trans rfl
          have x0 : w5.cell? ⟨XB, 0, none⟩ = some (.int .i64 p.1.k) := (cell_of_blk hX5 0).trans rfl
          have x1 : w5.cell? ⟨XB, 1, none⟩ = some (.int .i64 p.1.n) := (cell_of_blk hX5 1).trans rfl
          have x2 : w5.cell? ⟨XB, 2, none⟩ = some (.slice vad PN vc) := (cell_of_blk hX5 2).trans rfl
          have fx := unfrozen_of_blk hX5
          have HX5 := hide hX5
          obtain ⟨ZN, hZN⟩ : ∃ ZN, ZN = (gd (q.1 :: q.2.flat)).length := ⟨_, rfl⟩
          rw [← hZN]
          clear ho5 hb5 HTl HK4 HW4 HY4 HX4 hX5 hY5 hZN
          cases G with
          | true =>
            obtain ⟨hokq, hq6⟩ := good_back HFt.out HG.out.symm
            have HOq := hide hokq
            clear hokq
            go_wp2_with fail
            have hX6 := blk_setCell (i := 2) (blk_setCell (i := 1) (blk_setCell (i := 0) HX5.out (.int .i64 q.1.k)) (.int .i64 q.1.n)) (.slice qad QN qc)
            refine ⟨⟨q, j + 1, .slice qad QN qc, by omega, by go_num, HOq.out, hq6, HRq.out, hX6, HK5.out.keep (by simp [World.setCell]) (fun g h1 h2 => ?_), ((hB5.setCell (p := ⟨XB, 0, none⟩) hXw _).setCell (p := ⟨XB, 1, none⟩) hXw _).setCell (p := ⟨XB, 2, none⟩) hXw _⟩, by simp [intOf]; omega⟩
            have hgx : g ≠ XB := by
              rcases h1 with h | h
              · exact h
              · omega
            exact ⟨by rw [Below.heap_setCell _ _ _ _ hgx, Below.heap_setCell _ _ _ _ hgx, Below.heap_setCell _ _ _ _ hgx], hgx⟩
          | false =>
            have hRe : R = none := HRq.out
            have HRe := hide hRe
            clear hRe HRq
            go_wp2_with fail
            refine bodyPost_ret (v := .tuple #[.slice none 0 0, .int .i64 0, .bool false]) (by simp [results, Try.results20, go_sem]) rfl ?_
            rw [HRe.out]
            exact ⟨_, rfl, World.ownsRow_nil _ _ _ _, hB5⟩
    · obtain rfl : j = S := by omega
      have hRe : R = some (p, j) := by rw [HRj.out, Nat.sub_self]; rfl
      have HRe := hide hRe
      have HFl := hide (flatNew p _ _ wr (by omega) hKT)
      have u0 : wr.cell? ⟨XB, 0, none⟩ = some (.int .i64 p.1.k) := (cell_of_blk hxb 0).trans rfl
      have u1 : wr.cell? ⟨XB, 1, none⟩ = some (.int .i64 p.1.n) := (cell_of_blk hxb 1).trans rfl
      have u2 : wr.cell? ⟨XB, 2, none⟩ = some (.slice vad p.2.len vc) := (cell_of_blk hxb 2).trans rfl
      obtain ⟨PN, hPN⟩ : ∃ PN, PN = p.2.len := ⟨_, rfl⟩
      rw [← hPN] at HFl u2
      clear hRe hRj HRj hxb hKT hPN HXb HKT
      go_wp2_with fail
      refine Calls.mono HFl.out ?_
      rintro e w5 ⟨v5, rfl, ho5, hb5⟩
      have hB5 : Below w.heap.size w w5 := hB.trans (hb5.mono hB.size)
      have HO5 := hide (iOwn_lower ho5 hB.size)
      obtain ⟨rad, rc, rfl⟩ := iOwn_form ho5
      obtain ⟨RN', hRN⟩ : ∃ RN', RN' = (p.1 :: p.2.flat).length := ⟨_, rfl⟩
      rw [← hRN] at HO5 ⊢
      have HRN := hide hRN
      clear ho5 hb5 hRN u0 u1 u2 HFl
      go_wp2_with fail
      refine bodyPost_ret (v := .tuple #[.slice rad RN' rc, .int .i64 (j : Int), .bool true]) (by simp [results, Try.results20, go_sem]) rfl ?_
      rw [HRe.out]
      exact ⟨_, rfl, by show w5.ownsRow _ _ 2 _ (p.1 :: p.2.flat).length (cv (p.1 :: p.2.flat)); rw [← HRN.out]; exact HO5.out, hB5⟩

theorem specNormal_any (ad : Option Addr) (c : Nat) (l : List Cc) (s : Int) (w : World) (hl : l.length ≤ 1048576) (h : CRow w ad l) :
    Calls Try.prog 20 #[.slice ad l.length c, .int .i64 s] w fun e w' => RN w (nmR l s) e w' := by
  cases hs : inB s 0 60 with
  | false =>
    have hr : nmR l s = none := by unfold nmR; rw [if_neg (by rw [hs]; simp)]
    rw [hr]
    exact specNormal_bad ad c l s w hl h (.inr hs)
  | true =>
    have h5 : 0 ≤ s ∧ s ≤ 60 := by simpa [inB] using hs
    obtain ⟨S, rfl⟩ := Int.eq_ofNat_of_zero_le h5.1
    cases ht : treeT l with
    | none =>
      have hr : nmR l (S : Int) = none := by unfold nmR; rw [if_pos hs, ht]
      rw [hr]
      exact specNormal_bad ad c l _ w hl h (.inl (by unfold goodT; rw [ht]; rfl))
    | some t =>
      obtain ⟨x, k, rfl⟩ := F.len_1 (treeT_flat ht).2.2.1
      exact specNormal_good ad c l S x k w hl (by omega) ht h
end Go.Proofs.Ytbimfnnbfbfdoab.W

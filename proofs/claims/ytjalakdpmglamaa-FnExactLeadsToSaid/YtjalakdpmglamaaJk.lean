/-
  Some texts of this proof in one: TeRi, TeKa.
-/
import Derived.Test.YtjalakdpmglamaaJj
/-
  Redexes as the program finds them: contracts of sumCell, isRedex. Conditions: rows that open with a good term, of at most 1048576 cells.
-/
namespace Go.Proofs.Ytjalakdpmglamaa.W
open Go.ChangeShapes Go.WideShapes Go.ChangeAt Go.RowKit
set_option linter.unusedVariables false

set_option maxRecDepth 20000 in
set_option maxHeartbeats 1000000 in
theorem sumCell_any (b o c n : Nat) (y z : Int) (w : World) (hn : 2 < n) (hb : b < w.heap.size) (q1 : w.cell? ⟨b, o + 3, none⟩ = some (.int .i64 y)) (q2 : w.cell? ⟨b, o + 5, none⟩ = some (.int .i64 z)) (hy : -1000000 ≤ y ∧ y ≤ 1000000) (hz : -1000000 ≤ z ∧ z ≤ 1000000) :
    Calls Try.prog 36 #[.slice (some ⟨b, o, none⟩) n c] w fun e w' => e = .returned (.agg #[.int .i64 2, .int .i64 (y + z)]) ∧ Below w.heap.size w w' := by
  have hn1 : (1 : Int) < (n : Int) := by omega
  have hn2 : (2 : Int) < (n : Int) := by omega
  have hw : IntKind.i64.wrap (y + z) = y + z := by rw [IntWalk.i64_in _ ⟨by omega, by omega⟩]
  clear hn
  go_enter Try.func36, Try.ntmps36
  go_wp2_with fail
  obtain ⟨w3, hw3⟩ : ∃ w3, w3 = w.alloc (.cells #[.int .i64 0, .int .i64 0] 39) := ⟨_, rfl⟩
  rw [← hw3]
  have hB3 : Below w.heap.size w w3 := by rw [hw3]; exact (Below.refl _ _).alloc (Nat.le_refl _) _
  have hh3 : w3.heap[w.heap.size]? = some (.cells #[.int .i64 0, .int .i64 0] 39) := by rw [hw3]; exact heap_alloc_new _ _
  have e1 := (hB3.cell (p := ⟨b, o + 3, none⟩) hb).trans q1
  have e2 := (hB3.cell (p := ⟨b, o + 5, none⟩) hb).trans q2
  have z0 := cell_of_blk hh3 0
  have z1 := cell_of_blk hh3 1
  have fz := unfrozen_of_blk hh3
  simp only [List.getElem?_toArray, List.getElem?_cons_zero, List.getElem?_cons_succ] at z0 z1
  have hng : ¬ b = w.heap.size := by omega
  have hng2 : ¬ w.heap.size = b := by omega
  have HB4 := hide (belowDrw hB3)
  have HH := hide hh3
  clear hw3 hB3 hh3 q1 q2
  go_region_held3 (fun w' => w'.cell? ⟨b, o + 3, none⟩ = some (.int .i64 y) ∧ w'.cell? ⟨b, o + 5, none⟩ = some (.int .i64 z)) (go_keep)
    (fail)
  go_wp2_with fail
  have hk := blk_setCell (i := 1) (blk_setCell (i := 0) HH.out (.int .i64 2)) (.int .i64 (y + z))
  have hk2 : ((w3.setCell ⟨w.heap.size, 0, none⟩ (.int .i64 2)).setCell ⟨w.heap.size, 1, none⟩ (.int .i64 (y + z))).drew.heap[w.heap.size]? = some (.cells #[.int .i64 2, .int .i64 (y + z)] 39 (0, 0)) := hk
  have c0 := cell_of_blk hk2 0
  have c1 := cell_of_blk hk2 1
  simp only [List.getElem?_toArray, List.getElem?_cons_zero, List.getElem?_cons_succ] at c0 c1
  exact bodyPost_ret (v := .agg #[.int .i64 2, .int .i64 (y + z)]) (by simp [results, Try.results36, go_sem, c0, c1]) rfl ⟨rfl, (HB4.out.setCell (p := ⟨w.heap.size, 0, none⟩) (Nat.le_refl _) _).setCell (p := ⟨w.heap.size, 1, none⟩) (Nat.le_refl _) _⟩

set_option maxRecDepth 20000 in
set_option maxHeartbeats 2000000 in
theorem isRedex_any (ad : Option Addr) (c : Nat) (l : List Cc) (w : World) (hl : l.length ≤ 1048576) (hO : RedOK l) (h : CRow w ad l) :
    Calls Try.prog 25 #[.slice ad l.length c] w fun e w' => e = .returned (.bool (isRl l)) ∧ Below w.heap.size w w' := by
  obtain ⟨b, o, rfl, hb, p0, p1⟩ := h.tok (Below.refl _ _) hO.l0
  have q : ∀ i, i < l.length → w.cell? ⟨b, o + i * 2, none⟩ = some (.int .i64 (kOf l i)) ∧ w.cell? ⟨b, o + i * 2 + 1, none⟩ = some (.int .i64 (nAt l i)) := by
    intro i hi
    obtain ⟨b', o', he, -, p0, p1⟩ := h.tok (Below.refl _ _) hi
    simp only [Option.some.injEq, Addr.mk.injEq] at he
    obtain ⟨rfl, rfl, -⟩ := he
    rw [kOf_lt hi, nAt_lt hi]
    exact ⟨p0, p1⟩
  clear p0 p1 h
  obtain ⟨l0, l1, l2, nb1, nb2⟩ := hO
  have p0 := (q 0 l0).1
  rw [Nat.zero_mul, Nat.add_zero] at p0
  unfold isRl
  have q1 := q 1
  have q2 := q 2
  clear q
  rw [show 1 * 2 = 2 from rfl] at q1
  rw [show 2 * 2 = 4 from rfl] at q2
  have hl0 : (0 : Int) < (l.length : Int) := by omega
  obtain ⟨L, hL⟩ : ∃ L, L = l.length := ⟨_, rfl⟩
  obtain ⟨x, hx⟩ : ∃ x, x = kOf l 0 := ⟨_, rfl⟩
  obtain ⟨y, hy⟩ : ∃ y, y = kOf l 1 := ⟨_, rfl⟩
  obtain ⟨z, hz⟩ : ∃ z, z = kOf l 2 := ⟨_, rfl⟩
  obtain ⟨yn, hyn⟩ : ∃ yn, yn = nAt l 1 := ⟨_, rfl⟩
  obtain ⟨zn, hzn⟩ : ∃ zn, zn = nAt l 2 := ⟨_, rfl⟩
  rw [← hL] at hl l0 l1 l2 q1 q2 hl0 ⊢
  rw [← hx] at l1 l2 nb1 nb2 p0 ⊢
  rw [← hy] at l2 nb1 nb2 q1 ⊢
  rw [← hz] at nb2 q2 ⊢
  rw [← hyn] at nb1 q1 ⊢
  rw [← hzn] at nb2 q2 ⊢
  clear hL hx hy hz hyn hzn l0
  by_cases h4 : x = 4
  · subst h4
    have hl1 := l1 (.inl rfl)
    have hl1' : (1 : Int) < (L : Int) := by omega
    have r1 := (q1 hl1).1
    rw [if_pos rfl]
    clear q1 q2 l1 l2 nb1 nb2
    go_enter Try.func25, Try.ntmps25
    go_wp2_with fail
    go_ret
    exact ⟨ret_bool (by rw [Bool.eq_iff_iff]; simp), Below.refl _ _⟩
  · by_cases h7 : x = 7
    · subst h7
      clear q1 q2 l1 l2 nb1 nb2
      rw [if_neg h4, if_pos rfl]
      clear h4
      go_enter Try.func25, Try.ntmps25
      go_wp2_with fail
      go_ret
      exact ⟨rfl, Below.refl _ _⟩
    · by_cases h6 : x = 6
      · subst h6
        have hl1 := l1 (.inr (.inr rfl))
        have hl1' : (1 : Int) < (L : Int) := by omega
        have r1 := (q1 hl1).1
        rw [if_neg h4, if_neg h7, if_neg (by omega), if_pos rfl]
        clear q1 q2 l1 l2 nb1 nb2 h4 h7
        go_enter Try.func25, Try.ntmps25
        go_wp2_with fail
        go_ret
        exact ⟨ret_bool (by rw [Bool.eq_iff_iff]; simp), Below.refl _ _⟩
      · by_cases h5 : x = 5
        · subst h5
          have hl1 := l1 (.inr (.inl rfl))
          have hl1' : (1 : Int) < (L : Int) := by omega
          obtain ⟨r1, r1n⟩ := q1 hl1
          rw [if_neg h4, if_neg h7, if_pos rfl]
          clear q1 h4 h7 h6
          by_cases hy : y = 2
          · subst hy
            have hl2 := l2 rfl rfl
            have hl2' : (2 : Int) < (L : Int) := by omega
            obtain ⟨r2, r2n⟩ := q2 hl2
            have n1 := nb1 rfl rfl
            have n2 := nb2 rfl rfl
            clear q2 nb1 nb2 l1 l2
            rw [decide_eq_true rfl, Bool.true_and]
            by_cases hz : z = 2
            · subst hz
              have n2' := n2 rfl
              rw [decide_eq_true rfl, Bool.true_and]
              have HS := hide (fun w' (hb' : Below w.heap.size w w') => sumCell_any b o c L yn zn w' hl2 (Nat.lt_of_lt_of_le hb hb'.size) ((hb'.cell (p := ⟨b, o + 3, none⟩) hb).trans r1n) ((hb'.cell (p := ⟨b, o + 5, none⟩) hb).trans r2n) n1 n2')
              have HG := hide (fun w' => goodCell_any ⟨2, yn + zn⟩ w')
              simp only at HG
              have hgc : goodC ⟨2, yn + zn⟩ = inB (yn + zn) (-1000000) 1000000 := rfl
              rw [hgc] at HG
              obtain ⟨V, hV⟩ : ∃ V, V = inB (yn + zn) (-1000000) 1000000 := ⟨_, rfl⟩
              rw [← hV] at HG ⊢
              clear hV hgc n1 n2 n2'
              go_enter Try.func25, Try.ntmps25
              go_wp2_with fail
              refine Calls.mono (HS.out _ (Below.refl _ _)) ?_
              rintro e w1 ⟨rfl, hb1⟩
              go_wp2_with fail
              refine Calls.mono (HG.out _) ?_
              rintro e w2 ⟨rfl, hb2⟩
              go_wp2_with fail
              go_ret
              exact ⟨rfl, hb1.trans (hb2.mono hb1.size)⟩
            · rw [decide_eq_false hz]
              have hzb : (z == 2) = false := by simp [hz]
              clear n1 n2
              go_enter Try.func25, Try.ntmps25
              go_wp2_with fail
              go_ret
              exact ⟨rfl, ⟨rfl, rfl, rfl, Nat.le_refl _, fun _ _ => rfl⟩⟩
          · rw [decide_eq_false hy]
            have hyb : (y == 2) = false := by simp [hy]
            clear q2 l1 l2 nb1 nb2
            go_enter Try.func25, Try.ntmps25
            go_wp2_with fail
            go_ret
            exact ⟨rfl, ⟨rfl, rfl, rfl, Nat.le_refl _, fun _ _ => rfl⟩⟩
        · rw [if_neg h4, if_neg h7, if_neg h5, if_neg h6]
          clear q1 q2 l1 l2 nb1 nb2
          go_enter Try.func25, Try.ntmps25
          go_wp2_with fail
          go_ret
          exact ⟨rfl, Below.refl _ _⟩
end Go.Proofs.Ytjalakdpmglamaa.W

/-
  A term cut from what is behind it: a contract of cutAhead. Conditions: at most 1048576 cells.
-/
namespace Go.Proofs.Ytjalakdpmglamaa.W
open Go.ChangeShapes Go.WideShapes Go.ChangeAt Go.RowKit
set_option linter.unusedVariables false

set_option maxRecDepth 20000 in
set_option maxHeartbeats 2000000 in
theorem cutAhead_any (b o c : Nat) (l : List Cc) (n : Nat) (w : World) (hl : l.length ≤ 1048576) (hc : l.length ≤ c) (hz : sz l 1 0 = some n) (hn : n ≤ l.length) (h : CRowAt w b o l) :
    Calls Try.prog 43 #[.slice (some ⟨b, o, none⟩) l.length c] w fun e w' => ∃ q, e = .returned (.tuple #[.slice (some ⟨b, o, none⟩) n c, .slice (some ⟨b, q, none⟩) (l.length - n) (c - n)]) ∧ (n < l.length → q = o + n * 2) ∧ Below w.heap.size w w' := by
  have HR : Hid (CRow w (some ⟨b, o, none⟩) l) := hide (.inr ⟨b, o, rfl, h⟩)
  have HZ := hide hz
  clear h hz
  go_enter Try.func43, Try.ntmps43
  go_wp2_with fail
  go_loopw [4, 5] (fun i m w' => ∃ (j M : Nat), j ≤ l.length ∧ M ≤ 2 * j + 1 ∧ i = .int .i64 j ∧ m = .int .i64 M ∧ sz (l.drop j) M j = some n ∧ w' = w) (fun i _ _ => l.length - (intOf i).toNat)
  case atStart => exact ⟨0, 1, by omega, by omega, rfl, rfl, HZ.out, rfl⟩
  case round =>
    obtain ⟨j, M, hj, hM, rfl, rfl, hs, rfl⟩ := hrel
    by_cases hM0 : M = 0
    · subst hM0
      rw [sz_0] at hs
      simp only [Option.some.injEq] at hs
      subst hs
      have h1 : (0 : Int) ≤ (j : Int) := by omega
      have h2 : (j : Int) ≤ (l.length : Int) := by omega
      have h3 : (l.length : Int) ≤ (c : Int) := by omega
      have h4 : (j : Int) ≤ (c : Int) := by omega
      clear hM HZ
      by_cases hcj : c = j
      · obtain rfl : c = l.length := by omega
        subst hcj
        go_wp2_with fail
        go_quiet (fail)
        go_wp2_with fail
        exact bodyPost_ret (v := .tuple #[.slice (some ⟨b, o, none⟩) l.length l.length, .slice (some ⟨b, o, none⟩) (l.length - l.length) (l.length - l.length)]) (by simp [results, Try.results43, go_sem]) rfl ⟨o, rfl, fun h => absurd h (Nat.lt_irrefl _), ⟨rfl, rfl, rfl, Nat.le_refl _, fun _ _ => rfl⟩⟩
      · go_wp2_with fail
        go_quiet (fail)
        go_wp2_with fail
        exact bodyPost_ret (v := .tuple #[.slice (some ⟨b, o, none⟩) j c, .slice (some ⟨b, o + j * 2, none⟩) (l.length - j) (c - j)]) (by simp [results, Try.results43, go_sem]) rfl ⟨_, rfl, fun _ => rfl, ⟨rfl, rfl, rfl, Nat.le_refl _, fun _ _ => rfl⟩⟩
    · have hMi : (0 : Int) < (M : Int) := by omega
      have hlt : j < l.length := by
        rcases Nat.lt_or_ge j l.length with h | h
        · exact h
        · rw [List.drop_eq_nil_of_le h, sz, if_neg hM0] at hs; cases hs
      have hlt' : (j : Int) < (l.length : Int) := by omega
      obtain ⟨b', o', he, hb, p0, p1⟩ := HR.out.tok (Below.refl _ _) hlt
      simp only [Option.some.injEq, Addr.mk.injEq] at he
      obtain ⟨rfl, rfl, -⟩ := he
      have hd : l.drop j = l[j] :: l.drop (j + 1) := List.drop_eq_getElem_cons hlt
      obtain ⟨x, hx⟩ : ∃ x, x = l[j] := ⟨_, rfl⟩
      rw [← hx] at p0 p1 hd
      rw [hd, sz, if_neg hM0] at hs
      have hg : goodC x = true := by
        cases hg : goodC x with
        | true => rfl
        | false => rw [hg] at hs; simp at hs
      rw [if_pos hg] at hs
      have HSz := hide hs
      clear hs hd hx hg
      go_wp2_with fail
      refine (termsBehind_any x.k _).mono ?_
      rintro e w2 ⟨rfl, rfl⟩
      have hle := ar_le x.k
      obtain ⟨R, hR⟩ : ∃ R, R = ar x.k := ⟨_, rfl⟩
      rw [← hR] at HSz hle ⊢
      clear hR p0 p1
      go_wp2_with fail
      refine ⟨⟨j + 1, M - 1 + R, by omega, by omega, by go_num, by go_num, HSz.out, by trivial⟩, by simp [intOf]; omega⟩
end Go.Proofs.Ytjalakdpmglamaa.W

/-
  Some texts of this proof in one: TeRi, TeKa, TeKb, TeKc.
-/
import Derived.Test.YtjmgnljjeogdlaaJaf
import Derived.Test.YtjmgnljjeogdlaaJad
import Derived.Test.YtjmgnljjeogdlaaJag
/-
  Redexes as the program finds them: contracts of sumCell, isRedex. Conditions: rows that open with a good term, of at most 1048576 cells.
-/
namespace Go.Proofs.Ytjmgnljjeogdlaa.W
open Go.ChangeShapes Go.WideShapes Go.ChangeAt Go.RowKit
set_option linter.unusedVariables false

set_option maxRecDepth 20000 in
set_option maxHeartbeats 1000000 in
theorem sumCell_any (b o c n : Nat) (y z : Int) (w : World) (hn : 2 < n) (hb : b < w.heap.size) (q1 : w.cell? ⟨b, o + 3, none⟩ = some (.int .i64 y)) (q2 : w.cell? ⟨b, o + 5, none⟩ = some (.int .i64 z)) (hy : -1000000 ≤ y ∧ y ≤ 1000000) (hz : -1000000 ≤ z ∧ z ≤ 1000000) :
    Calls Try.prog 82 #[.slice (some ⟨b, o, none⟩) n c] w fun e w' => e = .returned (.agg #[.int .i64 2, .int .i64 (y + z)]) ∧ Below w.heap.size w w' := by
  have hn1 : (1 : Int) < (n : Int) := by omega
  have hn2 : (2 : Int) < (n : Int) := by omega
  have hw : IntKind.i64.wrap (y + z) = y + z := by rw [IntWalk.i64_in _ ⟨by omega, by omega⟩]
  clear hn
  go_enter Try.func82, Try.ntmps82
  go_wp2_with fail
  obtain ⟨w3, hw3⟩ : ∃ w3, w3 = w.alloc (.cells #[.int .i64 0, .int .i64 0] 62) := ⟨_, rfl⟩
  rw [← hw3]
  have hB3 : Below w.heap.size w w3 := by rw [hw3]; exact (Below.refl _ _).alloc (Nat.le_refl _) _
  have hh3 : w3.heap[w.heap.size]? = some (.cells #[.int .i64 0, .int .i64 0] 62) := by rw [hw3]; exact heap_alloc_new _ _
  have e1 := (hB3.cell (p := ⟨b, o + 3, none⟩) hb).trans q1
  have e2 := (hB3.cell (p := ⟨b, o + 5, none⟩) hb).trans q2
  have z0 := cell_of_blk hh3 0
  have z1 := cell_of_blk hh3 1
  have fz := unfrozen_of_blk hh3
  simp only [List.getElem?_toArray, List.getElem?_cons_zero, List.getElem?_cons_succ] at z0 z1
  have hng : ¬ b = w.heap.size := by omega
  have hng2 : ¬ w.heap.size = b := by omega
  have HB4 := hide (belowDrw hB3)
  have HH := hide hh3
  clear hw3 hB3 hh3 q1 q2
  go_region_held3 (fun w' => w'.cell? ⟨b, o + 3, none⟩ = some (.int .i64 y) ∧ w'.cell? ⟨b, o + 5, none⟩ = some (.int .i64 z)) (go_keep)
    (fail)
  go_wp2_with fail
  have hk := blk_setCell (i := 1) (blk_setCell (i := 0) HH.out (.int .i64 2)) (.int .i64 (y + z))
  have hk2 : ((w3.setCell ⟨w.heap.size, 0, none⟩ (.int .i64 2)).setCell ⟨w.heap.size, 1, none⟩ (.int .i64 (y + z))).drew.heap[w.heap.size]? = some (.cells #[.int .i64 2, .int .i64 (y + z)] 62 (0, 0)) := hk
  have c0 := cell_of_blk hk2 0
  have c1 := cell_of_blk hk2 1
  simp only [List.getElem?_toArray, List.getElem?_cons_zero, List.getElem?_cons_succ] at c0 c1
  exact bodyPost_ret (v := .agg #[.int .i64 2, .int .i64 (y + z)]) (by simp [results, Try.results82, go_sem, c0, c1]) rfl ⟨rfl, (HB4.out.setCell (p := ⟨w.heap.size, 0, none⟩) (Nat.le_refl _) _).setCell (p := ⟨w.heap.size, 1, none⟩) (Nat.le_refl _) _⟩

set_option maxRecDepth 20000 in
set_option maxHeartbeats 2000000 in
theorem isRedex_any (ad : Option Addr) (c : Nat) (l : List Cc) (w : World) (hl : l.length ≤ 1048576) (hO : RedOK l) (h : CRow w ad l) :
    Calls Try.prog 63 #[.slice ad l.length c] w fun e w' => e = .returned (.bool (isRl l)) ∧ Below w.heap.size w w' := by
  obtain ⟨b, o, rfl, hb, p0, p1⟩ := h.tok (Below.refl _ _) hO.l0
  have q : ∀ i, i < l.length → w.cell? ⟨b, o + i * 2, none⟩ = some (.int .i64 (kOf l i)) ∧ w.cell? ⟨b, o + i * 2 + 1, none⟩ = some (.int .i64 (nAt l i)) := by
    intro i hi
    obtain ⟨b', o', he, -, p0, p1⟩ := h.tok (Below.refl _ _) hi
    simp only [Option.some.injEq, Addr.mk.injEq] at he
    obtain ⟨rfl, rfl, -⟩ := he
    rw [kOf_lt hi, nAt_lt hi]
    exact ⟨p0, p1⟩
  clear p0 p1 h
  obtain ⟨l0, l1, l2, nb1, nb2⟩ := hO
  have p0 := (q 0 l0).1
  rw [Nat.zero_mul, Nat.add_zero] at p0
  unfold isRl
  have q1 := q 1
  have q2 := q 2
  clear q
  rw [show 1 * 2 = 2 from rfl] at q1
  rw [show 2 * 2 = 4 from rfl] at q2
  have hl0 : (0 : Int) < (l.length : Int) := by omega
  obtain ⟨L, hL⟩ : ∃ L, L = l.length := ⟨_, rfl⟩
  obtain ⟨x, hx⟩ : ∃ x, x = kOf l 0 := ⟨_, rfl⟩
  obtain ⟨y, hy⟩ : ∃ y, y = kOf l 1 := ⟨_, rfl⟩
  obtain ⟨z, hz⟩ : ∃ z, z = kOf l 2 := ⟨_, rfl⟩
  obtain ⟨yn, hyn⟩ : ∃ yn, yn = nAt l 1 := ⟨_, rfl⟩
  obtain ⟨zn, hzn⟩ : ∃ zn, zn = nAt l 2 := ⟨_, rfl⟩
  rw [← hL] at hl l0 l1 l2 q1 q2 hl0 ⊢
  rw [← hx] at l1 l2 nb1 nb2 p0 ⊢
  rw [← hy] at l2 nb1 nb2 q1 ⊢
  rw [← hz] at nb2 q2 ⊢
  rw [← hyn] at nb1 q1 ⊢
  rw [← hzn] at nb2 q2 ⊢
  clear hL hx hy hz hyn hzn l0
  by_cases h4 : x = 4
  · subst h4
    have hl1 := l1 (.inl rfl)
    have hl1' : (1 : Int) < (L : Int) := by omega
    have r1 := (q1 hl1).1
    rw [if_pos rfl]
    clear q1 q2 l1 l2 nb1 nb2
    go_enter Try.func63, Try.ntmps63
    go_wp2_with fail
    go_ret
    exact ⟨ret_bool (by rw [Bool.eq_iff_iff]; simp), Below.refl _ _⟩
  · by_cases h7 : x = 7
    · subst h7
      clear q1 q2 l1 l2 nb1 nb2
      rw [if_neg h4, if_pos rfl]
      clear h4
      go_enter Try.func63, Try.ntmps63
      go_wp2_with fail
      go_ret
      exact ⟨rfl, Below.refl _ _⟩
    · by_cases h6 : x = 6
      · subst h6
        have hl1 := l1 (.inr (.inr rfl))
        have hl1' : (1 : Int) < (L : Int) := by omega
        have r1 := (q1 hl1).1
        rw [if_neg h4, if_neg h7, if_neg (by omega), if_pos rfl]
        clear q1 q2 l1 l2 nb1 nb2 h4 h7
        go_enter Try.func63, Try.ntmps63
        go_wp2_with fail
        go_ret
        exact ⟨ret_bool (by rw [Bool.eq_iff_iff]; simp), Below.refl _ _⟩
      · by_cases h5 : x = 5
        · subst h5
          have hl1 := l1 (.inr (.inl rfl))
          have hl1' : (1 : Int) < (L : Int) := by omega
          obtain ⟨r1, r1n⟩ := q1 hl1
          rw [if_neg h4, if_neg h7, if_pos rfl]
          clear q1 h4 h7 h6
          by_cases hy : y = 2
          · subst hy
            have hl2 := l2 rfl rfl
            have hl2' : (2 : Int) < (L : Int) := by omega
            obtain ⟨r2, r2n⟩ := q2 hl2
            have n1 := nb1 rfl rfl
            have n2 := nb2 rfl rfl
            clear q2 nb1 nb2 l1 l2
            rw [decide_eq_true rfl, Bool.true_and]
            by_cases hz : z = 2
            · subst hz
              have n2' := n2 rfl
              rw [decide_eq_true rfl, Bool.true_and]
              have HS := hide (fun w' (hb' : Below w.heap.size w w') => sumCell_any b o c L yn zn w' hl2 (Nat.lt_of_lt_of_le hb hb'.size) ((hb'.cell (p := ⟨b, o + 3, none⟩) hb).trans r1n) ((hb'.cell (p := ⟨b, o + 5, none⟩) hb).trans r2n) n1 n2')
              have HG := hide (fun w' => goodCell_any ⟨2, yn + zn⟩ w')
              simp only at HG
              have hgc : goodC ⟨2, yn + zn⟩ = inB (yn + zn) (-1000000) 1000000 := rfl
              rw [hgc] at HG
              obtain ⟨V, hV⟩ : ∃ V, V = inB (yn + zn) (-1000000) 1000000 := ⟨_, rfl⟩
              rw [← hV] at HG ⊢
              clear hV hgc n1 n2 n2'
              go_enter Try.func63, Try.ntmps63
              go_wp2_with fail
              refine Calls.mono (HS.out _ (Below.refl _ _)) ?_
              rintro e w1 ⟨rfl, hb1⟩
              go_wp2_with fail
              refine Calls.mono (HG.out _) ?_
              rintro e w2 ⟨rfl, hb2⟩
              go_wp2_with fail
              go_ret
              exact ⟨rfl, hb1.trans (hb2.mono hb1.size)⟩
            · rw [decide_eq_false hz]
              have hzb : (z == 2) = false := by simp [hz]
              clear n1 n2
              go_enter Try.func63, Try.ntmps63
              go_wp2_with fail
              go_ret
              exact ⟨rfl, ⟨rfl, rfl, rfl, Nat.le_refl _, fun _ _ => rfl⟩⟩
          · rw [decide_eq_false hy]
            have hyb : (y == 2) = false := by simp [hy]
            clear q2 l1 l2 nb1 nb2
            go_enter Try.func63, Try.ntmps63
            go_wp2_with fail
            go_ret
            exact ⟨rfl, ⟨rfl, rfl, rfl, Nat.le_refl _, fun _ _ => rfl⟩⟩
        · rw [if_neg h4, if_neg h7, if_neg h5, if_neg h6]
          clear q1 q2 l1 l2 nb1 nb2
          go_enter Try.func63, Try.ntmps63
          go_wp2_with fail
          go_ret
          exact ⟨rfl, Below.refl _ _⟩
end Go.Proofs.Ytjmgnljjeogdlaa.W

/-
  A term cut from what is behind it: a contract of cutAhead. Conditions: at most 1048576 cells.
-/
namespace Go.Proofs.Ytjmgnljjeogdlaa.W
open Go.ChangeShapes Go.WideShapes Go.ChangeAt Go.RowKit
set_option linter.unusedVariables false

set_option maxRecDepth 20000 in
set_option maxHeartbeats 2000000 in
theorem cutAhead_any (b o c : Nat) (l : List Cc) (n : Nat) (w : World) (hl : l.length ≤ 1048576) (hc : l.length ≤ c) (hz : sz l 1 0 = some n) (hn : n ≤ l.length) (h : CRowAt w b o l) :
    Calls Try.prog 73 #[.slice (some ⟨b, o, none⟩) l.length c] w fun e w' => ∃ q, e = .returned (.tuple #[.slice (some ⟨b, o, none⟩) n c, .slice (some ⟨b, q, none⟩) (l.length - n) (c - n)]) ∧ (n < l.length → q = o + n * 2) ∧ Below w.heap.size w w' := by
  have HR : Hid (CRow w (some ⟨b, o, none⟩) l) := hide (.inr ⟨b, o, rfl, h⟩)
  have HZ := hide hz
  clear h hz
  go_enter Try.func73, Try.ntmps73
  go_wp2_with fail
  go_loopw [4, 5] (fun i m w' => ∃ (j M : Nat), j ≤ l.length ∧ M ≤ 2 * j + 1 ∧ i = .int .i64 j ∧ m = .int .i64 M ∧ sz (l.drop j) M j = some n ∧ w' = w) (fun i _ _ => l.length - (intOf i).toNat)
  case atStart => exact ⟨0, 1, by omega, by omega, rfl, rfl, HZ.out, rfl⟩
  case round =>
    obtain ⟨j, M, hj, hM, rfl, rfl, hs, rfl⟩ := hrel
    by_cases hM0 : M = 0
    · subst hM0
      rw [sz_0] at hs
      simp only [Option.some.injEq] at hs
      subst hs
      have h1 : (0 : Int) ≤ (j : Int) := by omega
      have h2 : (j : Int) ≤ (l.length : Int) := by omega
      have h3 : (l.length : Int) ≤ (c : Int) := by omega
      have h4 : (j : Int) ≤ (c : Int) := by omega
      clear hM HZ
      by_cases hcj : c = j
      · obtain rfl : c = l.length := by omega
        subst hcj
        go_wp2_with fail
        go_quiet (fail)
        go_wp2_with fail
        exact bodyPost_ret (v := .tuple #[.slice (some ⟨b, o, none⟩) l.length l.length, .slice (some ⟨b, o, none⟩) (l.length - l.length) (l.length - l.length)]) (by simp [results, Try.results73, go_sem]) rfl ⟨o, rfl, fun h => absurd h (Nat.lt_irrefl _), ⟨rfl, rfl, rfl, Nat.le_refl _, fun _ _ => rfl⟩⟩
      · go_wp2_with fail
        go_quiet (fail)
        go_wp2_with fail
        exact bodyPost_ret (v := .tuple #[.slice (some ⟨b, o, none⟩) j c, .slice (some ⟨b, o + j * 2, none⟩) (l.length - j) (c - j)]) (by simp [results, Try.results73, go_sem]) rfl ⟨_, rfl, fun _ => rfl, ⟨rfl, rfl, rfl, Nat.le_refl _, fun _ _ => rfl⟩⟩
    · have hMi : (0 : Int) < (M : Int) := by omega
      have hlt : j < l.length := by
        rcases Nat.lt_or_ge j l.length with h | h
        · exact h
        · rw [List.drop_eq_nil_of_le h, sz, if_neg hM0] at hs; cases hs
      have hlt' : (j : Int) < (l.length : Int) := by omega
      obtain ⟨b', o', he, hb, p0, p1⟩ := HR.out.tok (Below.refl _ _) hlt
      simp only [Option.some.injEq, Addr.mk.injEq] at he
      obtain ⟨rfl, rfl, -⟩ := he
      have hd : l.drop j = l[j] :: l.drop (j + 1) := List.drop_eq_getElem_cons hlt
      obtain ⟨x, hx⟩ : ∃ x, x = l[j] := ⟨_, rfl⟩
      rw [← hx] at p0 p1 hd
      rw [hd, sz, if_neg hM0] at hs
      have hg : goodC x = true := by
        cases hg : goodC x with
        | true => rfl
        | false => rw [hg] at hs; simp at hs
      rw [if_pos hg] at hs
      have HSz := hide hs
      clear hs hd hx hg
      go_wp2_with fail
      refine (termsBehind_any x.k _).mono ?_
      rintro e w2 ⟨rfl, rfl⟩
      have hle := ar_le x.k
      obtain ⟨R, hR⟩ : ∃ R, R = ar x.k := ⟨_, rfl⟩
      rw [← hR] at HSz hle ⊢
      clear hR p0 p1
      go_wp2_with fail
      refine ⟨⟨j + 1, M - 1 + R, by omega, by omega, by go_num, by go_num, HSz.out, by trivial⟩, by simp [intOf]; omega⟩
end Go.Proofs.Ytjmgnljjeogdlaa.W

/-
  Rows of cells made anew out of others: contracts of slices.Grow, slices.Clone and slices.Concat at cells. Conditions: at most 1048576 cells.
-/
namespace Go.Proofs.Ytjmgnljjeogdlaa.W
open Go.ChangeShapes Go.WideShapes Go.ChangeAt Go.RowKit
set_option linter.unusedVariables false

theorem belowDrwK {B : Nat} {x y : World} (h : Below B x y) : Below B x y.drew := ⟨h.os, h.tape, h.output, h.size, h.block⟩
theorem mkAll (n : Nat) (hn : n ≤ 1048576) (w : World) :
    (Instr.makeSlice 23 (.int .i64 (n : Int)) (.int .i64 (n : Int))).run Try.prog w = .ok (.slice (some ⟨w.heap.size, 0, none⟩) n n) (w.alloc (.cells (madeCells #[.int .i64 0, .int .i64 0] (n * 2)) 62)) := mk_cells n hn w

set_option maxRecDepth 20000 in
set_option maxHeartbeats 2000000 in
theorem growC_any (n : Nat) (h0 : 0 < n) (hn : n ≤ 1048576) (w : World) :
    Calls Try.prog 85 #[.slice none 0 0, .int .i64 (n : Int)] w fun e w' => ∃ g cap, e = .returned (.slice (some ⟨g, 0, none⟩) 0 cap) ∧ w'.ownsRow w.heap.size 62 2 (.slice (some ⟨g, 0, none⟩) 0 cap) 0 [] ∧ Below w.heap.size w w' := by
  have hby : Try.t62.bytes = 16 := by kernel_rfl
  have h48 : ¬ 281474976710656 < Builtin.nextslicecap n 0 * Try.t62.bytes := by rw [nextslicecap_zero h0, hby]; omega
  have h49 : (n : Int) * (Try.t62.bytes : Int) ≤ 281474976710656 := by rw [hby]; omega
  have hni : (0 : Int) < (n : Int) := by omega
  have hn0 : ¬ n = 0 := by omega
  have hn63 : (n : Int) ≤ 9223372036854775807 := by omega
  have hge : n ≤ grownCap w n 0 62 := grownCap_ge _ _ _ _
  have hle : grownCap w n 0 62 ≤ maxLen := grownCap_le_maxLen w n 0 _ (by unfold maxLen; omega)
  have HGe := hide hge
  have HLe := hide hle
  clear hby hge hle
  go_enter Try.func85, Try.ntmps85
  go_wp2_with fail
  have hge := HGe.out
  have hle := HLe.out
  unfold grownCap at hge hle
  go_ret
  exact ⟨_, _, rfl, ⟨rfl, .inr ⟨w.heap.size, _, _, rfl, Nat.le_refl _, heap_alloc_new w _, by omega, hle, by simp [size_zeroCells]; omega, by simp⟩⟩, belowDrwK ((Below.refl _ _).alloc (Nat.le_refl _) _)⟩

theorem cv_at : ∀ (l : List Cc) (j : Nat) (u : Value), (cv l)[j]? = some u → ∃ i, ∃ h : i < l.length, (j = i * 2 ∧ u = .int .i64 l[i].k) ∨ (j = i * 2 + 1 ∧ u = .int .i64 l[i].n)
  | [], j, u, h => by simp [cv] at h
  | x :: l, 0, u, h => ⟨0, by simp, .inl ⟨rfl, by simpa [cv] using h.symm⟩⟩
  | x :: l, 1, u, h => ⟨0, by simp, .inr ⟨rfl, by simpa [cv] using h.symm⟩⟩
  | x :: l, j + 2, u, h => by
    obtain ⟨i, hi, h1 | h1⟩ := cv_at l j u (by simpa [cv] using h)
    · exact ⟨i + 1, by simp; omega, .inl ⟨by omega, by simpa using h1.2⟩⟩
    · exact ⟨i + 1, by simp; omega, .inr ⟨by omega, by simpa using h1.2⟩⟩
theorem cv_one : ∀ (l : List Cc), ∀ u ∈ cv l, u.oneCell' = true
  | [], u, h => by simp [cv] at h
  | x :: l, u, h => by
    simp only [cv, List.mem_cons] at h
    rcases h with rfl | rfl | h
    · rfl
    · rfl
    · exact cv_one l u h
theorem CRow.news {w : World} {b o : Nat} {l : List Cc} (h : CRow w (some ⟨b, o, none⟩) l) : ∀ j u, (cv l)[j]? = some u → w.cell? ((⟨b, o, none⟩ : Addr).add j) = some u := by
  intro j u hu
  obtain ⟨i, hi, hc⟩ := cv_at l j u hu
  obtain ⟨b', o', he, -, p0, p1⟩ := h.tok (Below.refl _ _) hi
  simp only [Option.some.injEq, Addr.mk.injEq] at he
  obtain ⟨rfl, rfl, -⟩ := he
  rw [iAdd]
  rcases hc with ⟨rfl, rfl⟩ | ⟨rfl, rfl⟩
  · exact p0
  · rw [← Nat.add_assoc]; exact p1

set_option maxRecDepth 20000 in
set_option maxHeartbeats 2000000 in
theorem cloneC_any (b o c : Nat) (l : List Cc) (w : World) (hl : l.length ≤ 1048576) (h : CRow w (some ⟨b, o, none⟩) l) :
    Calls Try.prog 84 #[.slice (some ⟨b, o, none⟩) l.length c] w fun e w' => ∃ v, e = .returned v ∧ w'.ownsRow w.heap.size 62 2 v l.length (cv l) ∧ Below w.heap.size w w' := by
  obtain ⟨i0, hi0, hz0, hz1, hz2⟩ := infoPartsT infoCe
  have Hi := hide hi0
  have HR := hide h
  clear hi0 h
  go_enter Try.func84, Try.ntmps84
  have hnil : ∀ w, (binOp .eql 23 (.slice (some ⟨b, o, none⟩) l.length c) (.slice none 0 0)).run Try.prog w = .ok (.bool false) w := fun w => by rw [Lib.run_eql_slice_nil w 23 62 _ _ _ _ _ Try.underlying23]; rfl
  have HO0 : Hid ((w.alloc (.cells #[] 62)).ownsRow w.heap.size 62 2 (.slice (some ⟨w.heap.size, 0, none⟩) 0 0) 0 []) := hide ⟨rfl, .inr ⟨w.heap.size, 0, #[], rfl, Nat.le_refl _, heap_alloc_new w _, Nat.le_refl _, by omega, rfl, rfl⟩⟩
  have HNw := hide (HR.out.below ((Below.refl _ _).alloc (Nat.le_refl _) (.cells #[] 62))).news
  have M1 : Hid (0 + l.length ≤ maxLen) := hide (by unfold maxLen; omega)
  have HCl := hide (cv_len l)
  have hbB : w.heap.size ≤ (w.alloc (.cells #[] 62)).heap.size := by simp
  go_wp2_with (at_builtin; refine wpList_append_own _ rfl _ _ 23 rfl w.heap.size 62 i0 (.agg #[.int .i64 0, .int .i64 0]) 2 16 Try.underlying23 Hi.out hz0 hz1 hz2 rfl (by decide) _ 0 [] rfl HO0.out ⟨b, o, none⟩ l.length c (cv l) rfl HCl.out HNw.out (cv_one l) M1.out (by omega) hbB ?_)
  intro v1 w1 hown1 hgrow1 _
  obtain ⟨ad1, c1', rfl⟩ := iOwn_form hown1
  have hB1 : Below w.heap.size w w1 := ((Below.refl _ _).alloc (Nat.le_refl _) _).grown hgrow1 hbB (fun k hk => by simp only [Value.ownBlock, Option.some.injEq] at hk; omega)
  have HO1 := hide hown1
  clear hown1 hgrow1
  go_wp2_with fail
  go_ret
  exact ⟨_, rfl, HO1.out, hB1⟩

set_option maxRecDepth 20000 in
set_option maxHeartbeats 2000000 in
theorem concatC_any (g b1 o1 c1 b2 o2 c2 b3 o3 c3 : Nat) (l1 l2 l3 : List Cc) (w : World) (h0 : 0 < l1.length + l2.length + l3.length) (hl : l1.length + l2.length + l3.length ≤ 1048576) (hg : g < w.heap.size)
    (q1 : w.cell? ⟨g, 0, none⟩ = some (.slice (some ⟨b1, o1, none⟩) l1.length c1)) (q2 : w.cell? ⟨g, 1, none⟩ = some (.slice (some ⟨b2, o2, none⟩) l2.length c2)) (q3 : w.cell? ⟨g, 2, none⟩ = some (.slice (some ⟨b3, o3, none⟩) l3.length c3))
    (h1 : CRow w (some ⟨b1, o1, none⟩) l1) (h2 : CRow w (some ⟨b2, o2, none⟩) l2) (h3 : CRow w (some ⟨b3, o3, none⟩) l3) :
    Calls Try.prog 74 #[.slice (some ⟨g, 0, none⟩) 3 3] w fun e w' => ∃ v, e = .returned v ∧ w'.ownsRow w.heap.size 62 2 v (l1.length + l2.length + l3.length) (cv (l1 ++ l2 ++ l3)) ∧ Below w.heap.size w w' := by
  obtain ⟨i0, hi0, hz0, hz1, hz2⟩ := infoPartsT infoCe
  have Hi := hide hi0
  have H1 := hide h1
  have H2 := hide h2
  have H3 := hide h3
  clear hi0 h1 h2 h3
  go_enter Try.func74, Try.ntmps74
  go_wp2_with fail
  obtain ⟨n1, hn1⟩ : ∃ n1, n1 = l1.length := ⟨_, rfl⟩
  obtain ⟨n2, hn2⟩ : ∃ n2, n2 = l2.length := ⟨_, rfl⟩
  obtain ⟨n3, hn3⟩ : ∃ n3, n3 = l3.length := ⟨_, rfl⟩
  rw [← hn1] at q1
  rw [← hn2] at q2
  rw [← hn3] at q3
  rw [← hn1, ← hn2, ← hn3] at h0 hl
  have HN1 := hide hn1
  have HN2 := hide hn2
  have HN3 := hide hn3
  clear hn1 hn2 hn3
  go_loopw [3, 11] (fun s i w' => w' = w ∧ ((i = .int .i64 0 ∧ s = .int .i64 0) ∨ (i = .int .i64 1 ∧ s = .int .i64 (n1 : Int)) ∨ (i = .int .i64 2 ∧ s = .int .i64 ((n1 : Int) + (n2 : Int))) ∨ (i = .int .i64 3 ∧ s = .int .i64 ((n1 : Int) + (n2 : Int) + (n3 : Int))))) (fun _ i _ => 3 - (intOf i).toNat)
  case atStart => exact ⟨rfl, .inl ⟨rfl, rfl⟩⟩
  case round =>
    obtain ⟨rfl, ⟨rfl, rfl⟩ | ⟨rfl, rfl⟩ | ⟨rfl, rfl⟩ | ⟨rfl, rfl⟩⟩ := hrel
    · go_wp2_with fail
      exact ⟨⟨trivial, .inr (.inl ⟨rfl, rfl⟩)⟩, by decide⟩
    · go_wp2_with fail
      exact ⟨⟨trivial, .inr (.inr (.inl ⟨rfl, rfl⟩))⟩, by decide⟩
    · go_wp2_with fail
      exact ⟨⟨trivial, .inr (.inr (.inr ⟨rfl, rfl⟩))⟩, by decide⟩
    · go_wp2_with fail
      obtain ⟨N, hN⟩ : ∃ N, N = n1 + n2 + n3 := ⟨_, rfl⟩
      have hsum : (n1 : Int) + (n2 : Int) + (n3 : Int) = (N : Int) := by omega
      rw [hsum]
      clear hsum
      refine (growC_any N (by omega) (by omega) _).mono ?_
      have HN := hide hN
      clear hN
      rintro e w1 ⟨g1, k1, rfl, ho1, hb1⟩
      have HO1 := hide ho1
      clear ho1
      obtain ⟨W0, hW0⟩ : ∃ W0, W0 = wr := ⟨_, rfl⟩
      subst hW0
      go_wp2_with fail
      go_loopw [6, 27] (fun v i w' => Below W0.heap.size W0 w' ∧ ((i = .int .i64 0 ∧ w'.ownsRow W0.heap.size 62 2 v 0 []) ∨ (i = .int .i64 1 ∧ w'.ownsRow W0.heap.size 62 2 v n1 (cv l1)) ∨ (i = .int .i64 2 ∧ w'.ownsRow W0.heap.size 62 2 v (n1 + n2) (cv l1 ++ cv l2)) ∨ (i = .int .i64 3 ∧ w'.ownsRow W0.heap.size 62 2 v (n1 + n2 + n3) (cv l1 ++ (cv l2 ++ cv l3))))) (fun _ i _ => 3 - (intOf i).toNat)
      case atStart => exact ⟨hb1, .inl ⟨rfl, HO1.out⟩⟩
      case round =>
        clear HO1 hb1
        obtain ⟨hBr, ⟨rfl, ho⟩ | ⟨rfl, ho⟩ | ⟨rfl, ho⟩ | ⟨rfl, ho⟩⟩ := hrel
        · obtain ⟨va, vc, rfl⟩ := iOwn_form ho
          have HO := hide ho
          have s1 := (hBr.cell (p := ⟨g, 0, none⟩) hg).trans q1
          have HNw := hide (H1.out.below hBr).news
          have HCl := hide (cv_len l1)
          have M1 : Hid (0 + n1 ≤ maxLen) := hide (by unfold maxLen; omega)
          have hlo : W0.heap.size ≤ wr.heap.size := hBr.size
          have hne := HN1.out
          rw [← hne] at HCl
          have hob : ∀ k, (Value.slice va (0) vc).ownBlock = some k → W0.heap.size ≤ k := fun k hk => (HO.out.lt k hk).1
          have HOb := hide hob
          clear ho hne hob
          go_wp2_with (at_builtin; refine wpList_append_own _ rfl _ _ 23 rfl W0.heap.size 62 i0 (.agg #[.int .i64 0, .int .i64 0]) 2 16 Try.underlying23 Hi.out hz0 hz1 hz2 rfl (by decide) _ (0) ([]) rfl HO.out ⟨b1, o1, none⟩ n1 c1 (cv l1) rfl HCl.out HNw.out (cv_one _) M1.out (by omega) hlo ?_)
          intro v2 w2 hown2 hgrow2 _
          have hB2 : Below W0.heap.size W0 w2 := hBr.grown hgrow2 hlo (fun k hk => HOb.out k hk)
          have HO2 := hide hown2
          obtain ⟨va2, vc2, rfl⟩ := iOwn_form hown2
          clear hown2 hgrow2 HOb
          go_wp2_with fail
          exact ⟨⟨hB2, .inr (.inl ⟨rfl, HO2.out⟩)⟩, by decide⟩
        · obtain ⟨va, vc, rfl⟩ := iOwn_form ho
          have HO := hide ho
          have s1 := (hBr.cell (p := ⟨g, 1, none⟩) hg).trans q2
          have HNw := hide (H2.out.below hBr).news
          have HCl := hide (cv_len l2)
          have M1 : Hid (n1 + n2 ≤ maxLen) := hide (by unfold maxLen; omega)
          have hlo : W0.heap.size ≤ wr.heap.size := hBr.size
          have hne := HN2.out
          rw [← hne] at HCl
          have hob : ∀ k, (Value.slice va (n1) vc).ownBlock = some k → W0.heap.size ≤ k := fun k hk => (HO.out.lt k hk).1
          have HOb := hide hob
          clear ho hne hob
          go_wp2_with (at_builtin; refine wpList_append_own _ rfl _ _ 23 rfl W0.heap.size 62 i0 (.agg #[.int .i64 0, .int .i64 0]) 2 16 Try.underlying23 Hi.out hz0 hz1 hz2 rfl (by decide) _ n1 (cv l1) rfl HO.out ⟨b2, o2, none⟩ n2 c2 (cv l2) rfl HCl.out HNw.out (cv_one _) M1.out (by omega) hlo ?_)
          intro v2 w2 hown2 hgrow2 _
          have hB2 : Below W0.heap.size W0 w2 := hBr.grown hgrow2 hlo (fun k hk => HOb.out k hk)
          have HO2 := hide hown2
          obtain ⟨va2, vc2, rfl⟩ := iOwn_form hown2
          clear hown2 hgrow2 HOb
          go_wp2_with fail
          exact ⟨⟨hB2, .inr (.inr (.inl ⟨rfl, HO2.out⟩))⟩, by decide⟩
        · obtain ⟨va, vc, rfl⟩ := iOwn_form ho
          have HO := hide ho
          have s1 := (hBr.cell (p := ⟨g, 2, none⟩) hg).trans q3
          have HNw := hide (H3.out.below hBr).news
          have HCl := hide (cv_len l3)
          have M1 : Hid (n1 + n2 + n3 ≤ maxLen) := hide (by unfold maxLen; omega)
          have hlo : W0.heap.size ≤ wr.heap.size := hBr.size
          have hne := HN3.out
          rw [← hne] at HCl
          have hob : ∀ k, (Value.slice va (n1 + n2) vc).ownBlock = some k → W0.heap.size ≤ k := fun k hk => (HO.out.lt k hk).1
          have HOb := hide hob
          clear ho hne hob
          go_wp2_with (at_builtin; refine wpList_append_own _ rfl _ _ 23 rfl W0.heap.size 62 i0 (.agg #[.int .i64 0, .int .i64 0]) 2 16 Try.underlying23 Hi.out hz0 hz1 hz2 rfl (by decide) _ (n1 + n2) (cv l1 ++ cv l2) rfl HO.out ⟨b3, o3, none⟩ n3 c3 (cv l3) rfl HCl.out HNw.out (cv_one _) M1.out (by omega) hlo ?_)
          intro v2 w2 hown2 hgrow2 _
          have hB2 : Below W0.heap.size W0 w2 := hBr.grown hgrow2 hlo (fun k hk => HOb.out k hk)
          have HO2 := hide hown2
          obtain ⟨va2, vc2, rfl⟩ := iOwn_form hown2
          clear hown2 hgrow2 HOb
          go_wp2_with fail
          exact ⟨⟨hB2, .inr (.inr (.inr ⟨rfl, HO2.out⟩))⟩, by decide⟩
        · obtain ⟨va, vc, rfl⟩ := iOwn_form ho
          have HO := hide ho
          clear ho
          go_wp2_with fail
          go_ret
          refine ⟨_, rfl, ?_, hBr⟩
          have h := HO.out
          rw [← cv_app, ← cv_app, ← List.append_assoc] at h
          rw [← HN1.out, ← HN2.out, ← HN3.out]
          exact h
end Go.Proofs.Ytjmgnljjeogdlaa.W

/-
  A redex contracted by the program: a contract of contracted. Conditions: good terms.
-/
namespace Go.Proofs.Ytjmgnljjeogdlaa.W
open Go.ChangeShapes Go.WideShapes Go.ChangeAt Go.RowKit
set_option linter.unusedVariables false

theorem RU.up {w w2 w' : World} {r : Option (List Cc)} {e : Ending} (h : RU w2 r e w') (hb : Below w.heap.size w w2) : RU w r e w' := by
  obtain ⟨s', h1, h2, h3⟩ := h
  exact ⟨s', h1, iOwn_lower h2 hb.size, hb.trans (h3.mono hb.size)⟩
theorem CRowAt.front {w : World} {b o : Nat} {l m : List Cc} (h : CRowAt w b o (l ++ m)) : CRowAt w b o l := by
  refine ⟨h.1, fun i hi => ?_⟩
  have := h.2 i (by simp; omega)
  rwa [List.getElem_append_left hi] at this
theorem CRowAt.back {w : World} {b o : Nat} {l m : List Cc} (h : CRowAt w b o (l ++ m)) : CRowAt w b (o + l.length * 2) m := by
  have := h.drop l.length
  rwa [List.drop_left] at this
theorem sz_one {y : Cc} {ky : F} (h : okT y ky) (r : List Cc) : sz ((y :: ky.flat) ++ r) 1 0 = some (ky.flat.length + 1) := by
  have := sz_flat (.cons y ky .nil) r 0 0 ⟨h.1, h.2.1, h.2.2, trivial⟩
  simp only [F.flat, F.len, List.append_nil, Nat.zero_add, List.length_cons] at this
  rw [this, sz_0]
theorem tree_one {y : Cc} {ky : F} (h : okT y ky) (hl : ky.flat.length + 1 ≤ 600) : treeT (y :: ky.flat) = some (.cons y ky .nil) := by
  have := treeT_back (a := .cons y ky .nil) ⟨h.1, h.2.1, h.2.2, trivial⟩ rfl (by simp [F.flat]; omega)
  simpa [F.flat] using this
theorem sbU_put (b z : Cc) (kb kz : F) : sbU (b :: kb.flat) 0 (z :: kz.flat) b kb z kz = (putO b kb z kz).map fun p => p.1 :: p.2.flat := by
  unfold sbU putO
  simp only [List.length_cons, Nat.add_sub_cancel]
  split <;> rfl

/-- Two terms one behind the other are cut, and one is put into the other. -/
theorem cut_any (b o c : Nat) (y z : Cc) (ky kz : F) (w : World) (hy : okT y ky) (hz : okT z kz) (L : Nat) (hL : L = (ky.flat.length + 1) + (kz.flat.length + 1)) (hl : L ≤ 600) (hc : L ≤ c) (h : CRowAt w b o ((y :: ky.flat) ++ (z :: kz.flat))) :
    Calls Try.prog 73 #[.slice (some ⟨b, o, none⟩) L c] w fun e w' => e = .returned (.tuple #[.slice (some ⟨b, o, none⟩) (ky.flat.length + 1) c, .slice (some ⟨b, o + (ky.flat.length + 1) * 2, none⟩) (kz.flat.length + 1) (c - (ky.flat.length + 1))]) ∧ Below w.heap.size w w' := by
  have hlen : ((y :: ky.flat) ++ (z :: kz.flat)).length = L := by rw [hL]; simp; omega
  have := cutAhead_any b o c ((y :: ky.flat) ++ (z :: kz.flat)) (ky.flat.length + 1) w (by omega) (by omega) (sz_one hy _) (by omega) h
  rw [hlen] at this
  refine this.mono ?_
  rintro e w' ⟨q, rfl, hq, hb⟩
  obtain rfl := hq (by omega)
  rw [show L - (ky.flat.length + 1) = kz.flat.length + 1 by omega]
  exact ⟨rfl, hb⟩

theorem subst_any (b o c sb so sc : Nat) (y z : Cc) (ky kz : F) (w : World) (hy : okT y ky) (hz : okT z kz) (hl : ky.flat.length + 1 ≤ 600) (hlz : kz.flat.length + 1 ≤ 600) (hc : ky.flat.length + 1 ≤ c) (hsc : kz.flat.length + 1 ≤ sc) (h : CRowAt w b o (y :: ky.flat)) (hs : CRowAt w sb so (z :: kz.flat)) :
    Calls Try.prog 25 #[.slice (some ⟨b, o, none⟩) (ky.flat.length + 1) c, .int .i64 0, .slice (some ⟨sb, so, none⟩) (kz.flat.length + 1) sc] w fun e w' => RU w ((putO y ky z kz).map fun p => p.1 :: p.2.flat) e w' := by
  have := substituted_any (some ⟨b, o, none⟩) (some ⟨sb, so, none⟩) c sc (y :: ky.flat) (z :: kz.flat) 0 y z ky kz w (by simp; omega) (by simpa using hc) (.inr ⟨b, o, rfl, h⟩) (by simp; omega) (by simpa using hsc) (.inr ⟨sb, so, rfl, hs⟩) (tree_one hy hl) (tree_one hz hlz) (by omega)
  rw [sbU_put] at this
  exact this

set_option maxRecDepth 20000 in
set_option maxHeartbeats 2000000 in
theorem contracted_app (b o c : Nat) (x y d z : Cc) (kd kz : F) (w : World) (hx : x.k = 4) (hd : okT d kd) (hz : okT z kz) (L : Nat) (hL : L = (kd.flat.length + 1) + (kz.flat.length + 1) + 2) (hl : L ≤ 600) (hc : L ≤ c) (h : CRowAt w b o ([x, y] ++ ((d :: kd.flat) ++ (z :: kz.flat)))) :
    Calls Try.prog 71 #[.slice (some ⟨b, o, none⟩) L c] w fun e w' => RU w ((putO d kd z kz).map fun p => p.1 :: p.2.flat) e w' := by
  have p0 := (h.2 0 (by simp)).1
  simp only [Nat.zero_mul, Nat.add_zero, List.cons_append, List.getElem_cons_zero] at p0
  rw [hx] at p0
  have HB := hide h.back
  have HC := hide (cut_any b (o + 4) (c - 2) d z kd kz w hd hz (L - 2) (by omega) (by omega) (by omega) h.back)
  have HS := hide (fun (w' : World) (hb : Below w.heap.size w w') => subst_any b (o + 4) (c - 2) b (o + 4 + (kd.flat.length + 1) * 2) (c - 2 - (kd.flat.length + 1)) d z kd kz w' hd hz (by omega) (by omega) (by omega) (by omega) (h.back.front.below hb) (h.back.back.below hb))
  have hL2 : (2 : Int) ≤ (L : Int) := by omega
  have hLc : (L : Int) ≤ (c : Int) := by omega
  have hL0 : (0 : Int) < (L : Int) := by omega
  have h2c : (2 : Int) ≤ (c : Int) := by omega
  have hcn : ¬ c = 2 := by omega
  obtain ⟨N, hN⟩ : ∃ N, N = kd.flat.length + 1 := ⟨_, rfl⟩
  obtain ⟨M, hM⟩ : ∃ M, M = kz.flat.length + 1 := ⟨_, rfl⟩
  rw [← hN, ← hM] at HC HS
  clear h hN hM hL
  go_enter Try.func71, Try.ntmps71
  go_wp2_with fail
  refine Calls.mono HC.out ?_
  rintro e w1 ⟨rfl, hb1⟩
  go_wp2_with fail
  refine Calls.mono (HS.out _ hb1) ?_
  rintro e w2 hr
  obtain ⟨s', rfl, h2, h3⟩ := hr.up hb1
  obtain ⟨ad2, c2, rfl⟩ := iOwn_form h2
  have HO := hide h2
  obtain ⟨R, hR⟩ : ∃ R, R = (putO d kd z kz).map fun p => p.1 :: p.2.flat := ⟨_, rfl⟩
  rw [← hR] at HO ⊢
  have HR := hide hR
  clear h2 hR hr
  go_wp2_with fail
  refine bodyPost_ret (v := .tuple #[.slice ad2 (R.getD []).length c2, .bool R.isSome]) (by simp [results, Try.results71, go_sem]) rfl ?_
  rw [← HR.out]
  exact ⟨_, rfl, HO.out, h3⟩

set_option maxRecDepth 20000 in
set_option maxHeartbeats 2000000 in
theorem contracted_let (b o c : Nat) (x z d : Cc) (kz kd : F) (w : World) (hx : x.k = 7) (hz : okT z kz) (hd : okT d kd) (L : Nat) (hL : L = (kz.flat.length + 1) + (kd.flat.length + 1) + 1) (hl : L ≤ 600) (hc : L ≤ c) (h : CRowAt w b o ([x] ++ ((z :: kz.flat) ++ (d :: kd.flat)))) :
    Calls Try.prog 71 #[.slice (some ⟨b, o, none⟩) L c] w fun e w' => RU w ((putO d kd z kz).map fun p => p.1 :: p.2.flat) e w' := by
  have p0 := (h.2 0 (by simp)).1
  simp only [Nat.zero_mul, Nat.add_zero, List.cons_append, List.getElem_cons_zero] at p0
  rw [hx] at p0
  have HB := hide h.back
  have HC := hide (cut_any b (o + 2) (c - 1) z d kz kd w hz hd (L - 1) (by omega) (by omega) (by omega) h.back)
  have HS := hide (fun (w' : World) (hb : Below w.heap.size w w') => subst_any b (o + 2 + (kz.flat.length + 1) * 2) (c - 1 - (kz.flat.length + 1)) b (o + 2) (c - 1) d z kd kz w' hd hz (by omega) (by omega) (by omega) (by omega) (h.back.back.below hb) (h.back.front.below hb))
  have hL2 : (1 : Int) ≤ (L : Int) := by omega
  have hLc : (L : Int) ≤ (c : Int) := by omega
  have hL0 : (0 : Int) < (L : Int) := by omega
  have h2c : (1 : Int) ≤ (c : Int) := by omega
  have hcn : ¬ c = 1 := by omega
  obtain ⟨N, hN⟩ : ∃ N, N = kd.flat.length + 1 := ⟨_, rfl⟩
  obtain ⟨M, hM⟩ : ∃ M, M = kz.flat.length + 1 := ⟨_, rfl⟩
  rw [← hN, ← hM] at HC HS
  clear h hN hM hL
  go_enter Try.func71, Try.ntmps71
  go_wp2_with fail
  refine Calls.mono HC.out ?_
  rintro e w1 ⟨rfl, hb1⟩
  go_wp2_with fail
  refine Calls.mono (HS.out _ hb1) ?_
  rintro e w2 hr
  obtain ⟨s', rfl, h2, h3⟩ := hr.up hb1
  obtain ⟨ad2, c2, rfl⟩ := iOwn_form h2
  have HO := hide h2
  obtain ⟨R, hR⟩ : ∃ R, R = (putO d kd z kz).map fun p => p.1 :: p.2.flat := ⟨_, rfl⟩
  rw [← hR] at HO ⊢
  have HR := hide hR
  clear h2 hR hr
  go_wp2_with fail
  refine bodyPost_ret (v := .tuple #[.slice ad2 (R.getD []).length c2, .bool R.isSome]) (by simp [results, Try.results71, go_sem]) rfl ?_
  rw [← HR.out]
  exact ⟨_, rfl, HO.out, h3⟩

set_option maxRecDepth 20000 in
set_option maxHeartbeats 2000000 in
theorem contracted_add (b o c : Nat) (x y z : Cc) (w : World) (hx : x.k = 5) (hyn : -1000000 ≤ y.n ∧ y.n ≤ 1000000) (hzn : -1000000 ≤ z.n ∧ z.n ≤ 1000000) (h : CRowAt w b o [x, y, z]) :
    Calls Try.prog 71 #[.slice (some ⟨b, o, none⟩) 3 c] w fun e w' => RU w (some [⟨2, y.n + z.n⟩]) e w' := by
  have p0 := (h.2 0 (by simp)).1
  have p1 := (h.2 1 (by simp)).2
  have p2 := (h.2 2 (by simp)).2
  simp only [Nat.zero_mul, Nat.add_zero, List.getElem_cons_zero] at p0
  simp only [List.getElem_cons_succ, List.getElem_cons_zero] at p1 p2
  rw [hx] at p0
  have HS := hide (sumCell_any b o c 3 y.n z.n w (by omega) h.1 p1 p2 hyn hzn)
  clear h p1 p2
  go_enter Try.func71, Try.ntmps71
  go_wp2_with fail
  refine Calls.mono HS.out ?_
  rintro e w1 ⟨rfl, hb1⟩
  go_wp2_with fail
  refine bodyPost_ret (v := .tuple #[.slice (some ⟨w1.heap.size, 0, none⟩) 1 1, .bool true]) (by simp [results, Try.results71, go_sem]) rfl ⟨_, rfl, ?_, hb1.alloc hb1.size _⟩
  exact ⟨rfl, .inr ⟨w1.heap.size, 1, _, rfl, hb1.size, heap_alloc_new w1 _, Nat.le_refl _, by unfold maxLen; omega, rfl, rfl⟩⟩

set_option maxRecDepth 20000 in
set_option maxHeartbeats 2000000 in
theorem contracted_if (b o c : Nat) (x y z u : Cc) (kz ku : F) (w : World) (hx : x.k = 6) (hz : okT z kz) (hu : okT u ku) (L : Nat) (hL : L = (kz.flat.length + 1) + (ku.flat.length + 1) + 2) (hl : L ≤ 600) (hc : L ≤ c) (h : CRowAt w b o ([x, y] ++ ((z :: kz.flat) ++ (u :: ku.flat)))) :
    Calls Try.prog 71 #[.slice (some ⟨b, o, none⟩) L c] w fun e w' => RU w (some (if y.n = 0 then z :: kz.flat else u :: ku.flat)) e w' := by
  have p0 := (h.2 0 (by simp)).1
  have p1 := (h.2 1 (by simp)).2
  simp only [Nat.zero_mul, Nat.add_zero, List.cons_append, List.getElem_cons_zero] at p0
  simp only [List.cons_append, List.getElem_cons_succ, List.getElem_cons_zero] at p1
  rw [hx] at p0
  have hb0 := h.1
  have HC := hide (cut_any b (o + 4) (c - 2) z u kz ku w hz hu (L - 2) (by omega) (by omega) (by omega) h.back)
  have H1 := hide (fun (w' : World) (hb : Below w.heap.size w w') => cloneC_any b (o + 4) (c - 2) (z :: kz.flat) w' (by simp; omega) (.inr ⟨b, _, rfl, h.back.front.below hb⟩))
  have H2 := hide (fun (w' : World) (hb : Below w.heap.size w w') => cloneC_any b (o + 4 + (kz.flat.length + 1) * 2) (c - 2 - (kz.flat.length + 1)) (u :: ku.flat) w' (by simp; omega) (.inr ⟨b, _, rfl, h.back.back.below hb⟩))
  rw [List.length_cons] at H1 H2
  have hL2 : (2 : Int) ≤ (L : Int) := by omega
  have hLc : (L : Int) ≤ (c : Int) := by omega
  have hL0 : (0 : Int) < (L : Int) := by omega
  have hL1 : (1 : Int) < (L : Int) := by omega
  have h2c : (2 : Int) ≤ (c : Int) := by omega
  have hcn : ¬ c = 2 := by omega
  obtain ⟨N, hN⟩ : ∃ N, N = kz.flat.length + 1 := ⟨_, rfl⟩
  obtain ⟨M, hM⟩ : ∃ M, M = ku.flat.length + 1 := ⟨_, rfl⟩
  rw [← hN, ← hM] at HC
  rw [← hN] at H1 H2
  rw [← hM] at H2
  have HN := hide hN
  have HM := hide hM
  clear h hN hM hL
  by_cases hy : y.n = 0
  · rw [if_pos hy]
    rw [hy] at p1
    clear H2
    go_enter Try.func71, Try.ntmps71
    go_wp2_with fail
    refine Calls.mono HC.out ?_
    rintro e w1 ⟨rfl, hb1⟩
    have r1 := (hb1.cell (p := ⟨b, o + 1 * 2 + 1, none⟩) hb0).trans p1
    go_wp2_with fail
    refine Calls.mono (H1.out _ hb1) ?_
    rintro e w2 ⟨v, rfl, ho, hb2⟩
    have hB2 : Below w.heap.size w w2 := hb1.trans (hb2.mono hb1.size)
    have HO := hide (iOwn_lower ho hb1.size)
    obtain ⟨ad2, c2, rfl⟩ := iOwn_form ho
    clear ho hb2
    go_wp2_with fail
    refine bodyPost_ret (v := .tuple #[.slice ad2 N c2, .bool true]) (by simp [results, Try.results71, go_sem]) rfl ⟨_, rfl, ?_, hB2⟩
    show w2.ownsRow _ _ 2 _ (z :: kz.flat).length (cv (z :: kz.flat))
    rw [List.length_cons, ← HN.out]
    exact HO.out
  · rw [if_neg hy]
    have hyb : (y.n == 0) = false := by simp [hy]
    clear H1
    go_enter Try.func71, Try.ntmps71
    go_wp2_with fail
    refine Calls.mono HC.out ?_
    rintro e w1 ⟨rfl, hb1⟩
    have r1 := (hb1.cell (p := ⟨b, o + 1 * 2 + 1, none⟩) hb0).trans p1
    go_wp2_with fail
    refine Calls.mono (H2.out _ hb1) ?_
    rintro e w2 ⟨v, rfl, ho, hb2⟩
    have hB2 : Below w.heap.size w w2 := hb1.trans (hb2.mono hb1.size)
    have HO := hide (iOwn_lower ho hb1.size)
    obtain ⟨ad2, c2, rfl⟩ := iOwn_form ho
    clear ho hb2
    go_wp2_with fail
    refine bodyPost_ret (v := .tuple #[.slice ad2 M c2, .bool true]) (by simp [results, Try.results71, go_sem]) rfl ⟨_, rfl, ?_, hB2⟩
    show w2.ownsRow _ _ 2 _ (u :: ku.flat).length (cv (u :: ku.flat))
    rw [List.length_cons, ← HM.out]
    exact HO.out

theorem contracted_any (b o c : Nat) (x : Cc) (k : F) (w : World) (hk : okT x k) (hr : redx x k = true) (L : Nat) (hL : L = k.flat.length + 1) (hl : L ≤ 600) (hc : L ≤ c) (h : CRowAt w b o (x :: k.flat)) :
    Calls Try.prog 71 #[.slice (some ⟨b, o, none⟩) L c] w fun e w' => RU w ((ctrO x k).map fun p => p.1 :: p.2.flat) e w' := by
  cases red_of hk hr with
  | app y d z kd kz hx hk' hy hd hz =>
    subst hk'
    have e1 : ctrO x (.cons y (.cons d kd .nil) (.cons z kz .nil)) = putO d kd z kz := by simp [ctrO, hx]
    rw [e1]
    have e2 : x :: (F.cons y (.cons d kd .nil) (.cons z kz .nil)).flat = [x, y] ++ ((d :: kd.flat) ++ (z :: kz.flat)) := by simp [F.flat]
    rw [e2] at h
    exact contracted_app b o c x y d z kd kz w hx hd hz L (by rw [hL]; simp [F.flat]; omega) hl hc h
  | lett y d ky kd hx hk' hy hd =>
    subst hk'
    have e1 : ctrO x (.cons y ky (.cons d kd .nil)) = putO d kd y ky := by simp [ctrO, hx]
    rw [e1]
    have e2 : x :: (F.cons y ky (.cons d kd .nil)).flat = [x] ++ ((y :: ky.flat) ++ (d :: kd.flat)) := by simp [F.flat]
    rw [e2] at h
    exact contracted_let b o c x y d ky kd w hx hy hd L (by rw [hL]; simp [F.flat]; omega) hl hc h
  | add y z hx hk' hy hz hyn hzn hs =>
    subst hk'
    have e1 : ctrO x (.cons y .nil (.cons z .nil .nil)) = some (⟨2, y.n + z.n⟩, .nil) := by simp [ctrO, hx]
    rw [e1]
    have e2 : x :: (F.cons y .nil (.cons z .nil .nil)).flat = [x, y, z] := by simp [F.flat]
    rw [e2] at h
    obtain rfl : L = 3 := by rw [hL]; simp [F.flat]
    exact contracted_add b o c x y z w hx hyn hzn h
  | iff y z u kz ku hx hk' hy hz hu =>
    subst hk'
    have e1 : (ctrO x (.cons y .nil (.cons z kz (.cons u ku .nil)))).map (fun p => p.1 :: p.2.flat) = some (if y.n = 0 then z :: kz.flat else u :: ku.flat) := by
      simp only [ctrO, hx]
      by_cases hy0 : y.n = 0
      · simp [hy0]
      · simp [hy0]
    rw [e1]
    have e2 : x :: (F.cons y .nil (.cons z kz (.cons u ku .nil))).flat = [x, y] ++ ((z :: kz.flat) ++ (u :: ku.flat)) := by simp [F.flat]
    rw [e2] at h
    exact contracted_if b o c x y z u kz ku w hx hz hu L (by rw [hL]; simp [F.flat]; omega) hl hc h
end Go.Proofs.Ytjmgnljjeogdlaa.W

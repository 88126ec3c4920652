/-
  Contracts of the program's isTwoOp, isGood of a cell, partAt, partsUnder, GoodTree. Conditions: at most 1048576 cells.
-/
import Derived.Test.YtiphcjbmoekkkaaPlR
import Derived.Test.YtiphcjbmoekkkaaPlV
import Derived.Deep.RegionHeld3
namespace Go.Proofs.Ytiphcjbmoekkkaa.L
open Go.Proofs.Ytiphcjbmoekkkaa.W
open Go.ChangeShapes Go.WideShapes Go.ChangeAt Go.RowKit
set_option linter.unusedVariables false

/-- How far one tree goes by the counts of what is wanted alone. -/
def pa : List Cc → Nat → Nat → Option Nat
  | [], _, _ => none
  | x :: l, m, k => if (if x.k = 1 then m - 1 else m + 1) = 0 then some (k + 1) else pa l (if x.k = 1 then m - 1 else m + 1) (k + 1)
theorem pa_sz : ∀ (l : List Cc) (m k : Nat), 0 < m → (∀ x ∈ l, goodC x = true) → pa l m k = sz l m k
  | [], m, k, hm, _ => by simp [pa, sz]; omega
  | x :: l, m, k, hm, hg => by
    have hx := hg x (by simp)
    have hr : ∀ y ∈ l, goodC y = true := fun y hy => hg y (by simp [hy])
    simp only [pa, sz, if_neg (show ¬ m = 0 by omega), if_pos hx, ar]
    by_cases h1 : x.k = 1
    · simp only [if_pos h1, Nat.add_zero]
      by_cases h0 : m - 1 = 0
      · rw [if_pos h0, h0, sz_0]
      · rw [if_neg h0]; exact pa_sz l _ _ (by omega) hr
    · simp only [if_neg h1]
      rw [if_neg (by omega), show m - 1 + 2 = m + 1 by omega]
      exact pa_sz l _ _ (by omega) hr
theorem sz_all : ∀ (l : List Cc) (m i : Nat), sz l m i = some (i + l.length) → ∀ x ∈ l, goodC x = true
  | [], _, _, _ => by simp
  | x :: l, m, i, h => by
    unfold sz at h
    by_cases hm : m = 0
    · rw [if_pos hm] at h; simp at h
    · rw [if_neg hm] at h
      by_cases hg : goodC x = true
      · rw [if_pos hg] at h
        intro y hy
        rcases List.mem_cons.1 hy with rfl | hy
        · exact hg
        · exact sz_all l _ _ (by rw [h]; congr 1; simp; omega) y hy
      · rw [if_neg hg] at h; cases h
theorem goodT_pa (l : List Cc) : goodT l = (decide (l.length ≤ 40) && (l.all goodC && decide (pa l 1 0 = some l.length))) := by
  rw [goodT_sz]
  congr 1
  by_cases hg : ∀ x ∈ l, goodC x = true
  · rw [pa_sz l 1 0 (by omega) hg, List.all_eq_true.2 hg]; rfl
  · have h1 : l.all goodC = false := by rw [← Bool.not_eq_true, List.all_eq_true]; exact hg
    rw [h1, Bool.false_and, decide_eq_false_iff_not]
    intro h
    exact hg (sz_all l 1 0 (by rw [h]; simp))
theorem pa_tree : ∀ (s : Tr) (r : List Cc) (m k : Nat), s.ok → pa (s.flat ++ r) (m + 1) k = if m = 0 then some (k + s.flat.length) else pa r m (k + s.flat.length)
  | .ld n, r, m, k, _ => by simp [Tr.flat, pa]
  | .op o a b, r, m, k, h => by
    have ho := op_ne h.1
    show pa (⟨o, 0⟩ :: (a.flat ++ b.flat) ++ r) (m + 1) k = _
    rw [List.cons_append, List.append_assoc]
    simp only [pa, if_neg ho]
    rw [if_neg (by omega), pa_tree a _ (m + 1) (k + 1) h.2.1, if_neg (by omega), pa_tree b r m _ h.2.2]
    have e : k + 1 + a.flat.length + b.flat.length = k + (Tr.op o a b).flat.length := by simp [Tr.flat]; omega
    rw [e]
theorem pa_sub {l : List Cc} {i : Nat} {s : Tr} (h : Sub l i s) : pa (l.drop i) 1 0 = some s.flat.length := by
  obtain ⟨o, r, e⟩ := h
  rw [e, pa_tree s r 0 0 o]; simp

/-- What partAt tells. -/
def paA (l : List Cc) (at_ : Nat) : Int := if (pa (l.drop at_) 1 0).isSome then at_ else -1
def paB (l : List Cc) (at_ : Nat) : Int := match pa (l.drop at_) 1 0 with | some k => ((at_ + k : Nat) : Int) | none => -1

set_option maxHeartbeats 400000 in
theorem isTwoOp_any (n : Int) (w : World) : Calls Try.prog 57 #[.int .i64 n] w fun e w' => e = .returned (.bool (inB n 2 4)) ∧ w' = w := by
  by_cases h2 : n = 2
  · subst h2
    go_enter Try.func57, Try.ntmps57
    go_wp2_with fail
    go_ret
    exact ⟨rfl, rfl⟩
  · by_cases h3 : n = 3
    · subst h3
      go_enter Try.func57, Try.ntmps57
      go_wp2_with fail
      go_ret
      exact ⟨rfl, rfl⟩
    · go_enter Try.func57, Try.ntmps57
      go_wp2_with fail
      go_ret
      refine ⟨ret_bool ?_, rfl⟩
      unfold inB
      rw [Bool.eq_iff_iff]; simp; omega

set_option maxHeartbeats 1000000 in
theorem goodCell_any (x : Cc) (w : World) :
    Calls Try.prog 35 #[.agg #[.int .i64 x.k, .int .i64 x.n]] w fun e w' => e = .returned (.bool (goodC x)) ∧ Below w.heap.size w w' := by
  obtain ⟨k, n⟩ := x
  simp only
  by_cases k1 : k = 1
  · subst k1
    by_cases hlo : (-1000 : Int) ≤ n
    · go_enter Try.func35, Try.ntmps35
      go_wp2_with fail
      all_goals
        go_ret
        exact ⟨ret_bool (by rw [Bool.eq_iff_iff]; simp [goodC, inB]; omega), (Below.refl _ _).alloc (Nat.le_refl _) _⟩
    · go_enter Try.func35, Try.ntmps35
      go_wp2_with fail
      go_ret
      exact ⟨ret_bool (by rw [Bool.eq_iff_iff]; simp [goodC, inB]; omega), (Below.refl _ _).alloc (Nat.le_refl _) _⟩
  · go_enter Try.func35, Try.ntmps35
    go_wp2_with fail
    refine (isTwoOp_any _ _).mono ?_
    rintro e w' ⟨rfl, rfl⟩
    cases ho : inB k 2 4 with
    | true =>
      go_wp2_with fail
      all_goals
        go_ret
        refine ⟨ret_bool ?_, (Below.refl _ _).alloc (Nat.le_refl _) _⟩
        simp_all [goodC]
    | false =>
      go_wp2_with fail
      go_ret
      exact ⟨ret_bool (by simp [goodC, k1, ho]), (Below.refl _ _).alloc (Nat.le_refl _) _⟩

theorem paS {l : List Cc} {at_ : Nat} : (match pa (l.drop at_) 1 0 with | some k => ((at_ : Int), ((at_ + k : Nat) : Int)) | none => (-1, -1)) = (paA l at_, paB l at_) := by
  unfold paA paB
  cases pa (l.drop at_) 1 0 <;> rfl

set_option maxHeartbeats 2000000 in
theorem partAt_any (ad : Option Addr) (c : Nat) (l : List Cc) (at_ : Nat) (w : World) (hl : l.length ≤ 1048576) (hlt : at_ < l.length) (hc : l.length ≤ c) (h : CRow w ad l) :
    Calls Try.prog 36 #[.slice ad l.length c, .int .i64 (at_ : Int)] w fun e w' => e = .returned (.agg #[.int .i64 (paA l at_), .int .i64 (paB l at_)]) ∧ Below w.heap.size w w' := by
  obtain ⟨b, o, rfl, hrow⟩ : ∃ b o, ad = some ⟨b, o, none⟩ ∧ CRowAt w b o l := by
    rcases h with h0 | h0
    · rw [h0] at hlt; simp at hlt
    · exact h0
  have HD := hide (hrow.drop at_)
  have hdl : (l.drop at_).length = l.length - at_ := List.length_drop
  have HP := hide (@paS l at_)
  obtain ⟨d, hd⟩ : ∃ d, d = l.drop at_ := ⟨_, rfl⟩
  rw [← hd] at HD HP hdl
  obtain ⟨L, hL⟩ : ∃ L, L = l.length := ⟨_, rfl⟩
  rw [← hL] at hl hlt hc hdl ⊢
  obtain ⟨PA, hPA⟩ : ∃ PA, PA = paA l at_ := ⟨_, rfl⟩
  obtain ⟨PB, hPB⟩ : ∃ PB, PB = paB l at_ := ⟨_, rfl⟩
  rw [← hPA, ← hPB] at HP ⊢
  obtain ⟨D, hD⟩ : ∃ D, D = d.length := ⟨_, rfl⟩
  have HDL := hide hD
  have hDL : D = L - at_ := by rw [hD]; exact hdl
  obtain ⟨G, hG⟩ : ∃ G, G = pa d 1 0 := ⟨_, rfl⟩
  rw [← hG] at HP
  have HG := hide hG
  clear hd hL hPA hPB hrow h hdl hD hG
  have e1 : (at_ : Int) ≤ (L : Int) := by omega
  have e2 : (L : Int) ≤ (c : Int) := by omega
  have e3 : ((L - at_ : Nat) : Int) = (D : Int) := by omega
  go_enter Try.func36, Try.ntmps36
  go_wp2_with fail
  have h0 : (w.alloc (.cells #[.int .i64 0, .int .i64 0] 60)).heap[w.heap.size]? = some (.cells #[.int .i64 0, .int .i64 0] 60 (0, 0)) := heap_alloc_new w _
  have hs0 : w.heap.size + 1 ≤ (w.alloc (.cells #[.int .i64 0, .int .i64 0] 60)).heap.size := by simp
  have hD0 : CRowAt (w.alloc (.cells #[.int .i64 0, .int .i64 0] 60)) b (o + at_ * 2) d := HD.out.below ((Below.refl _ _).alloc (Nat.le_refl _) _)
  have hB0 : Below w.heap.size w (w.alloc (.cells #[.int .i64 0, .int .i64 0] 60)) := (Below.refl _ _).alloc (Nat.le_refl _) _
  obtain ⟨w1, hw1⟩ : ∃ w1, w1 = w.alloc (.cells #[.int .i64 0, .int .i64 0] 60) := ⟨_, rfl⟩
  rw [← hw1] at h0 hs0 hD0 hB0 ⊢
  have HD1 : Hid (CRow w1 (some ⟨b, o + at_ * 2, none⟩) d) := hide (.inr ⟨_, _, rfl, hD0⟩)
  clear hw1 HD hD0
  go_loopw [5, 12] (fun m i w' => ∃ (j M : Nat), j ≤ D ∧ 1 ≤ M ∧ M ≤ j + 1 ∧ m = .int .i64 M ∧ i = .int .i64 j ∧ G = pa (d.drop j) M j ∧ Below w1.heap.size w1 w') (fun _ i _ => D - (intOf i).toNat)
  case atStart => exact ⟨0, 1, by omega, by omega, by omega, rfl, rfl, by rw [HG.out]; simp, Below.refl _ _⟩
  case round =>
    obtain ⟨j, M, hj, hM1, hM, rfl, rfl, hrun, hB⟩ := hrel
    have HRun := hide hrun
    clear hrun HG
    by_cases hlt2 : j < D
    · have hlt' : (j : Int) < (D : Int) := by omega
      have hj0 : (0 : Int) ≤ (j : Int) := by omega
      have hjd : j < d.length := by rw [← HDL.out]; exact hlt2
      obtain ⟨b', o', hbo, hb, p0, p1⟩ := HD1.out.tok hB hjd
      simp only [Option.some.injEq, Addr.mk.injEq, and_true] at hbo
      obtain ⟨rfl, rfl⟩ := hbo
      have hd : d.drop j = d[j] :: d.drop (j + 1) := List.drop_eq_getElem_cons hjd
      obtain ⟨x, hx⟩ : ∃ x, x = d[j] := ⟨_, rfl⟩
      rw [← hx] at p0 p1 hd
      rw [hd] at HRun
      clear hx hd hjd
      have hz : wr.heap[w.heap.size]? = some (.cells #[.int .i64 0, .int .i64 0] 60 (0, 0)) := (hB.block _ (by omega)).trans h0
      have hsz := hB.size
      obtain ⟨xk, xn⟩ := x
      simp only at p0 p1
      have HZ := hide hz
      have hB1 : ∀ B : Obj, Below w1.heap.size w1 (wr.alloc B) := fun B => hB.alloc hB.size _
      have HB1 := hide hB1
      clear hz hB1
      by_cases k1 : xk = 1
      · subst k1
        by_cases hm : M = 1
        · subst hm
          have hG1 : G = some (j + 1) := by rw [HRun.out]; simp [pa]
          have hP := HP.out
          rw [hG1] at hP
          simp only [Prod.mk.injEq] at hP
          obtain ⟨hP1, hP2⟩ := hP
          have HP1 := hide hP1
          have HP2 : Hid (PB = (at_ : Int) + (j : Int) + 1) := hide (by rw [← hP2]; omega)
          clear hG1 HRun HP hP1 hP2
          have z0 : ∀ (B : Obj) (i : Nat), (wr.alloc B).frozen? ⟨w.heap.size, i, none⟩ = false := fun B i => unfrozen_of_blk ((heap_alloc_old _ _ (by omega)).trans HZ.out) i
          have z1 : ∀ (B : Obj), (wr.alloc B).cell? ⟨w.heap.size, 0, none⟩ = some (.int .i64 0) := fun B => (cell_of_blk ((heap_alloc_old _ _ (by omega)).trans HZ.out) 0).trans rfl
          have z2 : ∀ (B : Obj), (wr.alloc B).cell? ⟨w.heap.size, 1, none⟩ = some (.int .i64 0) := fun B => (cell_of_blk ((heap_alloc_old _ _ (by omega)).trans HZ.out) 1).trans rfl
          go_wp2_with fail
          refine bodyPost_ret (v := .agg #[.int .i64 (at_ : Int), .int .i64 ((at_ : Int) + (j : Int) + 1)]) (by simp [results, Try.results36, go_sem, *]) rfl ⟨by rw [← HP1.out, HP2.out], ((hB0.trans ((HB1.out _).mono (by omega))).setCell (p := ⟨w.heap.size, 0, none⟩) (Nat.le_refl _) _).setCell (p := ⟨w.heap.size, 1, none⟩) (Nat.le_refl _) _⟩
        · have hm' : ¬ (M : Int) - 1 = 0 := by omega
          have hG1 : G = pa (d.drop (j + 1)) (M - 1) (j + 1) := by rw [HRun.out]; simp only [pa, if_pos]; rw [if_neg (by omega)]
          have HRun2 := hide hG1
          clear hG1 HRun
          go_wp2_with fail
          exact ⟨⟨j + 1, M - 1, by omega, by omega, by omega, by go_num, by go_num, HRun2.out, HB1.out _⟩, by simp [intOf]; omega⟩
      · have hm' : ¬ (M : Int) + 1 = 0 := by omega
        have hG1 : G = pa (d.drop (j + 1)) (M + 1) (j + 1) := by rw [HRun.out]; simp only [pa, if_neg k1]; rw [if_neg (by omega)]
        have HRun2 := hide hG1
        clear hG1 HRun
        go_wp2_with fail
        exact ⟨⟨j + 1, M + 1, by omega, by omega, by omega, by go_num, by go_num, HRun2.out, HB1.out _⟩, by simp [intOf]; omega⟩
    · obtain rfl : j = D := by omega
      have hG1 : G = none := by rw [HRun.out, HDL.out, List.drop_length]; rfl
      have hP := HP.out
      rw [hG1] at hP
      simp only [Prod.mk.injEq] at hP
      obtain ⟨hP1, hP2⟩ := hP
      have HP1 := hide hP1
      have HP2 := hide hP2
      clear hG1 HRun HP hP1 hP2
      have hz : wr.heap[w.heap.size]? = some (.cells #[.int .i64 0, .int .i64 0] 60 (0, 0)) := (hB.block _ (by omega)).trans h0
      have z0 := unfrozen_of_blk hz
      have z1 := cell_of_blk hz 0
      have z2 := cell_of_blk hz 1
      simp only [List.getElem?_toArray, List.getElem?_cons_zero, List.getElem?_cons_succ] at z1 z2
      have hB2 : Below w.heap.size w wr := hB0.trans (hB.mono (by omega))
      have HZ := hide hz
      clear hz
      go_wp2_with fail
      refine bodyPost_ret (v := .agg #[.int .i64 (-1), .int .i64 (-1)]) (by simp [results, Try.results36, go_sem, *]) rfl ⟨by rw [← HP1.out, ← HP2.out], (hB2.setCell (p := ⟨w.heap.size, 0, none⟩) (Nat.le_refl _) _).setCell (p := ⟨w.heap.size, 1, none⟩) (Nat.le_refl _) _⟩

set_option maxHeartbeats 1000000 in
theorem partAt_nil (b o c : Nat) (w : World) :
    Calls Try.prog 36 #[.slice (some ⟨b, o, none⟩) 0 c, .int .i64 0] w fun e w' => e = .returned (.agg #[.int .i64 (-1), .int .i64 (-1)]) ∧ Below w.heap.size w w' := by
  go_enter Try.func36, Try.ntmps36
  go_wp2_with fail
  refine wp_loop_rounds 1 ?_
  rw [rounds_succ]
  have hz := heap_alloc_new w (.cells #[.int .i64 0, .int .i64 0] 60)
  have z0 := unfrozen_of_blk hz
  have z1 := (cell_of_blk hz 0).trans rfl
  have z2 := (cell_of_blk hz 1).trans rfl
  have hB2 : Below w.heap.size w (w.alloc (.cells #[.int .i64 0, .int .i64 0] 60)) := (Below.refl _ _).alloc (Nat.le_refl _) _
  have HZ := hide hz
  clear hz
  go_wp2_with fail
  exact bodyPost_ret (v := .agg #[.int .i64 (-1), .int .i64 (-1)]) (by simp [results, Try.results36, go_sem, *]) rfl ⟨rfl, (Below.refl _ _).alloc (Nat.le_refl _) _⟩

theorem paA_sub {l : List Cc} {i : Nat} {s : Tr} (h : Sub l i s) : paA l i = (i : Int) ∧ paB l i = ((i + s.flat.length : Nat) : Int) := by
  unfold paA paB
  rw [pa_sub h]
  exact ⟨rfl, rfl⟩

set_option maxHeartbeats 2000000 in
theorem partsUnder_any (ad : Option Addr) (c : Nat) (l : List Cc) (i : Nat) (k1 : Int) (a b : Tr) (w : World) (hl : l.length ≤ 1048576) (hc : l.length ≤ c) (h : CRow w ad l) (hs : Sub l i (.op k1 a b)) :
    Calls Try.prog 43 #[.slice ad l.length c, .int .i64 (i : Int)] w fun e w' => e = .returned (.tuple #[.agg #[.int .i64 ((i + 1 : Nat) : Int), .int .i64 ((i + 1 + a.flat.length : Nat) : Int)], .agg #[.int .i64 ((i + 1 + a.flat.length : Nat) : Int), .int .i64 ((i + 1 + a.flat.length + b.flat.length : Nat) : Int)]]) ∧ Below w.heap.size w w' := by
  obtain ⟨ha, hb⟩ := hs.kids
  have hP1 := partAt_any ad c l (i + 1) 
  have hP2 := partAt_any ad c l (i + 1 + a.flat.length)
  rw [(paA_sub ha).1, (paA_sub ha).2] at hP1
  rw [(paA_sub hb).1, (paA_sub hb).2] at hP2
  have HP1 : Hid (∀ w', Below w.heap.size w w' → Calls Try.prog 36 #[.slice ad l.length c, .int .i64 ((i + 1 : Nat) : Int)] w' fun e w2 => e = .returned (.agg #[.int .i64 ((i + 1 : Nat) : Int), .int .i64 ((i + 1 + a.flat.length : Nat) : Int)]) ∧ Below w'.heap.size w' w2) := hide fun w' hw => hP1 w' hl ha.lt' hc (h.below hw)
  have HP2 : Hid (∀ w', Below w.heap.size w w' → Calls Try.prog 36 #[.slice ad l.length c, .int .i64 ((i + 1 + a.flat.length : Nat) : Int)] w' fun e w2 => e = .returned (.agg #[.int .i64 ((i + 1 + a.flat.length : Nat) : Int), .int .i64 ((i + 1 + a.flat.length + b.flat.length : Nat) : Int)]) ∧ Below w'.heap.size w' w2) := hide fun w' hw => hP2 w' hl hb.lt' hc (h.below hw)
  have hi := hb.lt'
  obtain ⟨LL, hLL⟩ : ∃ LL, LL = l.length := ⟨_, rfl⟩
  obtain ⟨J1, hJ1⟩ : ∃ J1, J1 = i + 1 + a.flat.length := ⟨_, rfl⟩
  obtain ⟨J2, hJ2⟩ : ∃ J2, J2 = J1 + b.flat.length := ⟨_, rfl⟩
  rw [← hJ1, ← hJ2, ← hLL] at HP2
  rw [← hJ1, ← hLL] at HP1
  rw [← hJ1] at hi
  rw [← hJ1, ← hJ2, ← hLL]
  have h64 : J1 ≤ 1048576 ∧ i ≤ 1048576 := by omega
  have e1 : ((i + 1 : Nat) : Int) = (i : Int) + 1 := by omega
  rw [e1] at HP1 ⊢
  clear hP1 hP2 ha hb hs h hl hc hi hJ1 hJ2 hLL e1
  go_enter Try.func43, Try.ntmps43
  go_wp2_with fail
  obtain ⟨W0, hW0⟩ : ∃ W0, W0 = (w.alloc (.cells #[.int .i64 0, .int .i64 0] 60)).alloc (.cells #[.int .i64 0, .int .i64 0] 60) := ⟨_, rfl⟩
  have hs0 : W0.heap.size = w.heap.size + 1 + 1 := by rw [hW0]; simp
  have hB0 : Below w.heap.size w W0 := by rw [hW0]; exact ((Below.refl _ _).alloc (Nat.le_refl _) _).alloc (by simp) _
  have x0 : W0.heap[w.heap.size]? = some (.cells #[.int .i64 0, .int .i64 0] 60 (0, 0)) := by rw [hW0, heap_alloc_old _ _ (by simp)]; exact heap_alloc_new w _
  have x1 : W0.heap[w.heap.size + 1]? = some (.cells #[.int .i64 0, .int .i64 0] 60 (0, 0)) := by
    rw [hW0]
    have := heap_alloc_new (w.alloc (.cells #[.int .i64 0, .int .i64 0] 60)) (.cells #[.int .i64 0, .int .i64 0] 60)
    simpa using this
  rw [← hW0]
  clear hW0
  refine (HP1.out _ hB0).mono ?_
  rintro e w1 ⟨rfl, hb1⟩
  have hB1 : Below w.heap.size w w1 := hB0.trans (hb1.mono hB0.size)
  have y0 := (hb1.block _ (by omega)).trans x0
  have y1 := (hb1.block _ (by omega)).trans x1
  have hs1 := hb1.size
  rw [hs0] at hs1
  clear x0 x1 hs0 hB0 hb1 HP1
  have k1 : w1.heap.size ≠ w.heap.size := by omega
  have k2 : w1.heap.size ≠ w.heap.size + 1 := by omega
  have HY0 := hide y0
  have HY1 := hide y1
  clear y0 y1
  obtain ⟨wA, hwA⟩ : ∃ wA, wA = w1.alloc (.cells #[.int .i64 ((i : Int) + 1), .int .i64 (J1 : Int)] 60) := ⟨_, rfl⟩
  have HWA := hide hwA
  have hsA : wA.heap.size = w1.heap.size + 1 := by rw [hwA]; simp
  have hBA : Below w.heap.size w wA := by rw [hwA]; exact hB1.alloc hB1.size _
  have hAx : wA.heap[w1.heap.size]? = some (.cells #[.int .i64 ((i : Int) + 1), .int .i64 (J1 : Int)] 60 (0, 0)) := by rw [hwA]; exact heap_alloc_new w1 _
  have hA0 : wA.heap[w.heap.size]? = some (.cells #[.int .i64 0, .int .i64 0] 60 (0, 0)) := by rw [hwA, heap_alloc_old _ _ (by omega)]; exact HY0.out
  have hA1 : wA.heap[w.heap.size + 1]? = some (.cells #[.int .i64 0, .int .i64 0] 60 (0, 0)) := by rw [hwA, heap_alloc_old _ _ (by omega)]; exact HY1.out
  have HAll : Hid (∀ w', Below wA.heap.size wA w' → w'.cell? ⟨w1.heap.size, 0, none⟩ = some (.int .i64 ((i : Int) + 1)) ∧ w'.cell? ⟨w1.heap.size, 1, none⟩ = some (.int .i64 (J1 : Int))) := hide (fun w' hw => by
    have h := (hw.block w1.heap.size (by omega)).trans hAx
    exact ⟨(cell_of_blk h 0).trans rfl, (cell_of_blk h 1).trans rfl⟩)
  have HSt : Hid (∀ w', Below wA.heap.size wA w' → w'.heap[w.heap.size]? = some (.cells #[.int .i64 0, .int .i64 0] 60 (0, 0)) ∧ w'.heap[w.heap.size + 1]? = some (.cells #[.int .i64 0, .int .i64 0] 60 (0, 0))) := hide (fun w' hw => ⟨(hw.block _ (by omega)).trans hA0, (hw.block _ (by omega)).trans hA1⟩)
  have HSet : Hid (∀ (W' : World) (j : Nat) (v : Value), (W'.cell? ⟨w1.heap.size, 0, none⟩ = some (.int .i64 ((i : Int) + 1)) ∧ W'.cell? ⟨w1.heap.size, 1, none⟩ = some (.int .i64 (J1 : Int))) → ((W'.setCell ⟨w.heap.size, j, none⟩ v).cell? ⟨w1.heap.size, 0, none⟩ = some (.int .i64 ((i : Int) + 1)) ∧ (W'.setCell ⟨w.heap.size, j, none⟩ v).cell? ⟨w1.heap.size, 1, none⟩ = some (.int .i64 (J1 : Int))) ∧ ((W'.setCell ⟨w.heap.size + 1, j, none⟩ v).cell? ⟨w1.heap.size, 0, none⟩ = some (.int .i64 ((i : Int) + 1)) ∧ (W'.setCell ⟨w.heap.size + 1, j, none⟩ v).cell? ⟨w1.heap.size, 1, none⟩ = some (.int .i64 (J1 : Int)))) := hide (fun W' j v h =>
    have a1 : (W'.setCell ⟨w.heap.size, j, none⟩ v).heap[w1.heap.size]? = W'.heap[w1.heap.size]? := Below.heap_setCell _ _ _ _ k1
    have a2 : (W'.setCell ⟨w.heap.size + 1, j, none⟩ v).heap[w1.heap.size]? = W'.heap[w1.heap.size]? := Below.heap_setCell _ _ _ _ k2
    ⟨⟨(World.cell?_of_block (w := W') a1).trans h.1, (World.cell?_of_block (w := W') a1).trans h.2⟩, (World.cell?_of_block (w := W') a2).trans h.1, (World.cell?_of_block (w := W') a2).trans h.2⟩)
  have HWB0 : Hid (Below wA.heap.size wA wA.drew) := hide ⟨rfl, rfl, rfl, Nat.le_refl _, fun _ _ => rfl⟩
  have HBA := hide hBA
  clear hAx hA0 hA1 HY0 HY1 hwA hBA hB1
  go_wp2_with fail
  rw [← HWA.out]
  clear HWA
  obtain ⟨u0, u1⟩ := HAll.out wA.drew HWB0.out
  go_region_held3 (fun w' => w'.cell? ⟨w1.heap.size, 0, none⟩ = some (.int .i64 ((i : Int) + 1)) ∧ w'.cell? ⟨w1.heap.size, 1, none⟩ = some (.int .i64 (J1 : Int))) (first | (with_reducible exact HAll.out _ HWB0.out) | (with_reducible exact HAll.out _ HWB1.out) | (with_reducible exact (HSet.out _ _ _ (HSet.out _ _ _ ⟨r0, r1⟩).1).1) | (with_reducible exact (HSet.out _ _ _ (HSet.out _ _ _ (HSet.out _ _ _ (HSet.out _ _ _ ⟨r0, r1⟩).1).1).2).2))
    (first
      | ((with_reducible refine Calls.mono (HP2.out _ (HBA.out.trans (HWB0.out.mono HBA.out.size))) ?_); rintro e W1 ⟨rfl, hx⟩; have HWB1 : Hid (Below wA.heap.size wA W1) := hide (HWB0.out.trans (hx.mono HWB0.out.size)); have hB1 := HBA.out.trans (HWB1.out.mono HBA.out.size); obtain ⟨s0, s1⟩ := HSt.out W1 HWB1.out; obtain ⟨r0, r1⟩ := HAll.out W1 HWB1.out; have a0 := (cell_of_blk s0 0).trans rfl; have a1 := (cell_of_blk s0 1).trans rfl; have a2 := unfrozen_of_blk s0; have b0 := (cell_of_blk s1 0).trans rfl; have b1 := (cell_of_blk s1 1).trans rfl; have b2 := unfrozen_of_blk s1; clear s0 s1 hx))
  all_goals
    go_wp2_with fail
    exact bodyPost_ret (v := .tuple #[.agg #[.int .i64 ((i : Int) + 1), .int .i64 (J1 : Int)], .agg #[.int .i64 (J1 : Int), .int .i64 (J2 : Int)]]) (by simp [results, Try.results43, go_sem, *]) rfl ⟨rfl, (((hB1.setCell (p := ⟨w.heap.size, 0, none⟩) (Nat.le_refl _) _).setCell (p := ⟨w.heap.size, 1, none⟩) (Nat.le_refl _) _).setCell (p := ⟨w.heap.size + 1, 0, none⟩) (Nat.le_succ _) _).setCell (p := ⟨w.heap.size + 1, 1, none⟩) (Nat.le_succ _) _⟩

set_option maxHeartbeats 2000000 in
theorem implGoodT_any (B0 O0 : Nat) (c : Nat) (l : List Cc) (w : World) (hl : l.length ≤ 1048576) (hc : l.length ≤ c) (h : CRow w (some ⟨B0, O0, none⟩) l) :
    Calls Try.prog 12 #[.slice (some ⟨B0, O0, none⟩) l.length c] w fun e w' => e = .returned (.bool (goodT l)) ∧ Below w.heap.size w w' := by
  have HR := hide h
  rw [goodT_pa]
  by_cases h6 : l.length ≤ 40
  · have h6' : ¬ (40 : Int) < (l.length : Int) := by omega
    rw [decide_eq_true h6, Bool.true_and]
    obtain ⟨G, hG⟩ : ∃ G, G = (l.all goodC && decide (pa l 1 0 = some l.length)) := ⟨_, rfl⟩
    rw [← hG]
    have HG := hide hG
    have HPa : Hid (∀ w', Below w.heap.size w w' → 0 < l.length → Calls Try.prog 36 #[.slice (some ⟨B0, O0, none⟩) l.length c, .int .i64 0] w' fun e w2 => e = .returned (.agg #[.int .i64 (paA l 0), .int .i64 (paB l 0)]) ∧ Below w'.heap.size w' w2) := hide (fun w' hw h0 => partAt_any (some ⟨B0, O0, none⟩) c l 0 w' hl h0 hc (h.below hw))
    have HNe := hide h
    clear hG h
    go_enter Try.func12, Try.ntmps12
    go_wp2_with fail
    go_loopw [10] (fun i w' => ∃ (j : Nat), j ≤ l.length ∧ i = .int .i64 j ∧ (l.take j).all goodC = true ∧ Below w.heap.size w w') (fun i _ => l.length - (intOf i).toNat)
    case atStart => exact ⟨0, by omega, rfl, rfl, Below.refl _ _⟩
    case round =>
      obtain ⟨j, hj, rfl, hrun, hB⟩ := hrel
      have HRun := hide hrun
      clear hrun
      by_cases hlt : j < l.length
      · have hlt' : (j : Int) < (l.length : Int) := by omega
        obtain ⟨b, o, hbo, hb, p0, p1⟩ := HR.out.tok hB hlt
        simp only [Option.some.injEq, Addr.mk.injEq, and_true] at hbo
        obtain ⟨rfl, rfl⟩ := hbo
        have hd : l.take (j + 1) = l.take j ++ [l[j]] := by rw [List.take_add_one, List.getElem?_eq_getElem hlt]; rfl
        have hmem : l[j] ∈ l := List.getElem_mem hlt
        obtain ⟨x, hx⟩ : ∃ x, x = l[j] := ⟨_, rfl⟩
        rw [← hx] at p0 p1 hd hmem
        clear hx
        have HGc := hide (goodCell_any x)
        obtain ⟨gx, hgx⟩ : ∃ gx, gx = goodC x := ⟨_, rfl⟩
        rw [← hgx] at HGc
        have HD := hide hd
        have HM := hide hmem
        have HX := hide hgx
        clear hd hmem hgx
        go_wp2_with fail
        refine (HGc.out _).mono ?_
        rintro e w1 ⟨rfl, hb1⟩
        have hB1 : Below w.heap.size w w1 := (hB.alloc hB.size _).trans (hb1.mono (by have := hB.size; simp; omega))
        clear hb1 p0 p1
        cases gx with
        | true =>
          go_wp2_with fail
          exact ⟨⟨j + 1, by omega, by go_num, by rw [HD.out, List.all_append, HRun.out]; simp [← HX.out], hB1⟩, by simp [intOf]; omega⟩
        | false =>
          have hr : G = false := by
            rw [HG.out]
            have : l.all goodC = false := by rw [← Bool.not_eq_true, List.all_eq_true]; exact fun hh => by have := hh x HM.out; rw [← HX.out] at this; cases this
            rw [this]; rfl
          go_wp2_with fail
          go_ret
          exact ⟨ret_bool hr.symm, hB1⟩
      · obtain rfl : j = l.length := by omega
        have hall : l.all goodC = true := by have := HRun.out; rwa [List.take_length] at this
        have hG2 : G = decide (pa l 1 0 = some l.length) := by rw [HG.out, hall]; rfl
        have HG2 := hide hG2
        clear hall hG2 HRun HG
        by_cases h0 : 0 < l.length
        · have hP1 : paA l 0 = if (pa l 1 0).isSome then 0 else -1 := rfl
          have hP2 : paB l 0 = match pa l 1 0 with | some k => ((0 + k : Nat) : Int) | none => -1 := rfl
          have HCa := hide (HPa.out wr hB h0)
          obtain ⟨PA, hPA⟩ : ∃ PA, PA = paA l 0 := ⟨_, rfl⟩
          obtain ⟨PB, hPB⟩ : ∃ PB, PB = paB l 0 := ⟨_, rfl⟩
          rw [← hPA, ← hPB] at HCa
          have hE : (decide (PA = 0) && decide (PB = (l.length : Int))) = G := by
            rw [HG2.out, hPA, hPB, hP1, hP2]
            cases pa l 1 0 with
            | none => simp
            | some k => rw [Bool.eq_iff_iff]; simp; omega
          have HE := hide hE
          clear hP1 hP2 hPA hPB hE
          go_wp2_with fail
          refine HCa.out.mono ?_
          rintro e w1 ⟨rfl, hb1⟩
          have hB1 : Below w.heap.size w w1 := hB.trans (hb1.mono hB.size)
          clear hb1
          go_wp2_with fail
          all_goals
            go_ret
            refine ⟨ret_bool ?_, hB1⟩
            rw [← HE.out]
            clear HE HG2 HCa HPa HR HNe
            simp_all
        · obtain ⟨LL, hLL⟩ : ∃ LL, LL = l.length := ⟨_, rfl⟩
          have hL0 : LL = 0 := by omega
          have hr : G = false := by rw [HG2.out, List.eq_nil_of_length_eq_zero (hLL.symm.trans hL0)]; rfl
          have Hr := hide hr
          rw [← hLL] at *
          clear hLL HR HNe HG2 HPa hr h0 hlt hl hc h6 h6' hj
          subst hL0
          go_wp2_with fail
          refine (partAt_nil _ _ _ _).mono ?_
          rintro e w1 ⟨rfl, hb1⟩
          have hB1 : Below w.heap.size w w1 := hB.trans (hb1.mono hB.size)
          clear hb1
          go_wp2_with fail
          go_ret
          exact ⟨ret_bool Hr.out.symm, hB1⟩
  · have h6' : (40 : Int) < (l.length : Int) := by omega
    rw [decide_eq_false h6]
    go_enter Try.func12, Try.ntmps12
    go_wp2_with fail
    go_ret
    exact ⟨rfl, Below.refl _ _⟩
end Go.Proofs.Ytiphcjbmoekkkaa.L

/-
  Which terms hand on, as the program tells it: contracts of isReadyCell, isHandedAhead, IsHanded. Conditions: at most 1048576 cells.
-/
import Derived.Test.YtnmkbpflbfhpnaaHnM
import Derived.Test.YtnmkbpflbfhpnaaTeKa
namespace Go.Proofs.Ytnmkbpflbfhpnaa.W
open Go.ChangeShapes Go.WideShapes Go.ChangeAt Go.RowKit
set_option linter.unusedVariables false

set_option maxHeartbeats 1000000 in
theorem isReadyCell_any (k n : Int) (w : World) :
    Calls Try.prog 52 #[.agg #[.int .i64 k, .int .i64 n]] w fun e w' => e = .returned (.bool (rdy k)) ∧ Below w.heap.size w w' := by
  by_cases h1 : k = 1
  · subst h1
    go_enter Try.func52, Try.ntmps52
    go_wp2_with fail
    go_ret
    exact ⟨rfl, (Below.refl _ _).alloc (Nat.le_refl _) _⟩
  · by_cases h5 : k = 5
    · subst h5
      go_enter Try.func52, Try.ntmps52
      go_wp2_with fail
      go_ret
      exact ⟨rfl, (Below.refl _ _).alloc (Nat.le_refl _) _⟩
    · have e : rdy k = isVal k := by simp [rdy, h1, h5]
      rw [e]
      clear e
      have h1b : (k == 1) = false := by simp [h1]
      have h5b : (k == 5) = false := by simp [h5]
      go_enter Try.func52, Try.ntmps52
      go_wp2_with fail
      refine Calls.mono (isValueCell_any k n _) ?_
      rintro e w2 ⟨rfl, hb2⟩
      go_wp2_with fail
      go_ret
      exact ⟨rfl, ((Below.refl _ _).alloc (Nat.le_refl _) _).trans (hb2.mono (by simp))⟩

theorem sz_first {y : Cc} {ky : F} (r : List Cc) (h : (F.cons y ky .nil).ok) : sz ((F.cons y ky .nil).flat ++ r) 1 0 = some (ky.flat.length + 1) := by
  have := sz_flat (.cons y ky .nil) r 0 0 h
  rw [sz_0] at this
  simpa [F.len, F.flat] using this

set_option maxRecDepth 20000 in
set_option maxHeartbeats 2000000 in
theorem isHandedAhead_any (b o c : Nat) (x : Cc) (k : F) (q : List Cc) (w : World) (hg : goodC x = true) (hk : k.len = ar x.k) (ho : k.ok) (hl : (x :: (k.flat ++ q)).length ≤ 1048576) (hc : (x :: (k.flat ++ q)).length ≤ c) (h : CRowAt w b o (x :: (k.flat ++ q))) :
    Calls Try.prog 28 #[.slice (some ⟨b, o, none⟩) (x :: (k.flat ++ q)).length c] w fun e w' => e = .returned (.bool (loc x.k k)) ∧ Below w.heap.size w w' := by
  obtain ⟨hb, hrow⟩ := h
  obtain ⟨p0, p1⟩ := hrow 0 (by simp)
  simp only [Nat.zero_mul, Nat.add_zero, List.getElem_cons_zero] at p0 p1
  obtain ⟨L, hL⟩ : ∃ L, L = (x :: (k.flat ++ q)).length := ⟨_, rfl⟩
  have HRow := hide hrow
  clear hrow
  rw [← hL] at hl hc ⊢
  have hL1 : (1 : Int) ≤ (L : Int) := by simp at hL; omega
  have h0L : (0 : Int) < (L : Int) := by omega
  have hLc : (L : Int) ≤ (c : Int) := by omega
  have HL := hide hL
  clear hL
  obtain ⟨xk, xn⟩ := x
  simp only at *
  by_cases h7 : xk = 7
  · subst h7
    have e : loc 7 k = false := rfl
    rw [e]
    clear hk ho hg e HRow HL
    go_enter Try.func28, Try.ntmps28
    go_wp2_with fail
    go_ret
    exact ⟨rfl, Below.refl _ _⟩
  · by_cases h6 : xk = 6
    · subst h6
      obtain ⟨y, ky, r, rfl⟩ := len_pos (k := k) (by rw [hk]; decide)
      have e : loc 6 (.cons y ky r) = rdy y.k := rfl
      rw [e]
      obtain ⟨p2, p3⟩ := HRow.out 1 (by simp [F.flat])
      simp only [Nat.one_mul, F.flat, List.cons_append, List.getElem_cons_zero, List.getElem_cons_succ] at p2 p3
      have h1L : (1 : Int) < (L : Int) := by have := HL.out; simp [F.flat] at this; omega
      clear hk ho hg e HRow HL
      go_enter Try.func28, Try.ntmps28
      go_wp2_with fail
      refine Calls.mono (isReadyCell_any y.k y.n _) ?_
      rintro e w2 ⟨rfl, hb2⟩
      go_wp2_with fail
      go_ret
      exact ⟨rfl, hb2⟩
    · by_cases h45 : xk = 4 ∨ xk = 5
      · obtain ⟨y, ky, z, kz, rfl⟩ := two_of (k := k) (by rw [hk]; rcases h45 with h | h <;> rw [h] <;> decide)
        have hoy : (F.cons y ky .nil).ok := ⟨ho.1, ho.2.1, ho.2.2.1, trivial⟩
        have hfl : (F.cons y ky (.cons z kz .nil)).flat ++ q = (F.cons y ky .nil).flat ++ (z :: (kz.flat ++ q)) := by simp [F.flat]
        have hlen : L = 1 + ((ky.flat.length + 1) + (1 + (kz.flat.length + q.length))) := by rw [HL.out]; simp [F.flat]; omega
        obtain ⟨p2, p3⟩ := HRow.out 1 (by simp [F.flat])
        simp only [Nat.one_mul, F.flat, List.cons_append, List.getElem_cons_zero, List.getElem_cons_succ] at p2 p3
        have hz0 := HRow.out (1 + (ky.flat.length + 1)) (by simp [F.flat]; omega)
        have hzc : (⟨xk, xn⟩ :: ((F.cons y ky (.cons z kz .nil)).flat ++ q))[1 + (ky.flat.length + 1)]? = some z := by
          rw [hfl, show 1 + (ky.flat.length + 1) = ((F.cons y ky .nil).flat.length + 0) + 1 by simp [F.flat]; omega, List.getElem?_cons_succ, List.getElem?_append_right (by omega)]
          simp
        rw [List.getElem?_eq_getElem (by simp [F.flat]; omega)] at hzc
        simp only [Option.some.injEq] at hzc
        rw [hzc] at hz0
        clear hzc
        obtain ⟨q0, q1⟩ := hz0
        obtain ⟨n1, hn1⟩ : ∃ n1, n1 = ky.flat.length + 1 := ⟨_, rfl⟩
        rw [← hn1] at hlen q0 q1
        have HC : Hid (∀ w', Below w.heap.size w w' → Calls Try.prog 53 #[.slice (some ⟨b, o + 2, none⟩) (L - 1) (c - 1)] w' fun e w'' => e = .returned (.tuple #[.slice (some ⟨b, o + 2, none⟩) n1 (c - 1), .slice (some ⟨b, o + (1 + n1) * 2, none⟩) (L - 1 - n1) (c - 1 - n1)]) ∧ Below w'.heap.size w' w'') := by
          refine hide fun w' hw' => ?_
          have hd : ((F.cons y ky .nil).flat ++ (z :: (kz.flat ++ q))).length = L - 1 := by rw [hlen, hn1]; simp [F.flat]; omega
          have hr := (CRowAt.below ⟨hb, HRow.out⟩ hw').drop 1
          rw [List.drop_succ_cons, List.drop_zero, hfl, Nat.one_mul] at hr
          have hcut := cutAhead_any b (o + 2) (c - 1) _ n1 w' (by omega) (by omega) (by rw [hn1]; exact sz_first _ hoy) (by omega) hr
          rw [hd] at hcut
          refine Calls.mono hcut ?_
          rintro e w'' ⟨qq, rfl, hq, hbb⟩
          rw [hq (by omega)]
          exact ⟨by rw [show o + 2 + n1 * 2 = o + (1 + n1) * 2 by omega], hbb⟩
        have h1L : (1 : Int) < (L : Int) := by omega
        have h1c : (1 : Int) ≤ (c : Int) := by omega
        have hc1 : ¬ (c : Int) - 1 = 0 := by omega
        have hc1' : ¬ c - 1 = 0 := by omega
        obtain ⟨L2, hL2⟩ : ∃ L2, L2 = L - 1 - n1 := ⟨_, rfl⟩
        rw [← hL2] at HC
        have hL20 : (0 : Int) < (L2 : Int) := by omega
        obtain ⟨O2, hO2⟩ : ∃ O2, O2 = o + (1 + n1) * 2 := ⟨_, rfl⟩
        rw [← hO2] at HC q0 q1
        clear hO2 hL2 hn1 hfl hlen hoy hk HRow HL hg
        rcases h45 with h4 | h5
        · subst h4
          have e : loc 4 (.cons y ky (.cons z kz .nil)) = rdy z.k := rfl
          rw [e]
          clear e ho
          go_enter Try.func28, Try.ntmps28
          go_wp2_with fail
          refine Calls.mono (HC.out _ (Below.refl _ _)) ?_
          rintro e w1 ⟨rfl, hb1⟩
          have r0 := (hb1.cell (p := ⟨b, O2, none⟩) hb).trans q0
          have r1 := (hb1.cell (p := ⟨b, O2 + 1, none⟩) hb).trans q1
          go_wp2_with fail
          refine Calls.mono (isReadyCell_any z.k z.n _) ?_
          rintro e w2 ⟨rfl, hb2⟩
          go_wp2_with fail
          go_ret
          exact ⟨rfl, hb1.trans (hb2.mono hb1.size)⟩
        · subst h5
          have e : loc 5 (.cons y ky (.cons z kz .nil)) = (rdy y.k && rdy z.k) := rfl
          rw [e]
          clear e ho
          have HR := hide (isReadyCell_any y.k y.n)
          obtain ⟨R, hR⟩ : ∃ R, R = rdy y.k := ⟨_, rfl⟩
          rw [← hR] at HR ⊢
          clear hR
          cases R with
          | false =>
            go_enter Try.func28, Try.ntmps28
            go_wp2_with fail
            refine Calls.mono (HC.out _ (Below.refl _ _)) ?_
            rintro e w1 ⟨rfl, hb1⟩
            have r0 := (hb1.cell (p := ⟨b, o + 2, none⟩) hb).trans p2
            have r1 := (hb1.cell (p := ⟨b, o + 2 + 1, none⟩) hb).trans p3
            go_wp2_with fail
            refine Calls.mono (HR.out _) ?_
            rintro e w2 ⟨rfl, hb2⟩
            go_wp2_with fail
            go_ret
            exact ⟨rfl, hb1.trans (hb2.mono hb1.size)⟩
          | true =>
            go_enter Try.func28, Try.ntmps28
            go_wp2_with fail
            refine Calls.mono (HC.out _ (Below.refl _ _)) ?_
            rintro e w1 ⟨rfl, hb1⟩
            have r0 := (hb1.cell (p := ⟨b, o + 2, none⟩) hb).trans p2
            have r1 := (hb1.cell (p := ⟨b, o + 2 + 1, none⟩) hb).trans p3
            go_wp2_with fail
            refine Calls.mono (HR.out _) ?_
            rintro e w2 ⟨rfl, hb2⟩
            have hB2 := hb1.trans (hb2.mono hb1.size)
            have t0 := (hB2.cell (p := ⟨b, O2, none⟩) hb).trans q0
            have t1 := (hB2.cell (p := ⟨b, O2 + 1, none⟩) hb).trans q1
            go_wp2_with fail
            refine Calls.mono (isReadyCell_any z.k z.n _) ?_
            rintro e w3 ⟨rfl, hb3⟩
            go_wp2_with fail
            go_ret
            exact ⟨rfl, hB2.trans (hb3.mono hB2.size)⟩
      · have h4 : ¬ xk = 4 := fun h => h45 (.inl h)
        have h5 : ¬ xk = 5 := fun h => h45 (.inr h)
        have e : loc xk k = true := by unfold loc; rw [if_neg h7, if_neg h6, if_neg h5, if_neg h4]
        rw [e]
        have h7b : (xk == 7) = false := by simp [h7]
        have h6b : (xk == 6) = false := by simp [h6]
        have h5b : (xk == 5) = false := by simp [h5]
        have h4b : (xk == 4) = false := by simp [h4]
        clear hk ho hg e HRow HL h45
        go_enter Try.func28, Try.ntmps28
        go_wp2_with fail
        go_ret
        exact ⟨rfl, Below.refl _ _⟩

set_option maxRecDepth 20000 in
set_option maxHeartbeats 2000000 in
theorem implIsHanded_any (ad : Option Addr) (c : Nat) (l : List Cc) (w : World) (hl : l.length ≤ 1048576) (hc : l.length ≤ c) (h : CRow w ad l) :
    Calls Try.prog 14 #[.slice ad l.length c] w fun e w' => e = .returned (.tuple #[.bool (hsT (treeT l)), .bool (goodT l)]) ∧ Below w.heap.size w w' := by
  have HC := hide (implGoodT_any ad c l w hl h)
  cases hg : treeT l with
  | none =>
    have hg2 : goodT l = false := by unfold goodT; rw [hg]; rfl
    rw [hg2] at HC ⊢
    clear hg hg2
    go_enter Try.func14, Try.ntmps14
    go_wp2_with fail
    refine Calls.mono HC.out ?_
    rintro e w1 ⟨rfl, hb1⟩
    clear HC
    go_wp2_with fail
    exact bodyPost_ret (v := .tuple #[.bool false, .bool false]) (by simp [results, Try.results14, go_sem]) rfl ⟨rfl, hb1⟩
  | some a =>
    have hg2 : goodT l = true := by unfold goodT; rw [hg]; rfl
    rw [hg2] at HC ⊢
    rw [show hsT (some a) = hs a from rfl]
    obtain ⟨e1, hok, e3, -, -⟩ := treeT_flat hg
    obtain ⟨b, o, rfl, hrow⟩ : ∃ b o, ad = some ⟨b, o, none⟩ ∧ CRowAt w b o l := by
      rcases h with h | h
      · have := F.len_flat a; rw [← e1, h, e3] at this; simp at this
      · exact h
    have hb := hrow.1
    have HRow := hide hrow
    have HF := hide (fun i (hi : i < l.length) => front_in a [] i hok (by rw [← e1]; exact hi))
    simp only [List.append_nil, ← e1] at HF
    have HA := hide (locB_all hok)
    simp only [← e1] at HA
    obtain ⟨V, hV⟩ : ∃ V, V = hs a := ⟨_, rfl⟩
    simp only [← hV] at HA ⊢
    clear hg hg2 hrow e3 e1 hok hV
    obtain ⟨L, hL⟩ : ∃ L, L = l.length := ⟨_, rfl⟩
    rw [← hL] at HC hl hc HF HA ⊢
    have HL := hide hL
    clear hL h
    go_enter Try.func14, Try.ntmps14
    go_wp2_with fail
    refine Calls.mono HC.out ?_
    rintro e w1 ⟨rfl, hb1⟩
    clear HC
    have hLc : (L : Int) ≤ (c : Int) := by omega
    go_wp2_with fail
    go_loopw [10] (fun i w' => ∃ j : Nat, j ≤ L ∧ i = .int .i64 (j : Int) ∧ ((List.range j).all fun i => locB (l.drop i)) = true ∧ Below w.heap.size w w') (fun i _ => L - (intOf i).toNat)
    case atStart => exact ⟨0, Nat.zero_le _, rfl, rfl, hb1⟩
    case round =>
      obtain ⟨j, hj, rfl, hall, hB⟩ := hrel
      have HAll := hide hall
      clear hall
      by_cases hlt : j < L
      · have hlt' : (j : Int) < (L : Int) := by omega
        have hj0 : (0 : Int) ≤ (j : Int) := by omega
        have hjc : (j : Int) ≤ (c : Int) := by omega
        have hjL : (j : Int) ≤ (L : Int) := by omega
        have hcj : ¬ (c : Int) - (j : Int) = 0 := by omega
        have hcj' : ¬ c - j = 0 := by omega
        obtain ⟨x, k, q, hd, gx, lx, ox⟩ := HF.out j hlt
        have hdl : (x :: (k.flat ++ q)).length = L - j := by rw [← hd, List.length_drop, HL.out]
        have hr := (CRowAt.below HRow.out hB).drop j
        rw [hd] at hr
        have hI := isHandedAhead_any b (o + j * 2) (c - j) x k q wr gx lx ox (by omega) (by omega) hr
        have hLB := locB_front gx lx ox q
        rw [← hd] at hLB
        rw [hdl, ← hLB] at hI
        have HI := hide hI
        have HSu : Hid (((List.range (j + 1)).all fun i => locB (l.drop i)) = locB (l.drop j)) := hide (by rw [List.range_succ, List.all_append, HAll.out]; simp)
        have HNo : Hid (locB (l.drop j) = false → V = false) := hide (fun hf => by
          rw [← HA.out, List.all_eq_false]
          exact ⟨j, List.mem_range.2 hlt, by rw [hf]; simp⟩)
        clear hI hLB hdl hr hd gx lx ox
        obtain ⟨R, hR⟩ : ∃ R, R = locB (l.drop j) := ⟨_, rfl⟩
        rw [← hR] at HI HSu HNo
        clear hR
        go_wp2_with fail
        refine Calls.mono HI.out ?_
        rintro e w2 ⟨rfl, hb2⟩
        have hB2 := hB.trans (hb2.mono hB.size)
        clear HI hb2
        cases R with
        | true =>
          go_wp2_with fail
          exact ⟨⟨j + 1, by omega, by go_num, HSu.out, hB2⟩, by simp [intOf]; omega⟩
        | false =>
          have hVf := HNo.out rfl
          subst hVf
          go_wp2_with fail
          exact bodyPost_ret (v := .tuple #[.bool false, .bool true]) (by simp [results, Try.results14, go_sem]) rfl ⟨rfl, hB2⟩
      · obtain rfl : j = L := by omega
        have hVt : V = true := by rw [← HA.out]; exact HAll.out
        subst hVt
        go_wp2_with fail
        exact bodyPost_ret (v := .tuple #[.bool true, .bool true]) (by simp [results, Try.results14, go_sem]) rfl ⟨rfl, hB⟩
end Go.Proofs.Ytnmkbpflbfhpnaa.W

/-
  The specification's l12Same and l12Live: rounds in place till nothing changes. Conditions: a good flow.
-/
import Derived.Test.YtaniiolphghhiabLvT
import Derived.Test.YtaniiolphghhiabLvL
namespace Go.Proofs.Ytaniiolphghhiab.W
open Go.ChangeShapes Go.WideShapes Go.ChangeAt Go.RowKit Go.Joins
set_option linter.unusedVariables false
set_option linter.unusedSimpArgs false
set_option maxRecDepth 20000

set_option maxHeartbeats 4000000 in
theorem l12Same_any (v1 v2 : Value) (l1 l2 : List Int) (w : World) (h1 : IV w v1 l1) (h2 : IV w v2 l2) :
    Calls Try.prog 38 #[v1, v2] w fun e w' => e = .returned (.bool (decide (l1 = l2))) ∧ Below w.heap.size w w' := by
  obtain ⟨a1, c1, rfl, r1, k1⟩ := h1
  obtain ⟨a2, c2, rfl, r2, k2⟩ := h2
  obtain ⟨R, hR⟩ : ∃ R, R = decide (l1 = l2) := ⟨_, rfl⟩
  rw [← hR]
  have HR := hide hR
  have H1 := hide r1
  have H2 := hide r2
  clear hR r1 r2
  by_cases hl : l1.length = l2.length
  · have hl' : ((l1.length : Int) != (l2.length : Int)) = false := by rw [hl]; simp
    obtain ⟨n, hn⟩ : ∃ n, n = l1.length := ⟨_, rfl⟩
    have hn2 : n = l2.length := by rw [hn, hl]
    rw [← hn, ← hn2]
    rw [← hn, ← hn2] at hl'
    have HN1 := hide hn
    have HN2 := hide hn2
    rw [← hn] at k1
    clear hn hn2 hl k2
    go_enter Try.func38, Try.ntmps38
    go_wp2_with fail
    clear hl'
    go_loopw [13] (fun i w' => ∃ j : Nat, j ≤ n ∧ i = .int .i64 j ∧ (∀ q (h : q < l1.length) (h' : q < l2.length), q < j → l1[q] = l2[q]) ∧ Below w.heap.size w w') (fun i _ => n - (intOf i).toNat)
    case atStart => exact ⟨0, by omega, rfl, by intros; omega, Below.refl _ _⟩
    case round =>
      obtain ⟨j, hj, rfl, hA, hB⟩ := hrel
      have HA := hide hA
      have HB := hide hB
      clear hA
      by_cases hlt : j < n
      · have hlt' : (j : Int) < (n : Int) := by omega
        have hj0 : (0 : Int) ≤ (j : Int) := by omega
        have hj1 : j < l1.length := by rw [← HN1.out]; exact hlt
        have hj2 : j < l2.length := by rw [← HN2.out]; exact hlt
        obtain ⟨b, o, rfl, hb, p⟩ := IRow.iat H1.out hB hj1
        obtain ⟨b', o', rfl, hb', p'⟩ := IRow.iat H2.out hB hj2
        obtain ⟨x, hx⟩ : ∃ x, x = l1[j] := ⟨_, rfl⟩
        obtain ⟨y, hy⟩ : ∃ y, y = l2[j] := ⟨_, rfl⟩
        rw [← hx] at p
        rw [← hy] at p'
        have HX := hide hx
        have HY := hide hy
        clear hx hy hb hb' hB
        by_cases hxy : x = y
        · have hne : (x != y) = false := by rw [hxy]; simp
          have HA2 : Hid (∀ q (h : q < l1.length) (h' : q < l2.length), q < j + 1 → l1[q] = l2[q]) := hide (fun q h h' hq => by
            by_cases e : q = j
            · subst e; rw [← HX.out, ← HY.out]; exact hxy
            · exact HA.out q h h' (by omega))
          clear hxy
          go_wp2_with fail
          go_region_with (fail)
          all_goals
            have HBd : Hid (Below w.heap.size w wr) := HB
            clear p p'
            go_wp2_with fail
            exact ⟨⟨j + 1, by omega, by go_num, HA2.out, ⟨HB.out.os, HB.out.tape, HB.out.output, HB.out.size, HB.out.block⟩⟩, by simp [intOf]; omega⟩
        · have hne : (x != y) = true := by simpa using hxy
          have HF : Hid (R = false) := hide (by
            rw [HR.out]
            refine decide_eq_false (fun e => hxy ?_)
            rw [HX.out, HY.out]
            subst e; rfl)
          clear hxy
          go_wp2_with fail
          go_region_with (fail)
          all_goals
            clear p p'
            go_wp2_with fail
            go_ret
            exact ⟨ret_bool HF.out.symm, ⟨HB.out.os, HB.out.tape, HB.out.output, HB.out.size, HB.out.block⟩⟩
      · have HF : Hid (R = true) := hide (by
          rw [HR.out, decide_eq_true_eq]
          refine List.ext_getElem (by rw [← HN1.out, ← HN2.out]) (fun q h h' => HA.out q h h' (by have := HN1.out; omega))
          )
        go_wp2_with fail
        go_ret
        exact ⟨ret_bool HF.out.symm, HB.out⟩
  · have hl' : ((l1.length : Int) != (l2.length : Int)) = true := by simp; omega
    have HF : Hid (R = false) := hide (by rw [HR.out]; exact decide_eq_false (fun e => hl (by rw [e])))
    clear hl
    go_enter Try.func38, Try.ntmps38
    go_wp2_with fail
    go_ret
    exact ⟨ret_bool HF.out.symm, Below.refl _ _⟩
abbrev QSI := QST 45
theorem LS.sm {D F L : List (List Int)} (h : LS D F L) (hd : D.length ≤ 12) : QSm L := ⟨by rw [h.len]; omega, fun l hl => by
  obtain ⟨k, hk, rfl⟩ := List.getElem_of_mem hl
  have := r8_len (h.r8 k)
  rw [row_at hk] at this
  omega⟩

set_option maxHeartbeats 8000000 in
theorem l12Live_any (v : Value) (D : List (List Int)) (n : Nat) (F : List (List Int)) (w : World) (h : FRow w v D n F) (hf : GF D F) :
    Calls Try.prog 16 #[v] w fun e w' => ∃ Z, e = .returned (.slice (some ⟨Z, 0, none⟩) D.length D.length) ∧ w.heap.size ≤ Z ∧ QSI w' Z (lvR D F) ∧ Below w.heap.size w w' := by
  have HA := hide (fun (L : List (List Int)) (S k : Nat) (w' : World) (hb : Below w.heap.size w w') (hS : QSI w' S L) (hL : LS D F L) (hk : k < D.length) => l12In_any v (.slice (some ⟨S, 0, none⟩) L.length L.length) D n F L k w' (h.below hb) hf (hS.qv (hL.sm hf.1.2.1)) hL.len hL.r8 hk)
  obtain ⟨ad, cg, bd, bc, rfl, -, -, -, -, -, -, hF⟩ := h
  have hnD : n = D.length := by have := hf.2.1; omega
  have hB0 : Below w.heap.size w (w.alloc (.cells #[.slice ad D.length cg, .slice bd n bc] 34)) := (Below.refl _ _).alloc (Nat.le_refl _) _
  have HX := hide (Bx.new w #[.slice ad D.length cg, .slice bd n bc] 34)
  have HG := hide hf
  have hd12 : D.length ≤ 12 := hf.1.2.1
  obtain ⟨nd, hnd⟩ : ∃ nd, nd = D.length := ⟨_, rfl⟩
  have HL0 := hide (LS.start D F)
  rw [← hnd] at HX hB0 hd12 HA hnD HL0 ⊢
  have HND := hide hnd
  subst hnD
  clear hf hnd hF
  go_enter Try.func16, Try.ntmps16
  go_upto_region 1 with fail
  obtain ⟨W1, hW1⟩ : ∃ W1, W1 = w.alloc (.cells #[.slice ad n cg, .slice bd n bc] 34) := ⟨_, rfl⟩
  obtain ⟨X, hX⟩ : ∃ X, X = w.heap.size := ⟨_, rfl⟩
  rw [← hW1] at HX hB0 ⊢
  rw [← hX] at HX ⊢
  have hXw : w.heap.size ≤ X := by omega
  clear hW1 hX
  have cX := HX.out.c
  have hmk := mk_ISS n (by omega)
  go_wp2_with fail
  clear hmk cX
  have HQ0 := hide (QST.new 45 W1 n)
  have HB2 := hide (hB0.alloc hB0.size (.cells (madeCells #[.slice none 0 0] n) 45))
  have HX2 := hide (HX.out.alloc (.cells (madeCells #[.slice none 0 0] n) 45))
  obtain ⟨W2, hW2⟩ : ∃ W2, W2 = W1.alloc (.cells (madeCells #[.slice none 0 0] n) 45) := ⟨_, rfl⟩
  obtain ⟨Z, hZ⟩ : ∃ Z, Z = W1.heap.size := ⟨_, rfl⟩
  rw [← hW2] at HX2 HQ0 HB2 ⊢
  rw [← hZ] at HQ0 ⊢
  have hZw : w.heap.size ≤ Z := by rw [hZ]; exact hB0.size
  have hXZ : X < Z := by rw [hZ]; exact HX.out.lt
  clear hW2 hZ HX hB0
  go_loopw [4] (fun _ w' => ∃ (L : List (List Int)), QSI w' Z L ∧ LS D F L ∧ Bx w' X #[.slice ad n cg, .slice bd n bc] 34 ∧ Below w.heap.size w w') (fun _ w' => 96 - totV (.slice (some ⟨Z, 0, none⟩) n n) w')
  case atStart => exact ⟨_, HQ0.out, HL0.out, HX2.out, HB2.out⟩
  case round =>
    clear HQ0 HB2 HX2 HL0
    obtain ⟨L, hQ, hL, hx, hB⟩ := hrel
    have HQ := hide hQ
    have HL := hide hL
    have HX := hide hx
    have HB := hide hB
    clear hQ hL hx hB
    have cX := HX.out.c
    go_wp2_with fail
    clear cX
    have HT3 := hide (totV_eq (n := n) (c := n) HQ.out (by rw [HL.out.len, ← HND.out])).symm
    obtain ⟨W3, hW3⟩ : ∃ W3, W3 = wr := ⟨_, rfl⟩
    rw [← hW3] at HQ HX HB HT3 ⊢
    have HW3 := hide hW3
    clear hW3
    go_loopw [4, 14] (fun c i w' => ∃ (k : Nat) (L2 : List (List Int)) (ch : Bool), k ≤ n ∧ i = .int .i64 k ∧ c = .bool ch ∧ QSI w' Z L2 ∧ LS D F L2 ∧ (ch = false → L2 = L ∧ ∀ q, q < k → ni D F L q = row L q) ∧ (ch = true → tl L < tl L2) ∧ tl L ≤ tl L2 ∧ Bx w' X #[.slice ad n cg, .slice bd n bc] 34 ∧ Below w.heap.size w w') (fun _ i _ => n - (intOf i).toNat)
    case atStart => exact ⟨0, L, false, by omega, rfl, rfl, HQ.out, HL.out, (fun _ => ⟨rfl, fun q hq => absurd hq (by omega)⟩), (fun h => nomatch h), Nat.le_refl _, HX.out, HB.out⟩
    case round =>
      clear HQ HX HB
      obtain ⟨k, L2, ch, hk, rfl, rfl, hQ, hL2, hno, hyes, htl, hx, hB⟩ := hrel
      have HQ := hide hQ
      have HL2 := hide hL2
      have HX := hide hx
      have HB := hide hB
      have HNo := hide hno
      have HYes := hide hyes
      have HTl := hide htl
      clear hQ hL2 hno hyes htl hx hB
      by_cases hkn : k < n
      · have hkn' : (k : Int) < (n : Int) := by omega
        have hk0 : (0 : Int) ≤ (k : Int) := by omega
        have hkD : k < D.length := by rw [← HND.out]; exact hkn
        have hlen : L2.length = n := by rw [HL2.out.len, ← HND.out]
        have HC := hide (HA.out L2 Z k wr HB.out HQ.out HL2.out hkn)
        rw [hlen] at HC
        obtain ⟨vk, ck, nvk⟩ := HQ.out.at (q := k) (by rw [hlen]; exact hkn)
        rw [← row_at (by rw [hlen]; exact hkn)] at nvk
        have hzl := HQ.out.lt
        have hone := HL2.out.one HG.out hkD
        have HOne := hide hone
        have HSame := hide (fun (v1 : Value) (w' : World) (hb : Below wr.heap.size wr w') (hv : NV w' v1 (ni D F L2 k)) => l12Same_any v1 vk (ni D F L2 k) (row L2 k) w' (hv.iv (by have := r8_len (lst_r8 (niB D F L2 k)); unfold ni; omega)) ((nvk.below hb).iv (by have := r8_len (HL2.out.r8 k); omega)))
        obtain ⟨ak, dk, rfl, -⟩ := nvk.form
        obtain ⟨mk, hmk⟩ : ∃ mk, mk = (row L2 k).length := ⟨_, rfl⟩
        rw [← hmk] at ck HSame
        have HLen := hide hlen
        have cX := HX.out.c
        clear nvk hone hmk hlen
        go_wp2_with fail
        refine Calls.mono HC.out ?_
        rintro e w1 ⟨v1, rfl, hv, hb⟩
        have HV := hide hv
        have HQ1 := hide (HQ.out.below hb)
        have HX1 := hide (HX.out.below hb HX.out.lt)
        have HB1 := hide (HB.out.trans (hb.mono HB.out.size))
        have Hb := hide hb
        have ck1 := (hb.cell (p := ⟨Z, k, none⟩) hzl).trans ck
        obtain ⟨a1, d1, e1, -⟩ := hv.form
        clear hv hb HC ck cX HQ HX HB
        have HFin : Hid (∀ (ch2 : Bool) (w' : World), Below w1.heap.size w1 w' → (ch2 = false → ch = false ∧ ni D F L2 k = row L2 k) → (ch2 = true → ch = true ∨ ni D F L2 k ≠ row L2 k) → ∃ L3, L3 = L2.set k (ni D F L2 k) ∧ QSI (w'.setCell ⟨Z, k, none⟩ v1) Z L3 ∧ LS D F L3 ∧ (ch2 = false → L3 = L ∧ ∀ q, q < k + 1 → ni D F L q = row L q) ∧ (ch2 = true → tl L < tl L3) ∧ tl L ≤ tl L3 ∧ Bx (w'.setCell ⟨Z, k, none⟩ v1) X #[.slice ad n cg, .slice bd n bc] 34 ∧ Below w.heap.size w (w'.setCell ⟨Z, k, none⟩ v1)) := hide (fun ch2 w' hb hf ht => by
          refine ⟨_, rfl, (HQ1.out.below hb).set (by rw [HLen.out]; exact hkn) (HV.out.below hb), HOne.out.1, fun e => ?_, fun e => ?_, Nat.le_trans HTl.out HOne.out.2.1, (HX1.out.below hb HX1.out.lt).setne Z k v1 (by omega), (HB1.out.trans (hb.mono HB1.out.size)).setCell (p := ⟨Z, k, none⟩) hZw v1⟩
          · obtain ⟨h1, h2⟩ := hf e
            obtain ⟨h3, h4⟩ := HNo.out h1
            have hkl : k < L2.length := by rw [HLen.out]; exact hkn
            have h5 : L2.set k (ni D F L2 k) = L2 := by rw [h2, row_at hkl]; exact List.set_getElem_self hkl
            refine ⟨by rw [h5]; exact h3, fun q hq => ?_⟩
            by_cases e : q = k
            · subst e; rw [← h3]; exact h2
            · exact h4 q (by omega)
          · rcases ht e with h1 | h1
            · exact Nat.lt_of_lt_of_le (HYes.out h1) HOne.out.2.1
            · exact Nat.lt_of_le_of_lt HTl.out (HOne.out.2.2 h1))
        have HFr : Hid (∀ (w' : World), Below w1.heap.size w1 w' → (∃ y, w'.cell? ⟨Z, k, none⟩ = some y) ∧ ∀ i, w'.frozen? ⟨Z, i, none⟩ = false) := hide (fun w' hb => ⟨⟨_, (hb.cell (p := ⟨Z, k, none⟩) HQ1.out.lt).trans ck1⟩, fun i => (HQ1.out.below hb).f i⟩)
        subst e1
        cases ch with
        | true =>
          obtain ⟨L3, -, h1, h2, h3, h4, h5, h6, h7⟩ := HFin.out true w1 (Below.refl _ _) (fun h => nomatch h) (fun _ => .inl rfl)
          have HF9 := hide (And.intro h1 (And.intro h2 (And.intro h3 (And.intro h4 (And.intro h5 (And.intro h6 h7))))))
          obtain ⟨⟨y, cy⟩, fz⟩ := HFr.out w1 (Below.refl _ _)
          clear h1 h2 h3 h4 h5 h6 h7 HFin HFr HSame ck1
          go_wp2_with fail
          obtain ⟨h1, h2, h3, h4, h5, h6, h7⟩ := HF9.out
          go_roundw
          case rel => exact ⟨k + 1, L3, true, by omega, by go_num, rfl, h1, h2, h3, fun _ => h4 (by trivial), h5, h6, h7⟩
          case measure => simp [intOf]; omega
        | false =>
          have HSm := hide (HSame.out _ w1 Hb.out HV.out)
          by_cases heq : ni D F L2 k = row L2 k
          · have hd : decide (ni D F L2 k = row L2 k) = true := decide_eq_true heq
            rw [hd] at HSm
            have HEq := hide heq
            clear hd heq HSame
            obtain ⟨n1, hn1⟩ : ∃ n1, n1 = (ni D F L2 k).length := ⟨_, rfl⟩
            rw [← hn1] at HSm HFin ⊢
            clear hn1
            go_wp2_with fail
            refine Calls.mono HSm.out ?_
            rintro e w2 ⟨rfl, hb⟩
            obtain ⟨L3, -, h1, h2, h3, h4, h5, h6, h7⟩ := HFin.out false w2 hb (fun _ => ⟨by trivial, HEq.out⟩) (fun h => nomatch h)
            have HF9 := hide (And.intro h1 (And.intro h2 (And.intro h3 (And.intro h4 (And.intro h5 (And.intro h6 h7))))))
            obtain ⟨⟨y, cy⟩, fz⟩ := HFr.out w2 hb
            clear h1 h2 h3 h4 h5 h6 h7 HFin HFr HSm ck1 hb
            go_wp2_with fail
            obtain ⟨h1, h2, h3, h4, h5, h6, h7⟩ := HF9.out
            go_roundw
            case rel => exact ⟨k + 1, L3, false, by omega, by go_num, rfl, h1, h2, fun _ => h3 (by trivial), h4, h5, h6, h7⟩
            case measure => simp [intOf]; omega
          · have hd : decide (ni D F L2 k = row L2 k) = false := decide_eq_false heq
            rw [hd] at HSm
            have HEq := hide heq
            clear hd heq HSame
            obtain ⟨n1, hn1⟩ : ∃ n1, n1 = (ni D F L2 k).length := ⟨_, rfl⟩
            rw [← hn1] at HSm HFin ⊢
            clear hn1
            go_wp2_with fail
            refine Calls.mono HSm.out ?_
            rintro e w2 ⟨rfl, hb⟩
            obtain ⟨L3, -, h1, h2, h3, h4, h5, h6, h7⟩ := HFin.out true w2 hb (fun h => nomatch h) (fun _ => .inr HEq.out)
            have HF9 := hide (And.intro h1 (And.intro h2 (And.intro h3 (And.intro h4 (And.intro h5 (And.intro h6 h7))))))
            obtain ⟨⟨y, cy⟩, fz⟩ := HFr.out w2 hb
            clear h1 h2 h3 h4 h5 h6 h7 HFin HFr HSm ck1 hb
            go_wp2_with fail
            obtain ⟨h1, h2, h3, h4, h5, h6, h7⟩ := HF9.out
            go_roundw
            case rel => exact ⟨k + 1, L3, true, by omega, by go_num, rfl, h1, h2, h3, fun _ => h4 (by trivial), h5, h6, h7⟩
            case measure => simp [intOf]; omega
      · obtain rfl : k = n := by omega
        cases ch with
        | false =>
          obtain ⟨h1, h2⟩ := HNo.out rfl
          have HE : Hid (L = lvR D F) := hide (HL.out.done HG.out (fun q hq => h2 q (by rw [HND.out]; exact hq)))
          have HQf : Hid (QSI wr Z (lvR D F)) := hide (by rw [← HE.out, ← h1]; exact HQ.out)
          clear h1 h2
          go_wp2_with fail
          go_ret
          exact ⟨Z, rfl, hZw, HQf.out, HB.out⟩
        | true =>
          have hlt := HYes.out rfl
          have hmax := tl_max HL2.out.r8
          have hlen : L2.length = k := by rw [HL2.out.len, ← HND.out]
          have hT1 : totV (.slice (some ⟨Z, 0, none⟩) k k) W3 = tl L := by rw [← HT3.out]
          have hT2 : totV (.slice (some ⟨Z, 0, none⟩) k k) wr = tl L2 := totV_eq HQ.out hlen.symm
          have HM : Hid (96 - totV (.slice (some ⟨Z, 0, none⟩) k k) wr < 96 - totV (.slice (some ⟨Z, 0, none⟩) k k) W3) := hide (by rw [hT1, hT2]; rw [hlen] at hmax; omega)
          have HF9 := hide (And.intro HQ.out (And.intro HL2.out (And.intro HX.out HB.out)))
          clear hlt hmax hlen hT1 hT2
          go_wp2_with fail
          go_roundw
          case rel => exact ⟨L2, HF9.out.1, HF9.out.2.1, HF9.out.2.2.1, HF9.out.2.2.2⟩
          case measure => rw [← HW3.out]; exact HM.out
end Go.Proofs.Ytaniiolphghhiab.W

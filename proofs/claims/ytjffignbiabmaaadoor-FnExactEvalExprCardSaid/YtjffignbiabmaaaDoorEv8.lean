/-
  Numbers of expressions: the contract of the specification's EvalExpr. Conditions: rows of at most 1048576 parts with texts of at most 1048576 bytes.
-/
import Derived.Test.YtjffignbiabmaaaDoorEv7
namespace Go.Proofs.YtjffignbiabmaaaDoor.W
open Go.ChangeShapes Go.WideShapes Go.ChangeAt Go.RowKit
set_option linter.unusedVariables false

set_option maxRecDepth 20000 in
set_option maxHeartbeats 4000000 in
theorem specEval_any (ade adn adv : Option Addr) (ce cn cv : Nat) (l : List Xx) (ns : List ByteArray) (vs : List Int) (w : World) (hl : l.length ≤ 1048576) (hs : ∀ x ∈ l, x.t.size ≤ 1048576) (hR : Row w ade l) (hN : CR w adn (ns.map Value.string)) (hV : CR w adv (vs.map (Value.int .i64))) (hnl : ns.length ≤ 1048576) (hvl : vs.length ≤ 1048576) :
    Calls Tryd.prog 24 #[.slice ade l.length ce, .slice adn ns.length cn, .slice adv vs.length cv] w fun e w' => e = .returned (evV (evT l ns vs)) ∧ Below w.heap.size w w' := by
  have HG := hide (l2Tree_any ade ce l w hl hs hR)
  cases hT : treeE l with
  | none =>
    rw [hT] at HG
    rw [evT_bad l ns vs hT]
    clear hT hR hN hV hs
    go_enter Tryd.func24, Tryd.ntmps24
    go_wp2_with fail
    refine Calls.mono HG.out ?_
    rintro e w1 ⟨hb1, k, n, t, sad, sn, sc, rfl⟩
    go_wp2_with fail
    exact bodyPost_ret (v := .tuple #[.int .i64 0, .int .i64 0, .bool false]) (by simp [results, Tryd.results24, go_sem]) rfl ⟨rfl, hb1.alloc hb1.size _⟩
  | some t =>
    rw [hT] at HG
    obtain ⟨u1, u2, u3, -⟩ := treeE_flat hT
    by_cases h20 : ns.length ≤ 20
    · by_cases heq : ns.length = vs.length
      · have h20' : ¬ (20 : Int) < (ns.length : Int) := by omega
        have HTr := hide hT
        have HV := hide hV
        have HN := hide hN
        obtain ⟨R, hRR⟩ : ∃ R, R = evT l ns vs := ⟨_, rfl⟩
        rw [← hRR]
        have HRR := hide hRR
        have HEq := hide heq
        have HOk := hide u2
        clear hT hR hN hV hs hRR u1 u2 u3
        rw [heq] at h20 h20'
        have HL : Hid ((.slice adn ns.length cn : Value) = .slice adn vs.length cn) := hide (by rw [heq])
        rw [HL.out]
        clear heq HL
        go_enter Tryd.func24, Tryd.ntmps24
        go_wp2_with fail
        refine Calls.mono HG.out ?_
        rintro e w1 ⟨hb1, s1, rfl, hT1⟩
        have HT1 := hide hT1
        obtain ⟨sad, sc, rfl, -⟩ := TrK.kid hT1
        clear hT1 HG
        obtain ⟨KL, hKL⟩ : ∃ KL, KL = t.kids.length := ⟨_, rfl⟩
        rw [← hKL] at HT1 ⊢
        obtain ⟨hd, hhd⟩ : ∃ hd, hd = t.head := ⟨_, rfl⟩
        rw [← hhd]
        have HHd := hide hhd
        clear hKL hhd
        go_wp2_with fail
        obtain ⟨w2, hw2⟩ : ∃ w2, w2 = w1.alloc (.cells #[.int .i64 hd.k, .int .i64 hd.n, .string hd.t, .slice sad KL sc] 79) := ⟨_, rfl⟩
        have hB2 : Below w.heap.size w w2 := by rw [hw2]; exact hb1.alloc hb1.size _
        have hc2 : w2.heap[w1.heap.size]? = some (.cells #[.int .i64 hd.k, .int .i64 hd.n, .string hd.t, .slice sad KL sc] 79) := by rw [hw2]; exact heap_alloc_new _ _
        have HT2 : Hid (TrK w2 w.heap.size t (.slice sad KL sc)) := hide (by rw [hw2]; exact TrK.below ((Below.refl _ _).alloc (Nat.le_refl _) _) HT1.out)
        rw [← hw2]
        have HC2 := hide hc2
        clear hw2 hb1 HT1 hc2
        go_loopw [36] (fun i w' => ∃ j : Nat, j ≤ vs.length ∧ i = .int .i64 j ∧ (∀ q (h : q < vs.length), q < j → bdB vs[q] = true) ∧ w' = w2) (fun i _ => vs.length - (intOf i).toNat)
        case atStart => exact ⟨0, by omega, rfl, by intros; omega, rfl⟩
        case round =>
          obtain ⟨j, hj, rfl, hall, rfl⟩ := hrel
          have HA := hide hall
          clear hall
          by_cases hlt : j < vs.length
          · have hlt' : (j : Int) < (vs.length : Int) := by omega
            obtain ⟨b, o, rfl, hb, q⟩ := (HV.out.below hB2).at (i := j) (by simpa using hlt)
            rw [List.getElem_map] at q
            have hmem := List.getElem_mem hlt
            obtain ⟨V, hVv⟩ : ∃ V, V = vs[j] := ⟨_, rfl⟩
            have HVv := hide hVv
            rw [← hVv] at q hmem
            have HMm := hide hmem
            clear hVv hmem
            have HIB := hide (l2Bound_any V)
            cases hbd : bdB V with
            | true =>
              rw [hbd] at HIB
              have HA2 : Hid (∀ q (h : q < vs.length), q < j + 1 → bdB vs[q] = true) := hide (fun q h hq => by
                by_cases e : q = j
                · subst e; rw [← HVv.out]; exact hbd
                · exact HA.out q h (by omega))
              clear hbd
              go_wp2_with fail
              refine (HIB.out _).mono ?_
              rintro e w3 ⟨rfl, rfl⟩
              go_wp2_with fail
              exact ⟨⟨j + 1, by omega, by go_num, HA2.out, trivial⟩, by simp [intOf]; omega⟩
            | false =>
              rw [hbd] at HIB
              have hRe : R = none := by
                rw [HRR.out]
                refine evT_no _ _ _ (fun h => ?_)
                have := h.2.2 V HMm.out
                rw [hbd] at this; cases this
              subst hRe
              clear hbd HRR
              go_wp2_with fail
              refine (HIB.out _).mono ?_
              rintro e w3 ⟨rfl, rfl⟩
              go_wp2_with fail
              exact bodyPost_ret (v := .tuple #[.int .i64 0, .int .i64 0, .bool false]) (by simp [results, Tryd.results24, go_sem]) rfl ⟨rfl, hB2⟩
          · obtain rfl : j = vs.length := by omega
            have hv : ∀ v ∈ vs, bdB v = true := fun v hv => by
              obtain ⟨q, hq, e⟩ := List.getElem_of_mem hv
              rw [← e]; exact HA.out q hq hq
            have hRe : R = some (ev ns vs t) := by rw [HRR.out]; exact evT_yes _ _ _ _ (by have := HEq.out; omega) HEq.out hv HTr.out
            have HC := hide (l2Eval_any adn adv cn cv ns vs hv (by have := HEq.out; omega) HEq.out t HOk.out _ _ wr HT2.out (HN.out.below hB2) (HV.out.below hB2))
            rw [HEq.out, ← HHd.out] at HC
            obtain ⟨E1, hE1⟩ : ∃ E1, E1 = ev ns vs t := ⟨_, rfl⟩
            rw [← hE1] at hRe HC
            subst hRe
            obtain ⟨en, ec⟩ := E1
            simp only at HC
            have y0 : wr.cell? ⟨w1.heap.size, 0, none⟩ = some (.int .i64 hd.k) := (cell_of_blk HC2.out 0).trans rfl
            have y1 : wr.cell? ⟨w1.heap.size, 1, none⟩ = some (.int .i64 hd.n) := (cell_of_blk HC2.out 1).trans rfl
            have y2 : wr.cell? ⟨w1.heap.size, 2, none⟩ = some (.string hd.t) := (cell_of_blk HC2.out 2).trans rfl
            have y3 : wr.cell? ⟨w1.heap.size, 3, none⟩ = some (.slice sad KL sc) := (cell_of_blk HC2.out 3).trans rfl
            clear HRR hE1 hv
            go_wp2_with fail
            refine Calls.mono HC.out ?_
            rintro e w3 ⟨rfl, hb3⟩
            have hB3 : Below w.heap.size w w3 := hB2.trans (hb3.mono hB2.size)
            clear hb3 HC y0 y1 y2 y3
            go_wp2_with fail
            exact bodyPost_ret (v := .tuple #[.int .i64 en, .int .i64 ec, .bool true]) (by simp [results, Tryd.results24, go_sem]) rfl ⟨rfl, hB3⟩
      · rw [evT_no l ns vs (fun h => heq h.2.1)]
        have h20' : ¬ (20 : Int) < (ns.length : Int) := by omega
        have hne : ((ns.length : Int) == (vs.length : Int)) = false := by simp; omega
        have hne' : ((ns.length : Int) != (vs.length : Int)) = true := by simp; omega
        have hne2 : ¬ (ns.length : Int) = (vs.length : Int) := by omega
        clear hT hR hN hV hs u1 u2 u3
        go_enter Tryd.func24, Tryd.ntmps24
        go_wp2_with fail
        refine Calls.mono HG.out ?_
        rintro e w1 ⟨hb1, s1, rfl, hT1⟩
        obtain ⟨sad, sc, rfl, -⟩ := TrK.kid hT1
        clear hT1
        go_wp2_with fail
        exact bodyPost_ret (v := .tuple #[.int .i64 0, .int .i64 0, .bool false]) (by simp [results, Tryd.results24, go_sem]) rfl ⟨rfl, hb1.alloc hb1.size _⟩
    · rw [evT_no l ns vs (fun h => h20 h.1)]
      have h20' : (20 : Int) < (ns.length : Int) := by omega
      clear hT hR hN hV hs u1 u2 u3
      go_enter Tryd.func24, Tryd.ntmps24
      go_wp2_with fail
      refine Calls.mono HG.out ?_
      rintro e w1 ⟨hb1, s1, rfl, hT1⟩
      obtain ⟨sad, sc, rfl, -⟩ := TrK.kid hT1
      clear hT1
      go_wp2_with fail
      exact bodyPost_ret (v := .tuple #[.int .i64 0, .int .i64 0, .bool false]) (by simp [results, Tryd.results24, go_sem]) rfl ⟨rfl, hb1.alloc hb1.size _⟩
end Go.Proofs.YtjffignbiabmaaaDoor.W

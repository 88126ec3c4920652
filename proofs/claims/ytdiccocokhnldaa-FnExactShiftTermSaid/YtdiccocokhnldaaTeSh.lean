/-
  Both sides' ShiftTerm. Conditions: at most 1048576 cells.
-/
import Derived.Test.YtdiccocokhnldaaTeY
namespace Go.Proofs.Ytdiccocokhnldaa.W
open Go.ChangeShapes Go.WideShapes Go.ChangeAt Go.RowKit
set_option linter.unusedVariables false

theorem Bd_take {by_ : Int} {f : Nat} {l : List Int} (h : Bd by_ f l = false) (j : Nat) (hj : j < l.length) : ¬ ((f : Int) ≤ l[j] ∧ l[j] + by_ < (f : Int)) := by
  unfold Bd at h
  intro hc
  have := List.any_eq_false.1 h l[j] (List.getElem_mem hj)
  simp [hc.1, hc.2] at this
theorem Bd_yes {by_ : Int} {f : Nat} {l : List Int} (j : Nat) (hj : j < l.length) (hc : (f : Int) ≤ l[j] ∧ l[j] + by_ < (f : Int)) : Bd by_ f l = true := by
  unfold Bd
  rw [List.any_eq_true]
  exact ⟨l[j], List.getElem_mem hj, by simp [hc.1, hc.2]⟩
theorem Bd_all {by_ : Int} {f : Nat} {l : List Int} (h : ∀ j (hj : j < l.length), ¬ ((f : Int) ≤ l[j] ∧ l[j] + by_ < (f : Int))) : Bd by_ f l = false := by
  unfold Bd
  rw [List.any_eq_false]
  intro x hx
  obtain ⟨j, hj, rfl⟩ := List.getElem_of_mem hx
  have := h j hj
  simp only [Bool.and_eq_true, decide_eq_true_eq]
  exact this

theorem fre_bd : ∀ (a : F) (pk : Int) (d i : Nat) (o : List Int), a.ok → (∀ m ∈ o, 0 ≤ m ∧ m ≤ 99) → ∀ m ∈ fre pk d i a o, 0 ≤ m ∧ m ≤ 99
  | .nil, _, _, _, _, _, h => h
  | .cons x k r, pk, d, i, o, h, ho => by
    obtain ⟨g1, l1, o1, r1⟩ := ok_cons h
    rw [fre_cons]
    refine fre_bd r pk d (i + 1) _ r1 ?_
    unfold fr1
    split
    · rename_i hc
      have hn : 0 ≤ x.n ∧ x.n ≤ 99 := by
        unfold goodC at g1
        rw [if_pos hc.1] at g1
        simpa [inB] using g1
      intro m hm
      rcases (mem_put _ _ _).1 hm with hm | rfl
      · exact ho m hm
      · omega
    · exact fre_bd k x.k _ 0 o o1 ho

set_option maxRecDepth 20000 in
set_option maxHeartbeats 2000000 in
theorem specShift_any (ad : Option Addr) (c : Nat) (l : List Cc) (by_ f : Int) (w : World) (hl : l.length ≤ 1048576) (h : CRow w ad l) :
    Calls Try.prog 25 #[.slice ad l.length c, .int .i64 by_, .int .i64 f] w fun e w' => RS w (shR l by_ f) e w' := by
  have HC := hide (l3Tree_any ad c l w hl h)
  clear h
  cases hT : treeT l with
  | none =>
    have hr : shR l by_ f = none := by unfold shR; rw [hT]
    rw [hr]
    rw [hT] at HC
    clear hT hr
    go_enter Try.func25, Try.ntmps25
    go_wp2_with fail
    refine Calls.mono HC.out ?_
    rintro e w1 ⟨hb1, ho⟩
    obtain ⟨k, n, sad, sn, sc, rfl⟩ := ho
    go_wp2_with fail
    exact bodyPost_ret (v := .tuple #[.slice none 0 0, .bool false]) (by simp [results, Try.results25, go_sem]) rfl ⟨_, rfl, World.ownsRow_nil _ _ _ _, hb1.alloc hb1.size _⟩
  | some t =>
    rw [hT] at HC
    have HTT := hide (treeT_flat hT)
    obtain ⟨x, k, rfl⟩ := F.len_1 HTT.out.2.2.1
    have hr0 : shR l by_ f = if (inB by_ (-50) 50 && inB f 0 99 && !Bd by_ f.toNat (fr1 0 x k [])) = true then some (shc by_ f.toNat x :: (shf by_ x.k f.toNat 0 k).flat) else none := by unfold shR; rw [hT]
    clear hT
    by_cases hb : inB by_ (-50) 50 = true
    · by_cases hf : inB f 0 99 = true
      · have hbb : -50 ≤ by_ ∧ by_ ≤ 50 := by simpa [inB] using hb
        have hff : 0 ≤ f ∧ f ≤ 99 := by simpa [inB] using hf
        obtain ⟨fn, rfl⟩ := Int.eq_ofNat_of_zero_le hff.1
        rw [hb, hf, Int.toNat_natCast] at hr0
        simp only [Bool.true_and] at hr0
        obtain ⟨R, hR⟩ : ∃ R, R = shR l by_ (fn : Int) := ⟨_, rfl⟩
        rw [← hR] at hr0 ⊢
        have HR0 := hide hr0
        have Hb := hide (l1In_any by_ (-50) 50)
        have Hf := hide (l1In_any (fn : Int) 0 99)
        rw [hb] at Hb
        rw [hf] at Hf
        clear hR hr0 hb hf
        go_enter Try.func25, Try.ntmps25
        go_wp2_with fail
        refine Calls.mono HC.out ?_
        rintro e w1 ⟨hb1, ho⟩
        obtain ⟨x', k', s, he, rfl, hK⟩ := ho
        simp only [F.cons.injEq, and_true] at he
        obtain ⟨rfl, rfl⟩ := he
        obtain ⟨sad, sc, rfl⟩ := hK.form
        obtain ⟨t1, t2, t3, t4, -⟩ := HTT.out
        obtain ⟨g1, l1, o1, -⟩ := ok_cons t2
        have hn := good_n g1
        have hkf : k.flat.length + 1 ≤ 600 := by rw [t1] at t4; simpa [F.flat] using t4
        have HK := hide hK
        have HF := hide (fun (w : World) (P : Nat → Prop) (h1 : KidT w P k (.slice sad k.len sc)) => l3Free_any k x (.slice sad k.len sc) (.slice none 0 0) 0 [] P w hn.1 hn.2 l1 o1 (by omega) (by simp; omega) h1 (.inl ⟨rfl, rfl⟩))
        have HH := hide (fun (w : World) (P : Nat → Prop) (h1 : KidT w P k (.slice sad k.len sc)) => l3Shift_any k x (.slice sad k.len sc) by_ fn P w hn.1 hn.2 (by omega) (by omega) l1 o1 (by omega) h1)
        rw [show ((0 : Nat) : Int) = 0 from rfl] at HF
        have hshl := shf_flat by_ k x.k fn 0
        have hbd := fre_bd (.cons x k .nil) 0 0 0 [] t2 (by simp)
        rw [fre_cons] at hbd
        simp only [fre, binds_0, Nat.add_zero] at hbd
        have HBd := hide hbd
        clear hbd
        have hfrl := fre_len (.cons x k .nil) 0 0 0 []
        rw [fre_cons] at hfrl
        simp only [fre, binds_0, Nat.add_zero, List.length_nil, Nat.zero_add, F.flat, List.append_nil, List.length_cons] at hfrl
        obtain ⟨KL, hKL⟩ : ∃ KL, KL = k.len := ⟨_, rfl⟩
        rw [← hKL] at HF HH HK ⊢
        clear t1 t2 t3 t4 HC hK g1 l1 o1 hKL HTT
        go_wp2_with fail
        refine (Hb.out _).mono ?_
        rintro e w1' ⟨rfl, hw1⟩
        obtain rfl := hw1.symm
        go_wp2_with fail
        refine (Hf.out _).mono ?_
        rintro e w1' ⟨rfl, hw1⟩
        obtain rfl := hw1.symm
        go_wp2_with fail
        obtain ⟨w2, hw2⟩ : ∃ w2, w2 = w1.alloc (.cells #[.int .i64 x.k, .int .i64 x.n, .slice sad KL sc] 63) := ⟨_, rfl⟩
        rw [← hw2]
        have hB12 : Below w1.heap.size w1 w2 := by rw [hw2]; exact (Below.refl _ _).alloc (Nat.le_refl _) _
        have hb2 : w2.heap[w1.heap.size]? = some (.cells #[.int .i64 x.k, .int .i64 x.n, .slice sad KL sc] 63) := by rw [hw2]; exact heap_alloc_new _ _
        have hB2 : Below w.heap.size w w2 := hb1.trans (hB12.mono hb1.size)
        have hsz2 : w1.heap.size < w2.heap.size := (Array.getElem?_eq_some_iff.1 hb2).1
        have HK2 := hide (HK.out.below hB12)
        have HX2 := hide hb2
        clear hw2 hb2 HK
        refine Calls.mono (HF.out _ _ HK2.out) ?_
        rintro e w3 ⟨s3, rfl, hs3, hb3⟩
        have hB3 : Below w.heap.size w w3 := hB2.trans (hb3.mono hB2.size)
        have HX3 := hide ((hb3.block _ hsz2).trans HX2.out)
        have HK3 := hide (HK2.out.below hb3)
        have hsz3 : w1.heap.size < w3.heap.size := Nat.lt_of_lt_of_le hsz2 hb3.size
        have HS3 := hide hs3
        obtain ⟨pad, pc, rfl⟩ := hs3.form
        obtain ⟨FL, hFL⟩ : ∃ FL, FL = fr1 0 x k [] := ⟨_, rfl⟩
        rw [← hFL] at HR0 HS3 hfrl HBd ⊢
        clear hFL hs3 hb3 hB12 HX2 HK2 hB2 HF
        obtain ⟨PL, hPL⟩ : ∃ PL, PL = FL.length := ⟨_, rfl⟩
        rw [← hPL] at HS3 hfrl ⊢
        have HPL := hide hPL
        clear hPL
        go_wp2_with fail
        go_loopw [32] (fun i w' => ∃ j : Nat, j ≤ PL ∧ i = .int .i64 (j : Int) ∧ w' = w3 ∧ ∀ i (hi : i < FL.length), i < j → ¬ ((fn : Int) ≤ FL[i] ∧ FL[i] + by_ < (fn : Int))) (fun i _ => PL - (intOf i).toNat)
        case atStart => exact ⟨0, by omega, rfl, rfl, by intros; omega⟩
        case round =>
          obtain ⟨j, hj, rfl, hww, hall⟩ := hrel
          obtain rfl := hww.symm
          have HA := hide hall
          clear hall hww
          by_cases hlt : j < PL
          · have hlt' : (j : Int) < (PL : Int) := by omega
            have hjl : j < FL.length := by have := HPL.out; omega
            have hm := HBd.out _ (List.getElem_mem hjl)
            obtain ⟨gg, rfl, hc⟩ : ∃ gg, pad = some ⟨gg, 0, none⟩ ∧ w3.cell? ⟨gg, j, none⟩ = some (.int .i64 FL[j]) := by
              rcases HS3.out with ⟨h1, h2⟩ | ⟨g, c, h1, h2, h3, h4⟩
              · rw [h2] at hjl; simp at hjl
              · simp only [Value.slice.injEq] at h1
                exact ⟨g, h1.1, h4 j hjl⟩
            obtain ⟨m, hmm⟩ : ∃ m, m = FL[j] := ⟨_, rfl⟩
            rw [← hmm] at hc hm
            have HM := hide hmm
            clear hmm
            by_cases hcond : (fn : Int) ≤ m ∧ m + by_ < (fn : Int)
            · have hR : R = none := by rw [HR0.out, Bd_yes j hjl (by rw [← HM.out]; exact hcond)]; rfl
              have HRn := hide hR
              obtain ⟨hc1, hc2⟩ := hcond
              clear hR
              go_wp2_with fail
              exact bodyPost_ret (v := .tuple #[.slice none 0 0, .bool false]) (by simp [results, Try.results25, go_sem]) rfl (by rw [HRn.out]; exact ⟨_, rfl, World.ownsRow_nil _ _ _ _, hB3⟩)
            · have hnext : ∀ i (hi : i < FL.length), i < j + 1 → ¬ ((fn : Int) ≤ FL[i] ∧ FL[i] + by_ < (fn : Int)) := by
                intro i hi hij
                by_cases e : i = j
                · subst e; rw [← HM.out]; exact hcond
                · exact HA.out i hi (by omega)
              have HNx := hide hnext
              clear hnext
              by_cases hc1 : (fn : Int) ≤ m
              · have hc2 : ¬ m + by_ < (fn : Int) := fun h => hcond ⟨hc1, h⟩
                clear hcond
                go_wp2_with fail
                exact ⟨⟨j + 1, by omega, by go_num, trivial, HNx.out⟩, by simp [intOf]; omega⟩
              · clear hcond
                go_wp2_with fail
                exact ⟨⟨j + 1, by omega, by go_num, trivial, HNx.out⟩, by simp [intOf]; omega⟩
          · obtain rfl : j = PL := by omega
            have hR : R = some (shc by_ fn x :: (shf by_ x.k fn 0 k).flat) := by
              rw [HR0.out, Bd_all (fun i hi => HA.out i hi (by have := HPL.out; omega))]; rfl
            have HRs := hide hR
            have y0 := (cell_of_blk HX3.out 0)
            have y1 := (cell_of_blk HX3.out 1)
            have y2 := (cell_of_blk HX3.out 2)
            simp only [List.getElem?_toArray, List.getElem?_cons_zero, List.getElem?_cons_succ] at y0 y1 y2
            obtain ⟨zz, hzz⟩ : ∃ zz, zz = shc by_ fn x := ⟨_, rfl⟩
            obtain ⟨kk, hkk⟩ : ∃ kk, kk = shf by_ x.k fn 0 k := ⟨_, rfl⟩
            rw [← hzz, ← hkk] at HH HRs
            rw [← hkk] at hshl
            clear hR hzz hkk
            go_wp2_with fail
            refine Calls.mono (HH.out _ _ HK3.out) ?_
            rintro e w4 ⟨s4, rfl, hs4, hb4⟩
            obtain ⟨qad, qc, rfl⟩ := hs4.form
            have HS4 := hide hs4
            have hB4 : Below w.heap.size w w4 := hB3.trans (hb4.mono hB3.size)
            obtain ⟨QL, hQL⟩ : ∃ QL, QL = kk.len := ⟨_, rfl⟩
            rw [← hQL] at HS4 ⊢
            clear hs4 hb4 hQL y0 y1 y2
            go_wp2_with fail
            refine Calls.mono (l3Tell_any zz kk _ _ _ (by omega) HS4.out) ?_
            rintro e w5 ⟨s5, rfl, ho5, hb5⟩
            have hB5 : Below w.heap.size w w5 := hB4.trans (hb5.mono hB4.size)
            obtain ⟨rad, rc, rfl⟩ := iOwn_form ho5
            have HO5 := hide (iOwn_lower ho5 hB4.size)
            clear ho5 hb5
            obtain ⟨RN, hRN⟩ : ∃ RN, RN = (gd (zz :: kk.flat)).length := ⟨_, rfl⟩
            obtain ⟨RB, hRB⟩ : ∃ RB, RB = goodT (zz :: kk.flat) := ⟨_, rfl⟩
            have HRN := hide hRN
            have HRB := hide hRB
            rw [← hRN, ← hRB]
            clear hRN hRB
            go_wp2_with fail
            refine bodyPost_ret (v := .tuple #[.slice rad RN rc, .bool RB]) (by simp [results, Try.results25, go_sem]) rfl ?_
            rw [HRs.out]
            exact ⟨.slice rad RN rc, by show _ = Ending.returned (.tuple #[_, .bool (goodT (zz :: kk.flat))]); rw [← HRB.out], by rw [HRN.out]; exact HO5.out, hB5⟩
      · have hr : shR l by_ f = none := by rw [hr0, if_neg]; rw [Bool.not_eq_true] at hf; rw [hf]; simp
        rw [hr]
        have Hb := hide (l1In_any by_ (-50) 50)
        have Hf := hide (l1In_any f 0 99)
        rw [Bool.not_eq_true] at hf
        rw [hb] at Hb
        rw [hf] at Hf
        clear hr hr0 hb hf HTT
        go_enter Try.func25, Try.ntmps25
        go_wp2_with fail
        refine Calls.mono HC.out ?_
        rintro e w1 ⟨hb1, ho⟩
        obtain ⟨x', k', s, -, rfl, hK⟩ := ho
        obtain ⟨sad, sc, rfl⟩ := hK.form
        clear hK
        go_wp2_with fail
        refine (Hb.out _).mono ?_
        rintro e w1' ⟨rfl, hw1⟩
        obtain rfl := hw1.symm
        go_wp2_with fail
        refine (Hf.out _).mono ?_
        rintro e w1' ⟨rfl, hw1⟩
        obtain rfl := hw1.symm
        go_wp2_with fail
        exact bodyPost_ret (v := .tuple #[.slice none 0 0, .bool false]) (by simp [results, Try.results25, go_sem]) rfl ⟨_, rfl, World.ownsRow_nil _ _ _ _, hb1.alloc hb1.size _⟩
    · have hr : shR l by_ f = none := by rw [hr0, if_neg]; rw [Bool.not_eq_true] at hb; rw [hb]; simp
      rw [hr]
      have Hb := hide (l1In_any by_ (-50) 50)
      rw [Bool.not_eq_true] at hb
      rw [hb] at Hb
      clear hr hr0 hb HTT
      go_enter Try.func25, Try.ntmps25
      go_wp2_with fail
      refine Calls.mono HC.out ?_
      rintro e w1 ⟨hb1, ho⟩
      obtain ⟨x', k', s, -, rfl, hK⟩ := ho
      obtain ⟨sad, sc, rfl⟩ := hK.form
      clear hK
      go_wp2_with fail
      refine (Hb.out _).mono ?_
      rintro e w1' ⟨rfl, hw1⟩
      obtain rfl := hw1.symm
      go_wp2_with fail
      exact bodyPost_ret (v := .tuple #[.slice none 0 0, .bool false]) (by simp [results, Try.results25, go_sem]) rfl ⟨_, rfl, World.ownsRow_nil _ _ _ _, hb1.alloc hb1.size _⟩
end Go.Proofs.Ytdiccocokhnldaa.W

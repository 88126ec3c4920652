/-
  Computations run by answers: contracts of both RunComp. Conditions: at most 1048576 cells and answers.
-/
import Derived.Test.YtlicfmjkoopmnabCoC
import Derived.Test.YtlicfmjkoopmnabCoZ
import Derived.Test.YtlicfmjkoopmnabRwO
import Derived.Deep.CutRange
namespace Go.Proofs.Ytlicfmjkoopmnab.C
open Go.Proofs.Ytlicfmjkoopmnab.W
open Go.ChangeShapes Go.WideShapes Go.ChangeAt Go.RowKit
set_option linter.unusedVariables false

/-- What is told, and how many were asked. -/
def Tr.run : Tr → List Bool → Nat → Option (Int × Nat)
  | .ret n, _, k => some (n, k)
  | .ask _ _ _, [], _ => none
  | .ask _ a b, x :: xs, k => if x = true then a.run xs (k + 1) else b.run xs (k + 1)
def runV : Option (Int × Nat) → Value
  | some (n, k) => .tuple #[.int .i64 n, .int .i64 (k : Int), .bool true]
  | none => .tuple #[.int .i64 0, .int .i64 0, .bool false]
theorem Tr.run_ask {n : Int} {a b : Tr} {l : List Bool} {j : Nat} (h : j < l.length) (k : Nat) : (Tr.ask n a b).run (l.drop j) k = if l[j] = true then a.run (l.drop (j + 1)) (k + 1) else b.run (l.drop (j + 1)) (k + 1) := by
  rw [List.drop_eq_getElem_cons h]; rfl
theorem Tr.run_end {n : Int} {a b : Tr} {l : List Bool} {j : Nat} (h : l.length ≤ j) (k : Nat) : (Tr.ask n a b).run (l.drop j) k = none := by
  rw [List.drop_eq_nil_of_le h]; rfl
theorem CRowAt.first {w : World} {b o : Nat} {t : Tr} {r : List Cc} (h : CRowAt w b o (t.flat ++ r)) : CRowAt w b o t.flat := by
  refine ⟨h.1, fun i hi => ?_⟩
  have := h.2 i (by simp; omega)
  rw [List.getElem_append_left hi] at this
  exact this
theorem CRowAt.second {w : World} {b o : Nat} {t : Tr} {r : List Cc} (h : CRowAt w b o (t.flat ++ r)) : CRowAt w b (o + t.flat.length * 2) r := by
  have := h.drop t.flat.length
  simpa using this
theorem CRowAt.behind {w : World} {b o : Nat} {x : Cc} {r : List Cc} (h : CRowAt w b o (x :: r)) : CRowAt w b (o + 2) r := by
  have := h.drop 1
  simpa using this

set_option maxRecDepth 20000 in
set_option maxHeartbeats 4000000 in
theorem implRun_any (ad : Option Addr) (c : Nat) (l : List Cc) (aa : Option Addr) (ac : Nat) (an : List Bool) (w : World) (hl : l.length ≤ 1048576) (hc : l.length ≤ c) (h : CRow w ad l) (ha : an.length ≤ 60) (hA : ORow w aa an) (t : Tr) (ht : t.ok) (hlt : l = t.flat) (hg : goodT l = true) :
    Calls Try.prog 9 #[.slice ad l.length c, .slice aa an.length ac] w fun e w' => e = .returned (runV (t.run an 0)) ∧ Below w.heap.size w w' := by
  have HC := hide (implGoodT_any ad c l w hl h)
  rw [hg] at HC
  obtain ⟨b, o, rfl, hRA⟩ : ∃ b o, ad = some ⟨b, o, none⟩ ∧ CRowAt w b o l := by
    rcases h with h | h
    · rw [hlt] at h
      have h1 := congrArg List.length h
      have h2 := t.flat_pos
      rw [List.length_nil] at h1
      omega
    · exact h
  have HA := hide hA
  have HR : Hid (CRowAt w b o t.flat) := hide (by rw [← hlt]; exact hRA)
  have hc2 : t.flat.length ≤ c := by rw [← hlt]; exact hc
  have hl2 : t.flat.length ≤ 1048576 := by rw [← hlt]; exact hl
  have HTk := hide ht
  rw [hlt] at HC ⊢
  obtain ⟨V, hV⟩ : ∃ V, V = t.run an 0 := ⟨_, rfl⟩
  rw [← hV]
  have HV := hide hV
  clear h hA hV hg hRA hlt hl hc ht
  have ha' : ¬ (60 : Int) < (an.length : Int) := by omega
  go_enter Try.func9, Try.ntmps9
  go_wp2_with fail
  refine Calls.mono HC.out ?_
  rintro e w1 ⟨rfl, hb1⟩
  clear HC
  go_wp2_with fail
  go_loopw [0, 7] (fun v i w' => ∃ (t' : Tr) (q c' j : Nat), j ≤ an.length ∧ i = .int .i64 j ∧ v = .slice (some ⟨b, q, none⟩) t'.flat.length c' ∧ t'.flat.length ≤ c' ∧ t'.flat.length ≤ 1048576 ∧ t'.ok ∧ CRowAt w b q t'.flat ∧ V = t'.run (an.drop j) j ∧ Below w.heap.size w w') (fun _ i _ => an.length - (intOf i).toNat)
  case atStart => exact ⟨t, o, c, 0, by omega, rfl, rfl, hc2, hl2, HTk.out, HR.out, by rw [HV.out]; rfl, hb1⟩
  case round =>
    obtain ⟨t', q, c', j, hj, rfl, rfl, hc', hl', hok, hR', hV', hB⟩ := hrel
    have HR' := hide hR'
    have HV' := hide hV'
    clear hR' hV'
    cases t' with
    | ret n =>
      have hc0 := HR'.out.2 0 (by simp [Tr.flat])
      have hbl := HR'.out.1
      have p0 : wr.cell? ⟨b, q, none⟩ = some (.int .i64 1) := (hB.cell (p := ⟨b, q, none⟩) hbl).trans (by simpa [Tr.flat] using hc0.1)
      have p1 : wr.cell? ⟨b, q + 1, none⟩ = some (.int .i64 n) := (hB.cell (p := ⟨b, q + 1, none⟩) hbl).trans (by simpa [Tr.flat] using hc0.2)
      have HE : Hid (V = some (n, j)) := hide HV'.out
      clear hc0 HV' hok
      simp only [Tr.flat, List.length_singleton] at hc' hl' ⊢
      go_wp2_with fail
      exact bodyPost_ret (v := .tuple #[.int .i64 n, .int .i64 (j : Int), .bool true]) (by simp [results, Try.results9, go_sem]) rfl ⟨by rw [HE.out]; rfl, hB⟩
    | ask n ta tb =>
      obtain ⟨-, hoa, hob⟩ := hok
      have hc0 := HR'.out.2 0 (by simp [Tr.flat])
      have hbl := HR'.out.1
      have p0 : wr.cell? ⟨b, q, none⟩ = some (.int .i64 2) := (hB.cell (p := ⟨b, q, none⟩) hbl).trans (by simpa [Tr.flat] using hc0.1)
      clear hc0
      have hpa := ta.flat_pos
      have hpb := tb.flat_pos
      have hfl : (Tr.ask n ta tb).flat.length = ta.flat.length + tb.flat.length + 1 := by simp [Tr.flat]
      have HRa : Hid (CRowAt w b (q + 2) (ta.flat ++ tb.flat)) := hide (CRowAt.behind HR'.out)
      obtain ⟨TL, hTL⟩ : ∃ TL, TL = (Tr.ask n ta tb).flat.length := ⟨_, rfl⟩
      rw [← hTL] at hc' hl' hfl ⊢
      have HTL := hide hTL
      clear hTL
      have hT0 : (0 : Int) < (TL : Int) := by omega
      have hT1 : (1 : Int) ≤ (TL : Int) := by omega
      have hTc : (TL : Int) ≤ (c' : Int) := by omega
      have hT2 : TL - 1 = (ta.flat ++ tb.flat).length := by simp; omega
      have hcn : ¬ c' = 1 := by omega
      by_cases hja : j < an.length
      · have hja' : (j : Int) < (an.length : Int) := by omega
        have hjn : ¬ (j : Int) = (an.length : Int) := by omega
        have hjb : ((j : Int) == (an.length : Int)) = false := by simp; omega
        obtain ⟨ab, ao, rfl, hab, a0⟩ := ORow.oat HA.out hB hja
        have HS := hide (Tr.run_ask (n := n) (a := ta) (b := tb) hja j)
        obtain ⟨x, hx⟩ : ∃ x, x = an[j] := ⟨_, rfl⟩
        rw [← hx] at a0 HS
        clear hx
        have HCut := hide (fun (w' : World) (hb : Below w.heap.size w w') => cutComp_any b (q + 2) (c' - 1) (ta.flat ++ tb.flat) ta.flat.length w' (by rw [← hT2]; omega) (by rw [← hT2]; omega) (Tr.sz ta hoa _) (by simp) (HRa.out.below hb))
        rw [← hT2] at HCut
        obtain ⟨LA, hLA⟩ : ∃ LA, LA = ta.flat.length := ⟨_, rfl⟩
        rw [← hLA] at HCut hpa hfl
        have HLA := hide hLA
        have HFL := hide hfl
        clear hLA hT2 hfl
        go_wp2_with fail
        refine Calls.mono (HCut.out _ hB) ?_
        rintro e w2 ⟨q2, rfl, hq2, hb2⟩
        have hB2 : Below w.heap.size w w2 := hB.trans (hb2.mono hB.size)
        have a0' := (hb2.cell (p := ⟨ab, ao + j, none⟩) (show ab < wr.heap.size by have := hB.size; omega)).trans a0
        have HQ2 : Hid (q2 = q + 2 + LA * 2) := hide (hq2 (by have := HFL.out; omega))
        clear hb2 p0 a0 hq2 HCut
        cases x with
        | true =>
          rw [if_pos rfl] at HS
          go_wp2_with fail
          have hfl := HFL.out
          refine ⟨⟨ta, q + 2, c' - 1, j + 1, by omega, by go_num, by rw [← HLA.out], by rw [← HLA.out]; omega, by rw [← HLA.out]; omega, hoa, CRowAt.first HRa.out, HV'.out.trans HS.out, hB2⟩, by simp [intOf]; omega⟩
        | false =>
          rw [if_neg (by simp)] at HS
          go_wp2_with fail
          have hfl := HFL.out
          refine ⟨⟨tb, q2, c' - 1 - LA, j + 1, by omega, by go_num, ?_, by omega, by omega, hob, ?_, HV'.out.trans HS.out, hB2⟩, by simp [intOf]; omega⟩
          · rw [show TL - 1 - LA = tb.flat.length by omega]
          · rw [HQ2.out, HLA.out]; exact CRowAt.second HRa.out
      · have hje : j = an.length := by omega
        subst hje
        have HE : Hid (V = none) := hide (HV'.out.trans (Tr.run_end (Nat.le_refl _) _))
        clear HV' hfl hT2
        go_wp2_with fail
        exact bodyPost_ret (v := .tuple #[.int .i64 0, .int .i64 0, .bool false]) (by simp [results, Try.results9, go_sem]) rfl ⟨by rw [HE.out]; rfl, hB⟩

theorem CV.kids {w : World} {P : Nat → Prop} {n : Int} {a b : Tr} {v : Value} (h : CV w P (.ask n a b) v) : ∃ (g cap : Nat) (ba : Bool) (na : Int) (aad : Option Addr) (al ac : Nat) (bb : Bool) (nb : Int) (bad : Option Addr) (bl bc : Nat), v = .agg #[.bool true, .int .i64 n, .slice (some ⟨g, 0, none⟩) 2 cap] ∧ P g ∧ g < w.heap.size ∧
      w.cell? ⟨g, 0, none⟩ = some (.bool ba) ∧ w.cell? ⟨g, 1, none⟩ = some (.int .i64 na) ∧ w.cell? ⟨g, 2, none⟩ = some (.slice aad al ac) ∧
      w.cell? ⟨g, 3, none⟩ = some (.bool bb) ∧ w.cell? ⟨g, 4, none⟩ = some (.int .i64 nb) ∧ w.cell? ⟨g, 5, none⟩ = some (.slice bad bl bc) ∧
      CV w P a (.agg #[.bool ba, .int .i64 na, .slice aad al ac]) ∧ CV w P b (.agg #[.bool bb, .int .i64 nb, .slice bad bl bc]) := by
  obtain ⟨g, cap, ba, na, sa, bb, nb, sb, rfl, hP, hg, c0, c1, c2, c3, c4, c5, h1, h2⟩ := h
  obtain ⟨aad, al, ac, ea⟩ : ∃ aad al ac, sa = .slice aad al ac := by obtain ⟨_, _, ad, l, c, e⟩ := h1.form; simp at e; exact ⟨_, _, _, e.2.2⟩
  obtain ⟨bad, bl, bc, eb⟩ : ∃ bad bl bc, sb = .slice bad bl bc := by obtain ⟨_, _, ad, l, c, e⟩ := h2.form; simp at e; exact ⟨_, _, _, e.2.2⟩
  subst ea eb
  exact ⟨g, cap, ba, na, aad, al, ac, bb, nb, bad, bl, bc, rfl, hP, hg, c0, c1, c2, c3, c4, c5, h1, h2⟩

set_option maxRecDepth 20000 in
set_option maxHeartbeats 4000000 in
theorem specRun_any (ad : Option Addr) (c : Nat) (l : List Cc) (aa : Option Addr) (ac : Nat) (an : List Bool) (w : World) (hl : l.length ≤ 1048576) (h : CRow w ad l) (ha : an.length ≤ 60) (hA : ORow w aa an) (t : Tr) (htr : treeT l = some (.cons t.x t.k .nil)) :
    Calls Try.prog 6 #[.slice ad l.length c, .slice aa an.length ac] w fun e w' => e = .returned (runV (t.run an 0)) ∧ Below w.heap.size w w' := by
  have HC := hide (l9Tree_tr ad c l w hl h t htr)
  have HA := hide hA
  obtain ⟨V, hV⟩ : ∃ V, V = t.run an 0 := ⟨_, rfl⟩
  rw [← hV]
  have HV := hide hV
  clear h hA hV hl htr
  have ha' : ¬ (60 : Int) < (an.length : Int) := by omega
  go_enter Try.func6, Try.ntmps6
  go_wp2_with fail
  refine Calls.mono HC.out ?_
  rintro e w1 ⟨hb1, v, rfl, hT⟩
  obtain ⟨b0, n0, ad0, l0, c0, rfl⟩ := hT.form
  have HB1 := hide (hb1.alloc hb1.size (.cells #[.bool b0, .int .i64 n0, .slice ad0 l0 c0] 48))
  have HX1 : Hid ((w1.alloc (.cells #[.bool b0, .int .i64 n0, .slice ad0 l0 c0] 48)).heap[w1.heap.size]? = some (.cells #[.bool b0, .int .i64 n0, .slice ad0 l0 c0] 48 (0, 0))) := hide (heap_alloc_new _ _)
  have HT1 : Hid (CV (w1.alloc (.cells #[.bool b0, .int .i64 n0, .slice ad0 l0 c0] 48)) (fun g => w.heap.size ≤ g ∧ g ≠ w1.heap.size) t (.agg #[.bool b0, .int .i64 n0, .slice ad0 l0 c0])) := hide (hT.keep (by simp) (fun k h1 h2 => ⟨heap_alloc_old _ _ h2, h1, by omega⟩))
  have hw1 := hb1.size
  obtain ⟨W, hW⟩ : ∃ W, W = w1.alloc (.cells #[.bool b0, .int .i64 n0, .slice ad0 l0 c0] 48) := ⟨_, rfl⟩
  obtain ⟨XB, hXB⟩ : ∃ XB, XB = w1.heap.size := ⟨_, rfl⟩
  rw [← hW] at HB1 HX1 HT1
  rw [← hXB] at HX1 HT1 hw1
  have HW := hide hW
  have HXB := hide hXB
  clear HC hT hb1 hW hXB
  go_upto_region 5 with fail
  rw [← HW.out, ← HXB.out]
  clear HW HXB
  go_loopw [9] (fun i w' => ∃ (t' : Tr) (b' : Bool) (n' : Int) (ad' : Option Addr) (l' c' j : Nat), j ≤ an.length ∧ i = .int .i64 j ∧ w'.heap[XB]? = some (.cells #[.bool b', .int .i64 n', .slice ad' l' c'] 48 (0, 0)) ∧ CV w' (fun g => w.heap.size ≤ g ∧ g ≠ XB) t' (.agg #[.bool b', .int .i64 n', .slice ad' l' c']) ∧ V = t'.run (an.drop j) j ∧ Below w.heap.size w w') (fun i _ => an.length - (intOf i).toNat)
  case atStart => exact ⟨t, b0, n0, ad0, l0, c0, 0, by omega, rfl, HX1.out, HT1.out, by rw [HV.out]; rfl, HB1.out⟩
  case round =>
    obtain ⟨t', b', n', ad', l', c', j, hj, rfl, hX, hT', hV', hB⟩ := hrel
    have HX := hide hX
    have HT' := hide hT'
    have HV' := hide hV'
    have x0 := (cell_of_blk hX 0).trans rfl
    have x1 := (cell_of_blk hX 1).trans rfl
    have x2 := (cell_of_blk hX 2).trans rfl
    have xf := unfrozen_of_blk hX
    clear hX hV' HX1 HT1
    cases t' with
    | ret n =>
      have he : Value.agg #[.bool b', .int .i64 n', .slice ad' l' c'] = .agg #[.bool false, .int .i64 n, .slice none 0 0] := hT'
      simp only [Value.agg.injEq, Array.mk.injEq, List.cons.injEq, Value.bool.injEq, Value.int.injEq, Value.slice.injEq, and_true, true_and] at he
      obtain ⟨rfl, rfl, rfl, rfl, rfl⟩ := he
      have HE : Hid (V = some (n', j)) := hide HV'.out
      clear HV' hT'
      go_wp2_with fail
      exact bodyPost_ret (v := .tuple #[.int .i64 n', .int .i64 (j : Int), .bool true]) (by simp [results, Try.results6, go_sem]) rfl ⟨by rw [HE.out]; rfl, hB⟩
    | ask n ta tb =>
      obtain ⟨g, cap, ba, na, aad, al, ac2, bb, nb, bad, bl, bc, he, hP, hg, d0, d1, d2, d3, d4, d5, h1, h2⟩ := hT'.kids
      simp only [Value.agg.injEq, Array.mk.injEq, List.cons.injEq, Value.bool.injEq, Value.int.injEq, Value.slice.injEq, and_true, true_and] at he
      obtain ⟨rfl, rfl, rfl, rfl, rfl⟩ := he
      have H1 := hide h1
      have H2 := hide h2
      have hgX : ¬ g = XB := hP.2
      have hgX' : ¬ XB = g := fun e => hgX e.symm
      clear hT' h1 h2
      by_cases hja : j < an.length
      · have hja' : (j : Int) < (an.length : Int) := by omega
        have hjb : ((j : Int) == (an.length : Int)) = false := by simp; omega
        obtain ⟨ab, ao, rfl, hab, a0⟩ := ORow.oat HA.out hB hja
        have HS := hide (Tr.run_ask (n := n') (a := ta) (b := tb) hja j)
        obtain ⟨x, hx⟩ : ∃ x, x = an[j] := ⟨_, rfl⟩
        rw [← hx] at a0 HS
        clear hx
        have hwX : w.heap.size ≤ XB := hw1
        cases x with
        | true =>
          rw [if_pos rfl] at HS
          go_wp2_with fail
          refine ⟨⟨ta, ba, na, aad, al, ac2, j + 1, by omega, by go_num, set3_at HX.out _ _ _, ?_, HV'.out.trans HS.out, below_set3 hB hwX _ _ _⟩, by simp [intOf]; omega⟩
          exact H1.out.keep (by rw [set3_size]; exact Nat.le_refl _) (fun k h1 h2 => ⟨set3_ne _ _ _ _ _ h1.2, h1⟩)
        | false =>
          rw [if_neg (by simp)] at HS
          go_wp2_with fail
          refine ⟨⟨tb, bb, nb, bad, bl, bc, j + 1, by omega, by go_num, set3_at HX.out _ _ _, ?_, HV'.out.trans HS.out, below_set3 hB hwX _ _ _⟩, by simp [intOf]; omega⟩
          exact H2.out.keep (by rw [set3_size]; exact Nat.le_refl _) (fun k h1 h2 => ⟨set3_ne _ _ _ _ _ h1.2, h1⟩)
      · have hje : j = an.length := by omega
        subst hje
        have HE : Hid (V = none) := hide (HV'.out.trans (Tr.run_end (Nat.le_refl _) _))
        clear HV'
        go_wp2_with fail
        exact bodyPost_ret (v := .tuple #[.int .i64 0, .int .i64 0, .bool false]) (by simp [results, Try.results6, go_sem]) rfl ⟨by rw [HE.out]; rfl, hB⟩
end Go.Proofs.Ytlicfmjkoopmnab.C

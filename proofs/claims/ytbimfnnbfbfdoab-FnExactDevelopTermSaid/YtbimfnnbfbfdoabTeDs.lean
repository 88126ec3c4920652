/-
  A term developed by the specification: a contract of l4Develop. Conditions: good terms.
-/
import Derived.Test.YtbimfnnbfbfdoabTeDi
import Derived.Test.YtbimfnnbfbfdoabTeKw
import Derived.Maps.AppendAt
namespace Go.Proofs.Ytbimfnnbfbfdoab.W
open Go.ChangeShapes Go.WideShapes Go.ChangeAt Go.RowKit
set_option linter.unusedVariables false

def DVGoal (k : F) : Prop := ∀ (x : Cc) (s : Value) (P : Nat → Prop) (w : World), okT x k → k.flat.length + 1 ≤ 600 → KidT w P k s →
    Calls Try.prog 27 #[.agg #[.int .i64 x.k, .int .i64 x.n, s]] w fun e w' => TO w' (fun g => w.heap.size ≤ g) (dv x k) e ∧ Below w.heap.size w w'

set_option maxRecDepth 20000 in
set_option maxHeartbeats 8000000 in
theorem l4Develop_any : ∀ k, DVGoal k := by
  apply F.rec_kids
  intro k ih x s P w hok hl hT0
  have IH := hide ih
  have HOk := hide hok
  have HT := hide hT0
  have hkl3 : k.len ≤ 3 := by rw [hok.2.1]; exact ar_le _
  have HIs := hide (fun (w' : World) (hb : Below w.heap.size w w') => l4Is_any x k s _ w' hok.2.1 hok.2.2 (HT.out.below hb))
  obtain ⟨i0, hi0, hz0, hz1, hz2⟩ := infoPartsT infoT
  have Hi := hide hi0
  clear hi0
  obtain ⟨sad, sc, rfl⟩ := hT0.form
  obtain ⟨KL, hKL⟩ : ∃ KL, KL = k.len := ⟨_, rfl⟩
  obtain ⟨R, hR⟩ : ∃ R, R = dv x k := ⟨_, rfl⟩
  rw [← hR]
  rw [← hKL] at HT HIs hkl3 ⊢
  have HKL := hide hKL
  obtain ⟨xk, xn⟩ := x
  have HR := hide hR
  simp only at HIs ⊢
  clear ih hok hT0 hR hKL
  go_enter Try.func27, Try.ntmps27
  go_wp2_with fail
  obtain ⟨w0, hw0⟩ : ∃ w0, w0 = (((w.alloc (.cells #[.int .i64 xk, .int .i64 xn, .slice sad KL sc] 40)).alloc (.cells #[.int .i64 0, .int .i64 0, .slice none 0 0] 40)).alloc (.cells #[.int .i64 xk, .int .i64 xn, .slice none 0 0] 40)) := ⟨_, rfl⟩
  have hB0 : Below w.heap.size w w0 := by rw [hw0]; exact (((Below.refl _ _).alloc (Nat.le_refl _) _).alloc (by simp) _).alloc (by simp; omega) _
  have hbT : w0.heap[w.heap.size]? = some (.cells #[.int .i64 xk, .int .i64 xn, .slice sad KL sc] 40) := by rw [hw0, heap_alloc_old _ _ (by simp; omega), heap_alloc_old _ _ (by simp)]; exact heap_alloc_new _ _
  have hbR : w0.heap[w.heap.size + 1]? = some (.cells #[.int .i64 0, .int .i64 0, .slice none 0 0] 40) := by rw [hw0, heap_alloc_old _ _ (by simp)]; have := heap_alloc_new (w.alloc (.cells #[.int .i64 xk, .int .i64 xn, .slice sad KL sc] 40)) (.cells #[.int .i64 0, .int .i64 0, .slice none 0 0] 40); simpa using this
  have hbO : w0.heap[w.heap.size + 1 + 1]? = some (.cells #[.int .i64 xk, .int .i64 xn, .slice none 0 0] 40) := by rw [hw0]; have := heap_alloc_new ((w.alloc (.cells #[.int .i64 xk, .int .i64 xn, .slice sad KL sc] 40)).alloc (.cells #[.int .i64 0, .int .i64 0, .slice none 0 0] 40)) (.cells #[.int .i64 xk, .int .i64 xn, .slice none 0 0] 40); simpa using this
  have hsz0 : w0.heap.size = w.heap.size + 1 + 1 + 1 := by rw [hw0]; simp
  rw [← hw0]
  have HT0 := hide hbT
  have HR0 := hide hbR
  have HO0 := hide hbO
  have HSz0 := hide hsz0
  clear hw0 hbT hbR hbO hsz0
  go_loopw [17] (fun i w' => ∃ (a b a' : F) (so : Value) (cs : List Value), k = a.app b ∧ i = .int .i64 (a.len : Int) ∧ dvF a = some a' ∧ a'.flat.length ≤ 600 * a.len ∧ Below w.heap.size w w' ∧ w0.heap.size ≤ w'.heap.size ∧ w'.heap[w.heap.size]? = some (.cells #[.int .i64 xk, .int .i64 xn, .slice sad KL sc] 40 (0, 0)) ∧ w'.heap[w.heap.size + 1]? = some (.cells #[.int .i64 0, .int .i64 0, .slice none 0 0] 40 (0, 0)) ∧ w'.heap[w.heap.size + 1 + 1]? = some (.cells #[.int .i64 xk, .int .i64 xn, so] 40 (0, 0)) ∧
      KidsAt w' (fun g => w0.heap.size ≤ g ∧ so.ownBlock ≠ some g) a' cs ∧ w'.ownsRow w0.heap.size 40 3 so a.len cs ∧ Holds w' (fun g => w0.heap.size ≤ g) so a.len cs) (fun i _ => KL - (intOf i).toNat)
  case atStart => exact ⟨.nil, k, .nil, _, [], rfl, rfl, rfl, by simp [F.flat], hB0, Nat.le_refl _, HT0.out, HR0.out, HO0.out, rfl, World.ownsRow_nil _ _ _ _, .inl ⟨rfl, rfl⟩⟩
  case round =>
    obtain ⟨a, bb, a', so, cs, hk, rfl, hda, ha4, hBr, hszr, hbT, hbR, hbO, hKs, hOw, hHo⟩ := hrel
    clear HT0 HR0 HO0 hB0
    have HDa := hide hda
    have HT1 := hide hbT
    have HR1 := hide hbR
    have HO1 := hide hbO
    have HKs := hide hKs
    have HOw := hide hOw
    have HHo := hide hHo
    obtain ⟨oad, oc, hform⟩ := iOwn_form hOw
    subst hform
    clear hda hbT hbR hbO hKs hOw hHo
    cases bb with
    | nil =>
      rw [F.app_nil] at hk
      subst hk
      have hKL := HKL.out
      rw [← hKL]
      rw [← hKL] at HO1 HHo HOw ha4
      have hsz0 := HSz0.out
      have hdv : R = if a'.flat.length + 1 ≤ 600 then (if redx ⟨xk, xn⟩ k = true then ctrO ⟨xk, xn⟩ a' else some (⟨xk, xn⟩, a')) else none := by rw [HR.out]; unfold dv; rw [HDa.out]
      have HDv := hide hdv
      have hkt : KidT wr (fun g => w0.heap.size ≤ g) a' (.slice oad KL oc) := ⟨cs, HKs.out.keep (Nat.le_refl _) (fun g h1 _ => ⟨rfl, h1.1⟩), by rw [dvF_len HDa.out, ← hKL]; exact HHo.out⟩
      have HKt := hide hkt
      have HSi := hide (fun (w' : World) (hb : Below wr.heap.size wr w') => l3Size_any a' ⟨xk, xn⟩ (.slice oad KL oc) _ w' (by omega) (hkt.below hb))
      have HWk := hide (fun hrd => dv_red HOk.out hrd HDa.out (dvF_B HOk.out.2.2 (by omega) HDa.out))
      have y0 : wr.cell? ⟨w.heap.size + 1 + 1, 0, none⟩ = some (.int .i64 xk) := (cell_of_blk HO1.out 0).trans rfl
      have y1 : wr.cell? ⟨w.heap.size + 1 + 1, 1, none⟩ = some (.int .i64 xn) := (cell_of_blk HO1.out 1).trans rfl
      have y2 : wr.cell? ⟨w.heap.size + 1 + 1, 2, none⟩ = some (.slice oad KL oc) := (cell_of_blk HO1.out 2).trans rfl
      obtain ⟨AN, hAN⟩ : ∃ AN, AN = a'.flat.length := ⟨_, rfl⟩
      rw [← hAN] at HDv HSi ha4
      have HAN := hide hAN
      clear hKL hdv hkt hAN
      go_wp2_with fail
      refine Calls.mono (HSi.out _ (Below.refl _ _)) ?_
      rintro e w2 ⟨rfl, hb2⟩
      have hB2 : Below w.heap.size w w2 := hBr.trans (hb2.mono hBr.size)
      have hs2 := hb2.size
      have HO2 := hide ((hb2.block (w.heap.size + 1 + 1) (by omega)).trans HO1.out)
      have HR2 := hide ((hb2.block (w.heap.size + 1) (by omega)).trans HR1.out)
      have HT2 := hide ((hb2.block w.heap.size (by omega)).trans HT1.out)
      have HKt2 := hide (HKt.out.below hb2)
      clear y0 y1 y2 HSi hb2 HKt
      by_cases h6 : AN + 1 ≤ 600
      · have h6' : ¬ (600 : Int) < ((AN + 1 : Nat) : Int) := by omega
        have t0 : w2.cell? ⟨w.heap.size, 0, none⟩ = some (.int .i64 xk) := (cell_of_blk HT2.out 0).trans rfl
        have t1 : w2.cell? ⟨w.heap.size, 1, none⟩ = some (.int .i64 xn) := (cell_of_blk HT2.out 1).trans rfl
        have t2 : w2.cell? ⟨w.heap.size, 2, none⟩ = some (.slice sad KL sc) := (cell_of_blk HT2.out 2).trans rfl
        go_wp2_with fail
        refine Calls.mono (HIs.out _ hB2) ?_
        rintro e w3 ⟨rfl, hb3⟩
        have hB3 : Below w.heap.size w w3 := hB2.trans (hb3.mono hB2.size)
        have hs3 := hb3.size
        have HO3 := hide ((hb3.block (w.heap.size + 1 + 1) (by omega)).trans HO2.out)
        have HR3 := hide ((hb3.block (w.heap.size + 1) (by omega)).trans HR2.out)
        have HKt3 := hide (HKt2.out.below hb3)
        have y0 : w3.cell? ⟨w.heap.size + 1 + 1, 0, none⟩ = some (.int .i64 xk) := (cell_of_blk HO3.out 0).trans rfl
        have y1 : w3.cell? ⟨w.heap.size + 1 + 1, 1, none⟩ = some (.int .i64 xn) := (cell_of_blk HO3.out 1).trans rfl
        have y2 : w3.cell? ⟨w.heap.size + 1 + 1, 2, none⟩ = some (.slice oad KL oc) := (cell_of_blk HO3.out 2).trans rfl
        clear t0 t1 t2 HIs hb3 HKt2 HO2 HR2 HT2
        cases hrd : redx ⟨xk, xn⟩ k with
        | false =>
          have hRe : R = some (⟨xk, xn⟩, a') := by rw [HDv.out, if_pos h6, if_neg (by rw [hrd]; simp)]
          subst hRe
          have a0 : w3.cell? ⟨w.heap.size + 1, 0, none⟩ = some (.int .i64 0) := (cell_of_blk HR3.out 0).trans rfl
          have a1 : w3.cell? ⟨w.heap.size + 1, 1, none⟩ = some (.int .i64 0) := (cell_of_blk HR3.out 1).trans rfl
          have a2 : w3.cell? ⟨w.heap.size + 1, 2, none⟩ = some (.slice none 0 0) := (cell_of_blk HR3.out 2).trans rfl
          have fa := unfrozen_of_blk HR3.out
          clear hrd
          go_wp2_with fail
          have hr9 := blk_setCell (i := 2) (blk_setCell (i := 1) (blk_setCell (i := 0) (HR3.out) (.int .i64 xk)) (.int .i64 xn)) (.slice oad KL oc)
          have b0 := (cell_of_blk hr9 0).trans rfl
          have b1 := (cell_of_blk hr9 1).trans rfl
          have b2 := (cell_of_blk hr9 2).trans rfl
          have hB9 := ((hB3.setCell (p := ⟨w.heap.size + 1, 0, none⟩) (by show w.heap.size ≤ w.heap.size + 1; omega) (.int .i64 xk)).setCell (p := ⟨w.heap.size + 1, 1, none⟩) (by show w.heap.size ≤ w.heap.size + 1; omega) (.int .i64 xn)).setCell (p := ⟨w.heap.size + 1, 2, none⟩) (by show w.heap.size ≤ w.heap.size + 1; omega) (.slice oad KL oc)
          refine bodyPost_ret (v := .tuple #[.agg #[.int .i64 xk, .int .i64 xn, .slice oad KL oc], .bool true]) (by simp [results, Try.results27, go_sem, b0, b1, b2]) rfl ⟨⟨_, rfl, HKt3.out.keep (by simp [World.setCell]) (fun q h1 h2 => ?_)⟩, hB9⟩
          have hq : q ≠ w.heap.size + 1 := by have h1' : w0.heap.size ≤ q := h1; omega
          exact ⟨by rw [Below.heap_setCell _ _ _ _ hq, Below.heap_setCell _ _ _ _ hq, Below.heap_setCell _ _ _ _ hq], by have h1' : w0.heap.size ≤ q := h1; omega⟩
        | true =>
          have hRe : R = ctrO ⟨xk, xn⟩ a' := by rw [HDv.out, if_pos h6, if_pos hrd]
          have HCt := hide (l4Contract_w (B := 99 + 600 * k.flat.length) (by omega) ⟨xk, xn⟩ a' (.slice oad KL oc) _ w3 (HWk.out hrd) (by rw [← HAN.out]; exact h6) HKt3.out)
          rw [← hRe] at HCt
          simp only at HCt
          clear hRe hrd
          go_wp2_with fail
          refine Calls.mono HCt.out ?_
          rintro e w4 ⟨hto, hb4⟩
          have hB4 : Below w.heap.size w w4 := hB3.trans (hb4.mono hB3.size)
          have hs4 := hb4.size
          have HR4 := hide ((hb4.block (w.heap.size + 1) (by omega)).trans HR3.out)
          have a0 : w4.cell? ⟨w.heap.size + 1, 0, none⟩ = some (.int .i64 0) := (cell_of_blk HR4.out 0).trans rfl
          have a1 : w4.cell? ⟨w.heap.size + 1, 1, none⟩ = some (.int .i64 0) := (cell_of_blk HR4.out 1).trans rfl
          have a2 : w4.cell? ⟨w.heap.size + 1, 2, none⟩ = some (.slice none 0 0) := (cell_of_blk HR4.out 2).trans rfl
          have fa := unfrozen_of_blk HR4.out
          clear y0 y1 y2 HCt hb4 HDv HR
          cases R with
          | none =>
            obtain rfl : e = .returned (.tuple #[.agg #[.int .i64 0, .int .i64 0, .slice none 0 0], .bool false]) := hto
            go_wp2_with fail
            have hr9 := blk_setCell (i := 2) (blk_setCell (i := 1) (blk_setCell (i := 0) (HR4.out) (.int .i64 0)) (.int .i64 0)) (.slice none 0 0)
            have b0 := (cell_of_blk hr9 0).trans rfl
            have b1 := (cell_of_blk hr9 1).trans rfl
            have b2 := (cell_of_blk hr9 2).trans rfl
            have hB9 := ((hB4.setCell (p := ⟨w.heap.size + 1, 0, none⟩) (by show w.heap.size ≤ w.heap.size + 1; omega) (.int .i64 0)).setCell (p := ⟨w.heap.size + 1, 1, none⟩) (by show w.heap.size ≤ w.heap.size + 1; omega) (.int .i64 0)).setCell (p := ⟨w.heap.size + 1, 2, none⟩) (by show w.heap.size ≤ w.heap.size + 1; omega) (.slice none 0 0)
            exact bodyPost_ret (v := .tuple #[.agg #[.int .i64 0, .int .i64 0, .slice none 0 0], .bool false]) (by simp [results, Try.results27, go_sem, b0, b1, b2]) rfl ⟨rfl, hB9⟩
          | some p =>
            obtain ⟨s4, rfl, hK4⟩ : ∃ s', e = .returned (.tuple #[.agg #[.int .i64 p.1.k, .int .i64 p.1.n, s'], .bool true]) ∧ KidT w4 _ p.2 s' := hto
            obtain ⟨pad, pc, hpf⟩ := hK4.form
            subst hpf
            obtain ⟨PN, hPN⟩ : ∃ PN, PN = p.2.len := ⟨_, rfl⟩
            have HK4 := hide hK4
            rw [← hPN] at HK4 ⊢
            clear hK4 hPN
            go_wp2_with fail
            have hr9 := blk_setCell (i := 2) (blk_setCell (i := 1) (blk_setCell (i := 0) (HR4.out) (.int .i64 p.1.k)) (.int .i64 p.1.n)) (.slice pad PN pc)
            have b0 := (cell_of_blk hr9 0).trans rfl
            have b1 := (cell_of_blk hr9 1).trans rfl
            have b2 := (cell_of_blk hr9 2).trans rfl
            have hB9 := ((hB4.setCell (p := ⟨w.heap.size + 1, 0, none⟩) (by show w.heap.size ≤ w.heap.size + 1; omega) (.int .i64 p.1.k)).setCell (p := ⟨w.heap.size + 1, 1, none⟩) (by show w.heap.size ≤ w.heap.size + 1; omega) (.int .i64 p.1.n)).setCell (p := ⟨w.heap.size + 1, 2, none⟩) (by show w.heap.size ≤ w.heap.size + 1; omega) (.slice pad PN pc)
            refine bodyPost_ret (v := .tuple #[.agg #[.int .i64 p.1.k, .int .i64 p.1.n, .slice pad PN pc], .bool true]) (by simp [results, Try.results27, go_sem, b0, b1, b2]) rfl ⟨⟨_, rfl, HK4.out.keep (by simp [World.setCell]) (fun q h1 h2 => ?_)⟩, hB9⟩
            have h1' : w0.heap.size ≤ q := h1.elim (fun h => h) (fun h => by omega)
            have hq : q ≠ w.heap.size + 1 := by omega
            exact ⟨by rw [Below.heap_setCell _ _ _ _ hq, Below.heap_setCell _ _ _ _ hq, Below.heap_setCell _ _ _ _ hq], by omega⟩
      · have h6' : (600 : Int) < ((AN + 1 : Nat) : Int) := by omega
        have hRe : R = none := by rw [HDv.out, if_neg h6]
        subst hRe
        have a0 : w2.cell? ⟨w.heap.size + 1, 0, none⟩ = some (.int .i64 0) := (cell_of_blk HR2.out 0).trans rfl
        have a1 : w2.cell? ⟨w.heap.size + 1, 1, none⟩ = some (.int .i64 0) := (cell_of_blk HR2.out 1).trans rfl
        have a2 : w2.cell? ⟨w.heap.size + 1, 2, none⟩ = some (.slice none 0 0) := (cell_of_blk HR2.out 2).trans rfl
        have fa := unfrozen_of_blk HR2.out
        go_wp2_with fail
        have hr9 := blk_setCell (i := 2) (blk_setCell (i := 1) (blk_setCell (i := 0) (HR2.out) (.int .i64 0)) (.int .i64 0)) (.slice none 0 0)
        have b0 := (cell_of_blk hr9 0).trans rfl
        have b1 := (cell_of_blk hr9 1).trans rfl
        have b2 := (cell_of_blk hr9 2).trans rfl
        have hB9 := ((hB2.setCell (p := ⟨w.heap.size + 1, 0, none⟩) (by show w.heap.size ≤ w.heap.size + 1; omega) (.int .i64 0)).setCell (p := ⟨w.heap.size + 1, 1, none⟩) (by show w.heap.size ≤ w.heap.size + 1; omega) (.int .i64 0)).setCell (p := ⟨w.heap.size + 1, 2, none⟩) (by show w.heap.size ≤ w.heap.size + 1; omega) (.slice none 0 0)
        exact bodyPost_ret (v := .tuple #[.agg #[.int .i64 0, .int .i64 0, .slice none 0 0], .bool false]) (by simp [results, Try.results27, go_sem, b0, b1, b2]) rfl ⟨rfl, hB9⟩
    | cons y ky bb =>
      have hsz0 := HSz0.out
      have hkl2 : KL = a.len + (bb.len + 1) := by rw [HKL.out, hk, F.app_len]; rfl
      have hlt' : (a.len : Int) < (KL : Int) := by omega
      have hd0 : (0 : Int) ≤ (a.len : Int) := by omega
      have hfk : k.flat.length = a.flat.length + (1 + ky.flat.length + bb.flat.length) := by rw [hk, F.app_flat]; simp [F.flat]; omega
      have hI := IH.out
      have hO := HOk.out.2.2
      rw [hk] at hI hO
      obtain ⟨gy, ly, oy, orr⟩ := ((F.app_ok _ _).1 hO).2
      obtain ⟨g, cap, sy, he, hPg, hg, hTy, p0, p1, p2⟩ := KidT.kid (a := a) (k := ky) (r := bb) (x := y) (s := .slice sad KL sc) (by rw [← hk]; exact HT.out)
      simp only [Value.slice.injEq] at he
      obtain ⟨rfl, -, rfl⟩ := he
      have q0 := (hBr.cell (p := ⟨g, a.len * 3, none⟩) hg).trans p0
      have q1 := (hBr.cell (p := ⟨g, a.len * 3 + 1, none⟩) hg).trans p1
      have q2 := (hBr.cell (p := ⟨g, a.len * 3 + 2, none⟩) hg).trans p2
      have HC := hide (fun (w' : World) (hw' : Below w.heap.size w w') => F.all_at hI y sy P w' ⟨gy, ly, oy⟩ (by omega) (hTy.below hw'))
      obtain ⟨yad, yc, rfl⟩ := hTy.form
      have HSn := hide (hk.trans (F.app_snoc a ky bb y))
      have HDl : Hid ((a.app (.cons y ky .nil)).len = a.len + 1) := hide (by rw [F.app_len]; rfl)
      have HDn : Hid (dv y ky = none → R = none) := hide (fun hv => by
        rw [HR.out]; unfold dv; rw [hk, dvF_app, HDa.out]; simp only; rw [dvF_cons, hv]; rfl)
      have HDs : Hid (∀ p, dv y ky = some p → dvF (a.app (.cons y ky .nil)) = some (a'.app (.cons p.1 p.2 .nil))) := hide (fun p hv => by
        rw [dvF_app, HDa.out]; simp only; rw [dvF_cons, hv]; rfl)
      have HP6 := hide (fun p hv => dv_600 ⟨gy, ly, oy⟩ (by omega) (p := p) hv)
      obtain ⟨CM, hCM⟩ : ∃ CM, CM = dv y ky := ⟨_, rfl⟩
      rw [← hCM] at HC HDn HDs HP6
      obtain ⟨al, hal⟩ : ∃ al, al = a.len := ⟨_, rfl⟩
      obtain ⟨kn, hkn⟩ : ∃ kn, kn = ky.len := ⟨_, rfl⟩
      rw [← hal] at hlt' hd0 q0 q1 q2 HDl HO1 HOw HHo HKs ha4 hkl2 ⊢
      rw [← hkn] at HC q2
      have hal3 : al ≤ 3 := by omega
      have hBa : ∀ o : Obj, Below w.heap.size w (wr.alloc o) := fun o => hBr.alloc hBr.size o
      clear p0 p1 p2 hTy hI hk hfk hO gy ly oy orr hal hkn hCM hkl2
      go_wp2_with fail
      refine Calls.mono (HC.out _ (hBa _)) ?_
      rintro e w2 ⟨hto, hb2⟩
      have hsa : wr.heap.size + 1 ≤ w2.heap.size := by have := hb2.size; simpa using this
      have hb2' : Below wr.heap.size wr w2 := ((Below.refl _ wr).alloc (Nat.le_refl _) _).trans (hb2.mono (by simp))
      have hB2 : Below w.heap.size w w2 := hBr.trans (hb2'.mono hBr.size)
      have HRB : Hid (∀ o : Obj, (w2.alloc o).heap[w.heap.size + 1]? = some (.cells #[.int .i64 0, .int .i64 0, .slice none 0 0] 40 (0, 0))) := hide (fun o => (heap_alloc_old _ _ (by omega)).trans ((hb2'.block _ (by omega)).trans HR1.out))
      have HOB : Hid (∀ o : Obj, (w2.alloc o).heap[w.heap.size + 1 + 1]? = some (.cells #[.int .i64 xk, .int .i64 xn, .slice oad al oc] 40 (0, 0))) := hide (fun o => (heap_alloc_old _ _ (by omega)).trans ((hb2'.block _ (by omega)).trans HO1.out))
      clear q0 q1 q2 HC hb2
      cases CM with
      | none =>
        obtain rfl : e = .returned (.tuple #[.agg #[.int .i64 0, .int .i64 0, .slice none 0 0], .bool false]) := hto
        have hRn := HDn.out rfl
        subst hRn
        have A0 : ∀ o : Obj, (w2.alloc o).cell? ⟨w.heap.size + 1, 0, none⟩ = some (.int .i64 0) := fun o => (cell_of_blk (HRB.out o) 0).trans rfl
        have A1 : ∀ o : Obj, (w2.alloc o).cell? ⟨w.heap.size + 1, 1, none⟩ = some (.int .i64 0) := fun o => (cell_of_blk (HRB.out o) 1).trans rfl
        have A2 : ∀ o : Obj, (w2.alloc o).cell? ⟨w.heap.size + 1, 2, none⟩ = some (.slice none 0 0) := fun o => (cell_of_blk (HRB.out o) 2).trans rfl
        have FA : ∀ (o : Obj) (i : Nat), (w2.alloc o).frozen? ⟨w.heap.size + 1, i, none⟩ = false := fun o i => unfrozen_of_blk (HRB.out o) i
        go_wp2_with fail
        have hr9 := blk_setCell (i := 2) (blk_setCell (i := 1) (blk_setCell (i := 0) (HRB.out (.cells #[.int .i64 0, .int .i64 0, .slice none 0 0] 40)) (.int .i64 0)) (.int .i64 0)) (.slice none 0 0)
        have b0 := (cell_of_blk hr9 0).trans rfl
        have b1 := (cell_of_blk hr9 1).trans rfl
        have b2 := (cell_of_blk hr9 2).trans rfl
        have hB9 := (((hB2.alloc hB2.size (.cells #[.int .i64 0, .int .i64 0, .slice none 0 0] 40)).setCell (p := ⟨w.heap.size + 1, 0, none⟩) (by show w.heap.size ≤ w.heap.size + 1; omega) (.int .i64 0)).setCell (p := ⟨w.heap.size + 1, 1, none⟩) (by show w.heap.size ≤ w.heap.size + 1; omega) (.int .i64 0)).setCell (p := ⟨w.heap.size + 1, 2, none⟩) (by show w.heap.size ≤ w.heap.size + 1; omega) (.slice none 0 0)
        exact bodyPost_ret (v := .tuple #[.agg #[.int .i64 0, .int .i64 0, .slice none 0 0], .bool false]) (by simp [results, Try.results27, go_sem, b0, b1, b2]) rfl ⟨rfl, hB9⟩
      | some p =>
        obtain ⟨s2, rfl, hK2⟩ : ∃ s', e = .returned (.tuple #[.agg #[.int .i64 p.1.k, .int .i64 p.1.n, s'], .bool true]) ∧ KidT w2 _ p.2 s' := hto
        obtain ⟨pad, pc2, hpf⟩ := hK2.form
        subst hpf
        have hDs := HDs.out p rfl
        have hp6 := HP6.out p rfl
        obtain ⟨PN, hPN⟩ : ∃ PN, PN = p.2.len := ⟨_, rfl⟩
        have HK2 := hide hK2
        rw [← hPN] at HK2 ⊢
        have HDs2 := hide hDs
        have O2 : ∀ o : Obj, (w2.alloc o).cell? ⟨w.heap.size + 1 + 1, 2, none⟩ = some (.slice oad al oc) := fun o => (cell_of_blk (HOB.out o) 2).trans rfl
        clear hK2 hPN hDs HDn HDs HP6 HRB
        have hown2 : w2.ownsRow w0.heap.size 40 3 (.slice oad al oc) al cs := tOwn_keep HOw.out (fun k _ hk => hb2'.block k hk)
        have HOw2 := hide hown2
        clear hown2
        obtain ⟨w5, hw5⟩ : ∃ w5, w5 = w2.alloc (.cells #[.int .i64 p.1.k, .int .i64 p.1.n, .slice pad PN pc2] 40) := ⟨_, rfl⟩
        have HW5 := hide hw5
        clear hw5
        go_wp2_with (at_builtin; refine wpList_append_own_at _ rfl _ _ 38 rfl w0.heap.size 40 i0 (.agg #[.int .i64 0, .int .i64 0, .slice none 0 0]) 3 40 Try.underlying38 Hi.out hz0 hz1 hz2 rfl (by decide) _ al cs rfl ((HOw2.out.alloc _).alloc _) ⟨w2.heap.size + 1, 0, none⟩ 1 1 (tC p.1 (.slice pad PN pc2)) rfl rfl ?c1 ?c2 ?c3 ?c4 ?c5 ?_)
        case c1 => exact tC_cells (by have := heap_alloc_new (w2.alloc (.cells #[.int .i64 p.1.k, .int .i64 p.1.n, .slice pad PN pc2] 40)) (.cells #[.int .i64 p.1.k, .int .i64 p.1.n, .slice pad PN pc2] 40); simpa using this)
        case c2 => exact tC_one _ _ rfl
        case c3 => unfold maxLen; omega
        case c4 => omega
        case c5 => simp; omega
        intro v' w6 hown6 hgr6 _ hat6
        obtain ⟨g6, cap6, rfl, -, -⟩ := tOwn_some hown6 (by omega)
        have hown7 : w6.ownsRow w0.heap.size 40 3 (.slice (some ⟨g6, 0, none⟩) (al + 1) cap6) (al + 1) (cs ++ tC p.1 (.slice pad PN pc2)) := by rw [hsz0]; exact hown6
        have hNo : ∀ q, (Value.slice oad al oc).ownBlock = some q → w0.heap.size ≤ q ∧ q < wr.heap.size := HOw.out.lt
        rw [← HW5.out] at hgr6
        have hb5 : Below wr.heap.size wr w5 := by rw [HW5.out]; exact hb2'.alloc (by omega) _
        have hb25 : Below w2.heap.size w2 w5 := by rw [HW5.out]; exact (Below.refl _ _).alloc (Nat.le_refl _) _
        have hs5 := hb25.size
        have hO6 : w6.heap[w.heap.size + 1 + 1]? = some (.cells #[.int .i64 xk, .int .i64 xn, .slice oad al oc] 40 (0, 0)) := by
          rw [hgr6.block _ (by simp; omega) (fun e => by have := (hNo _ e.symm).1; omega), heap_alloc_old _ _ (by omega), hb5.block _ (by omega)]; exact HO1.out
        have f6 := (cell_of_blk hO6 2).trans rfl
        have ff6 := unfrozen_of_blk hO6 2
        have hrs := hide (row_step (F1 := a') hb5 HKs.out ((HK2.out.below hb25).weak (fun q h1 h2 => by have h3 : (wr.alloc (.cells #[.int .i64 y.k, .int .i64 y.n, .slice yad kn yc] 40)).heap.size ≤ q := h1; simp at h3; omega)) hown7 hgr6 (hat6.imp (fun h => h.symm) (fun h => by rw [HW5.out]; simp only [Value.ownBlock, Option.some.injEq] at h; simp; omega)) hNo (show w.heap.size + 1 + 1 < w0.heap.size by omega) hszr HO1.out)
        clear hown6 hown7 hgr6 hat6 hO6 HK2 HOw2 O2 HOB
        go_wp2_with fail
        obtain ⟨r1, r2, r3, r4, r5, r6, r7⟩ := hrs.out
        refine ⟨⟨a.app (.cons y ky .nil), bb, a'.app (.cons p.1 p.2 .nil), _, cs ++ tC p.1 (.slice pad PN pc2), HSn.out, by rw [HDl.out]; go_num, HDs2.out, ?_, hBr.trans (r7.mono (by omega)), by omega, (r4 _ (by omega) (by omega)).trans HT1.out, (r4 _ (by omega) (by omega)).trans HR1.out, r5, r1, by rw [HDl.out]; exact r2, by rw [HDl.out]; exact r3⟩, by simp [intOf]; omega⟩
        rw [F.app_flat, HDl.out]; simp [F.flat]; omega
end Go.Proofs.Ytbimfnnbfbfdoab.W

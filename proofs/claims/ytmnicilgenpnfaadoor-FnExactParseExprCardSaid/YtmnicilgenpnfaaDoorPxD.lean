/-
  Brackets by the program: the contract of readBrackets out of the others with a step less. Conditions: at most 1000 tokens; the table of signs as its text lays it.
-/
import Derived.Test.YtmnicilgenpnfaaDoorPxC
namespace Go.Proofs.YtmnicilgenpnfaaDoor.W
open Go.ChangeShapes Go.WideShapes Go.ChangeAt Go.RowKit
set_option linter.unusedVariables false
set_option linter.unusedSimpArgs false

set_option maxRecDepth 20000 in
set_option maxHeartbeats 4000000 in
theorem readBrackets_step (g : Nat) (ta : Option Addr) (tc : Nat) (l : List T.Tk) (f : Nat) (hl : l.length ≤ 1000) (ih : PS g ta tc l f) (d p : Nat) (w : World) (hd : d ≤ 100) (hp : p < l.length) (hf : 4 * (l.length - p) ≤ f + 1) (he : Env w g ta l) (hb : Bk w g (rdC ta l.length tc p d false) 40) :
    Calls Tryd.prog 37 #[.pointer (some ⟨g, 0, none⟩)] w (PO w g ta l.length tc d (rBr l (f + 1) d p)) := by
  have HG := hide (goIn_any g ta l.length tc p d w (by omega) (by omega) hb)
  have hz : rBr l (f + 1) d p = if 100 ≤ d then .bad (p + 1) true else match rFrom l f 1 (d + 1) (p + 1) with | .ok e q => if sqAt l q [41] then .ok e (q + 1) else .bad q false | .bad q t => .bad q t := by rw [rBr]; rfl
  rw [hz]
  have hgl := hb.lt
  by_cases h100 : 100 ≤ d
  · rw [if_pos h100]
    rw [decide_eq_true h100] at HG
    unfold PO
    clear hz ih he hb
    go_enter Tryd.func37, Tryd.ntmps37
    go_wp2_with fail
    refine Calls.mono HG.out ?_
    rintro e w1 ⟨rfl, hb1, hg1⟩
    have HB1 := hide hb1
    have HG1 := hide hg1
    clear hb1 hg1 HG
    go_wp2_with fail
    exact bodyPost_ret (v := .tuple #[.slice none 0 0, .bool false]) (by simp [results, Tryd.results37, go_sem]) rfl ⟨rfl, ⟨_, HB1.out⟩, HG1.out⟩
  · rw [if_neg h100]
    rw [decide_eq_false h100] at HG
    have hA := (after_all l f).2.2.2.1 1 (d + 1) (p + 1) (by omega) (by omega)
    have HI := hide (fun (w' : World) (h1 : Env w' g ta l) (h2 : Bk w' g (rdC ta l.length tc (p + 1) (d + 1) false) 40) => ih.2.2.2 1 (d + 1) (p + 1) w' (by omega) (by omega) (by omega) (by omega) h1 h2)
    have HE := hide he
    obtain ⟨Z, hZ⟩ : ∃ Z, Z = rFrom l f 1 (d + 1) (p + 1) := ⟨_, rfl⟩
    rw [← hZ] at HI hA ⊢
    clear hz ih he hb hZ
    cases Z with
    | bad q t =>
      unfold PO at HI ⊢
      simp only at HI ⊢
      go_enter Tryd.func37, Tryd.ntmps37
      go_wp2_with fail
      refine Calls.mono HG.out ?_
      rintro e w1 ⟨rfl, hb1, hg1⟩
      have HB1 := hide hb1
      have HG1 := hide hg1
      have HE1 := hide (HE.out.grown hg1)
      clear hb1 hg1 HG HE
      go_wp2_with fail
      refine Calls.mono (HI.out _ HE1.out HB1.out) ?_
      rintro e w2 ⟨rfl, ⟨d', hb2⟩, hg2⟩
      have HB2 := hide hb2
      have HG2 := hide (gr_trans HG1.out hg2)
      clear hb2 hg2 HI HB1 HE1
      go_wp2_with fail
      exact bodyPost_ret (v := .tuple #[.slice none 0 0, .bool false]) (by simp [results, Tryd.results37, go_sem]) rfl ⟨rfl, ⟨d', HB2.out⟩, HG2.out⟩
    | ok ee q =>
      obtain ⟨a1, a2, a3⟩ := hA
      have hfl : ee.flat.length ≤ 1000 := by omega
      have hqn : (0 : Int) ≤ (q : Int) := by omega
      by_cases hs : sqAt l q [41] = true
      · simp only [hs, if_true]
        unfold PO at HI ⊢
        simp only at HI ⊢
        go_enter Tryd.func37, Tryd.ntmps37
        go_wp2_with fail
        refine Calls.mono HG.out ?_
        rintro e w1 ⟨rfl, hb1, hg1⟩
        have HB1 := hide hb1
        have HG1 := hide hg1
        have HE1 := hide (HE.out.grown hg1)
        have hs1 := hg1.size
        clear hb1 hg1 HG HE
        go_wp2_with fail
        refine Calls.mono (HI.out _ HE1.out HB1.out) ?_
        rintro e w2 ⟨v, rfl, ho2, hb2, hg2⟩
        obtain ⟨va, vc, rfl⟩ := own_form' ho2
        have HS := hide (isNextSign_any g ta tc l q (d + 1) false ⟨#[41]⟩ w2 hl a2 hb2 (HE1.out.grown hg2).row)
        rw [show (⟨#[41]⟩ : ByteArray).data.toList = [41] from rfl, hs] at HS
        have HB2 := hide hb2
        have HG2 := hide (gr_trans HG1.out hg2)
        have HO2 := hide (own_lower' ho2 hs1)
        obtain ⟨FL, hFL⟩ : ∃ FL, FL = ee.flat := ⟨_, rfl⟩
        rw [← hFL] at HO2 hfl ⊢
        have HFL := hide hFL
        clear hb2 hg2 ho2 HI HB1 HE1 HG1 hFL hs
        go_wp2_with fail
        refine Calls.mono HS.out ?_
        rintro e w3 ⟨rfl, hb3⟩
        have HG3 := hide (gr_trans HG2.out (gr_below (some g) hb3))
        have HO3 := hide (own_below HO2.out hb3)
        have hB3 := HB2.out.below hb3
        have c := hB3.c
        have fz := hB3.f
        unfold rdC at c
        have HB3 := hide hB3
        have hdn : ((d + 1 : Nat) : Int) = (d : Int) + 1 := by omega
        rw [hdn] at c
        clear hb3 hB3 HS HG2 HO2 HB2
        go_wp2_with fail
        have hz := (HB3.out.set 1 (.int .i64 ((q : Int) + 1))).set 2 (.int .i64 (d : Int))
        simp only [rdC, List.setIfInBounds_toArray, List.set_cons_zero, List.set_cons_succ] at hz
        refine bodyPost_ret (v := .tuple #[.slice va FL.length vc, .bool true]) (by simp [results, Tryd.results37, go_sem]) rfl ⟨_, rfl, ?_, ?_, gr_set (gr_set HG3.out _ _) _ _⟩
        · rw [← HFL.out]
          exact own_gr HO3.out (gr_set (gr_set (gr_refl w3 (some g)) 1 _) 2 _) (by omega)
        · unfold rdC
          rw [show ((q + 1 : Nat) : Int) = (q : Int) + 1 by omega]
          exact hz
      · rw [Bool.not_eq_true] at hs
        simp only [hs]
        unfold PO at HI ⊢
        simp only [Bool.false_eq_true, if_false] at HI ⊢
        go_enter Tryd.func37, Tryd.ntmps37
        go_wp2_with fail
        refine Calls.mono HG.out ?_
        rintro e w1 ⟨rfl, hb1, hg1⟩
        have HB1 := hide hb1
        have HG1 := hide hg1
        have HE1 := hide (HE.out.grown hg1)
        have hs1 := hg1.size
        clear hb1 hg1 HG HE
        go_wp2_with fail
        refine Calls.mono (HI.out _ HE1.out HB1.out) ?_
        rintro e w2 ⟨v, rfl, ho2, hb2, hg2⟩
        obtain ⟨va, vc, rfl⟩ := own_form' ho2
        have HS := hide (isNextSign_any g ta tc l q (d + 1) false ⟨#[41]⟩ w2 hl a2 hb2 (HE1.out.grown hg2).row)
        rw [show (⟨#[41]⟩ : ByteArray).data.toList = [41] from rfl, hs] at HS
        have HB2 := hide hb2
        have HG2 := hide (gr_trans HG1.out hg2)
        obtain ⟨FN, hFN⟩ : ∃ FN, FN = ee.flat.length := ⟨_, rfl⟩
        rw [← hFN]
        clear hb2 hg2 ho2 HI HB1 HE1 HG1 hs hFN
        go_wp2_with fail
        refine Calls.mono HS.out ?_
        rintro e w3 ⟨rfl, hb3⟩
        have HG3 := hide (gr_trans HG2.out (gr_below (some g) hb3))
        have HB3 := hide (HB2.out.below hb3)
        clear hb3 HS HG2 HB2
        go_wp2_with fail
        exact bodyPost_ret (v := .tuple #[.slice none 0 0, .bool false]) (by simp [results, Tryd.results37, go_sem]) rfl ⟨rfl, ⟨_, HB3.out⟩, HG3.out⟩
end Go.Proofs.YtmnicilgenpnfaaDoor.W

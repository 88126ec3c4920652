/-
  Contracts of both MapComp. Conditions: at most 1048576 cells.
-/
import Derived.Test.YtlicfmjkoopmnaaCoA
import Derived.Test.YtlicfmjkoopmnaaCoF
namespace Go.Proofs.Ytlicfmjkoopmnaa.C
open Go.Proofs.Ytlicfmjkoopmnaa.W
open Go.ChangeShapes Go.WideShapes Go.ChangeAt Go.RowKit
set_option linter.unusedVariables false

/-- What MapComp tells. -/
def mpL (d : Int) (l : List Cc) : List Cc := if (goodT l && inB d 0 99) = true then l.map (mp d) else []
theorem mpL_len (d : Int) (l : List Cc) : (mpL d l).length ≤ l.length := by unfold mpL; split <;> simp
/-- The answer: a row of one's own, and a truth. -/
def RT (w : World) (L : List Cc) (b : Bool) (e : Ending) (w' : World) : Prop := ∃ v, e = .returned (.tuple #[v, .bool b]) ∧ w'.ownsRow w.heap.size 66 2 v L.length (cv L) ∧ Below w.heap.size w w'

theorem row_some {w : World} {ad : Option Addr} {l : List Cc} (h : CRow w ad l) (hl : 0 < l.length) : ∃ b o, ad = some ⟨b, o, none⟩ := by
  rcases h with rfl | ⟨b, o, h, -⟩
  · simp at hl
  · exact ⟨b, o, h⟩

set_option maxRecDepth 20000 in
set_option maxHeartbeats 2000000 in
theorem implMap_any (ad : Option Addr) (c : Nat) (l : List Cc) (d : Int) (w : World) (hl : l.length ≤ 1048576) (h : CRow w ad l) :
    Calls Try.prog 31 #[.slice ad l.length c, .int .i64 d] w (RT w (mpL d l) (goodT l && inB d 0 99)) := by
  unfold RT mpL
  have HC := hide (implGoodT_any ad c l w hl h)
  have HD := hide (isTold_any d)
  by_cases hg : goodT l = true
  · rw [hg] at HC ⊢
    simp only [Bool.true_and]
    by_cases hd : inB d 0 99 = true
    · rw [hd] at HD ⊢
      rw [if_pos rfl]
      obtain ⟨t, ht, hlt, h6, -⟩ := good_tr hg
      have hpos : 0 < l.length := by rw [hlt]; exact t.flat_pos
      obtain ⟨b, o, rfl⟩ := row_some h hpos
      have hd2 : 0 ≤ d ∧ d ≤ 99 := by simpa [inB] using hd
      have HT := hide (fun (w' : World) (hb : Below w.heap.size w w') => telling_any b o c l d w' hl hpos hd2.1 hd2.2 (by rw [hlt]; exact t.tellOk ht) (h.below hb))
      clear hg hd h hlt ht hd2
      go_enter Try.func31, Try.ntmps31
      go_wp2_with fail
      refine Calls.mono HC.out ?_
      rintro e w1 ⟨rfl, hb1⟩
      go_wp2_with fail
      refine (HD.out _).mono ?_
      rintro e w1' ⟨rfl, hw⟩
      obtain rfl := hw.symm
      go_wp2_with fail
      refine (HT.out _ hb1).mono ?_
      rintro e w2 ⟨g, cap, rfl, ho, hb2⟩
      have HO := hide ho
      clear ho HC HD HT
      go_wp2_with fail
      refine bodyPost_ret (v := .tuple #[.slice (some ⟨g, 0, none⟩) l.length cap, .bool true]) (by simp [results, Try.results31, go_sem]) rfl ⟨_, rfl, ?_, hb1.trans (hb2.mono hb1.size)⟩
      rw [List.length_map]
      exact iOwn_lower HO.out hb1.size
    · rw [Bool.not_eq_true] at hd
      rw [hd] at HD ⊢
      rw [if_neg (by simp)]
      clear hg hd
      go_enter Try.func31, Try.ntmps31
      go_wp2_with fail
      refine Calls.mono HC.out ?_
      rintro e w1 ⟨rfl, hb1⟩
      go_wp2_with fail
      refine (HD.out _).mono ?_
      rintro e w1' ⟨rfl, hw⟩
      obtain rfl := hw.symm
      clear HC HD
      go_wp2_with fail
      exact bodyPost_ret (v := .tuple #[.slice none 0 0, .bool false]) (by simp [results, Try.results31, go_sem]) rfl ⟨_, rfl, World.ownsRow_nil _ _ _ _, hb1⟩
  · rw [Bool.not_eq_true] at hg
    rw [hg] at HC ⊢
    simp only [Bool.false_and]
    rw [if_neg (by simp)]
    clear hg HD
    go_enter Try.func31, Try.ntmps31
    go_wp2_with fail
    refine Calls.mono HC.out ?_
    rintro e w1 ⟨rfl, hb1⟩
    clear HC
    go_wp2_with fail
    exact bodyPost_ret (v := .tuple #[.slice none 0 0, .bool false]) (by simp [results, Try.results31, go_sem]) rfl ⟨_, rfl, World.ownsRow_nil _ _ _ _, hb1⟩

set_option maxRecDepth 20000 in
set_option maxHeartbeats 2000000 in
theorem specMap_any (ad : Option Addr) (c : Nat) (l : List Cc) (d : Int) (w : World) (hl : l.length ≤ 1048576) (h : CRow w ad l) :
    Calls Try.prog 30 #[.slice ad l.length c, .int .i64 d] w (RT w (mpL d l) (goodT l && inB d 0 99)) := by
  unfold RT mpL
  have HD := hide (l1In_any d 0 99)
  by_cases hg : goodT l = true
  · obtain ⟨t, ht, hlt, h6, htr⟩ := good_tr hg
    have HC := hide (l9Tree_tr ad c l w hl h t htr)
    rw [hg]
    simp only [Bool.true_and]
    by_cases hd : inB d 0 99 = true
    · rw [hd] at HD ⊢
      rw [if_pos rfl]
      have hd2 : 0 ≤ d ∧ d ≤ 99 := by simpa [inB] using hd
      have HA := hide (fun u P w h => l9Add_any d hd2.1 hd2.2 t u P w ht h)
      have HE : Hid (l.map (mp d) = (t.add d).flat) := hide (by rw [Tr.add_flat, hlt])
      rw [HE.out]
      have hfl : 0 + (t.add d).flat.length ≤ 1048576 := by rw [Tr.add_len, ← hlt]; omega
      have HF := hide (fun u P w h => l9Flat_any (t.add d) u (.slice none 0 0) w.heap.size 0 [] P w (fun g _ _ e => by cases e) hfl (Nat.le_refl _) h (World.ownsRow_nil _ _ _ _))
      clear hg hd h hlt ht hd2 htr HE
      go_enter Try.func30, Try.ntmps30
      go_wp2_with fail
      refine Calls.mono HC.out ?_
      rintro e w1 ⟨hb1, v, rfl, hT⟩
      obtain ⟨b, n, sad, sl, sc, rfl⟩ := hT.form
      have HT := hide (hT.below ((Below.refl _ _).alloc (Nat.le_refl _) (.cells #[.bool b, .int .i64 n, .slice sad sl sc] 62)))
      have HB1 : Hid (Below w.heap.size w (w1.alloc (.cells #[.bool b, .int .i64 n, .slice sad sl sc] 62))) := hide (hb1.alloc hb1.size _)
      clear HC hb1 hT
      go_wp2_with fail
      refine (HD.out _).mono ?_
      rintro e w1' ⟨rfl, hw⟩
      obtain rfl := hw.symm
      go_wp2_with fail
      refine Calls.mono (HA.out _ _ _ HT.out) ?_
      rintro e w2 ⟨v2, rfl, hv2, hb2⟩
      obtain ⟨b2, n2, ad2, l2, c2, rfl⟩ := hv2.form
      have HC2 := hide (HF.out _ _ _ hv2)
      have hB2 : Below w.heap.size w w2 := HB1.out.trans (hb2.mono HB1.out.size)
      clear hv2 hb2 HA HD HT
      go_wp2_with fail
      refine Calls.mono HC2.out ?_
      rintro e w3 ⟨v3, rfl, ho, hgr, -⟩
      have hB3 : Below w.heap.size w w3 := hB2.grown hgr hB2.size (fun k hk => by cases hk)
      rw [Nat.zero_add, List.nil_append] at ho
      have HO := hide (iOwn_lower ho hB2.size)
      obtain ⟨ad3, c3, rfl⟩ := iOwn_form ho
      clear ho hgr HC2 HF
      go_wp2_with fail
      exact bodyPost_ret (v := .tuple #[.slice ad3 (t.add d).flat.length c3, .bool true]) (by simp [results, Try.results30, go_sem]) rfl ⟨_, rfl, HO.out, hB3⟩
    · rw [Bool.not_eq_true] at hd
      rw [hd] at HD ⊢
      rw [if_neg (by simp)]
      clear hg hd htr hlt
      go_enter Try.func30, Try.ntmps30
      go_wp2_with fail
      refine Calls.mono HC.out ?_
      rintro e w1 ⟨hb1, v, rfl, hT⟩
      obtain ⟨b, n, sad, sl, sc, rfl⟩ := hT.form
      have HB1 : Hid (Below w.heap.size w (w1.alloc (.cells #[.bool b, .int .i64 n, .slice sad sl sc] 62))) := hide (hb1.alloc hb1.size _)
      clear HC hb1 hT
      go_wp2_with fail
      refine (HD.out _).mono ?_
      rintro e w1' ⟨rfl, hw⟩
      obtain rfl := hw.symm
      go_wp2_with fail
      exact bodyPost_ret (v := .tuple #[.slice none 0 0, .bool false]) (by simp [results, Try.results30, go_sem]) rfl ⟨_, rfl, World.ownsRow_nil _ _ _ _, HB1.out⟩
  · rw [Bool.not_eq_true] at hg
    have HC := hide (l9Tree_bad ad c l w hl h hg)
    rw [hg]
    simp only [Bool.false_and]
    rw [if_neg (by simp)]
    clear hg h HD
    go_enter Try.func30, Try.ntmps30
    go_wp2_with fail
    refine Calls.mono HC.out ?_
    rintro e w1 ⟨hb1, k, n, sad, sn, sc, rfl⟩
    clear HC
    go_wp2_with fail
    exact bodyPost_ret (v := .tuple #[.slice none 0 0, .bool false]) (by simp [results, Try.results30, go_sem]) rfl ⟨_, rfl, World.ownsRow_nil _ _ _ _, hb1.alloc hb1.size _⟩
end Go.Proofs.Ytlicfmjkoopmnaa.C

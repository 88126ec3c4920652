/-
  Proved: whatever the two rows of bytes, the memory and the schedule, the law FnTermText returns true, and the rows read afterwards as they read before: drawn terms come back from their texts, and drawn texts from their terms; TermText and ReadTerm of the program tell what the specification's tell. The condition: the listed variables of Go's library (three tables of numbers, one of ranges, two errors, one of bytes) read as the program's text lays them (the card ties them to that text).
-/
import Derived.Test.YthnkdlhkldcaoaaDoorDoorR
import Derived.Test.YthnkdlhkldcaoaaDoorRdR
import Derived.Test.YthnkdlhkldcaoaaDoorRdG
import Derived.Test.YthnkdlhkldcaoaaDoorRdX
import Derived.Test.YthnkdlhkldcaoaaDoorCards
import Derived.Test.YthnkdlhkldcaoaaDoorTie
import Derived.Lib.SmallJoins
import Derived.ChangeOld
import Derived.Below
import Derived.SevenTiedAt
namespace Go.Proofs.YthnkdlhkldcaoaaDoor.fnTermText
open Go.ChangeShapes Go.WideShapes Go.ChangeAt Go.RowKit
open Go.Proofs.YthnkdlhkldcaoaaDoor.W Go.Joins
open Go.ChangeMaps (open_string shut_string)
set_option linter.unusedVariables false

theorem own : ownKnob Tryd.prog.godebug = none := by kernel_rfl
theorem laidOut : laidOutB Tryd.prog = true := by kernel_rfl
theorem rdT_len (s : ByteArray) : ((rdT s).getD []).length ≤ 1048576 := by
  cases h : rdT s with
  | none => simp
  | some l =>
    have := (goodT_all (rdT_good h)).1
    show l.length ≤ 1048576
    omega

set_option maxRecDepth 20000 in
set_option maxHeartbeats 8000000 in
theorem walk (ca cb : Option Addr) (na nb pa pb : Nat) (w : World) (hna : (na : Int) ≤ 9223372036854775807) (hnb : (nb : Int) ≤ 9223372036854775807) (hA : BRow w ca na) (hB : BRow w cb nb) (hv : VR w) :
    Calls Tryd.prog 4 #[.slice ca na pa, .slice cb nb pb] w fun e w' => e = .returned (.bool true) ∧ Below w.heap.size w w' := by
  have HV := hide hv
  have HDt := hide (drawText_any na pa ca w hna hA)
  have HDr := hide (fun (w' : World) (hb : Below w.heap.size w w') => drawRead_any nb pb cb w' hnb (hB.below hb))
  clear hA hB hna hnb hv
  by_cases hcmp : (1048576 : Int) < wrap64 ((na : Int) + (nb : Int))
  · go_enter Tryd.func4, Tryd.ntmps4
    go_wp2_with fail
    go_ret
    exact ⟨rfl, Below.refl _ _⟩
  go_enter Tryd.func4, Tryd.ntmps4
  go_wp2_with fail
  refine Calls.mono (HDt.out) ?_
  rintro e w1 ⟨v1, l, rfl, hl, hr, hb⟩
  obtain ⟨a1, c1, rfl, -, hr1⟩ := hr
  have HR1 := hide hr1
  have HB1 := hide hb
  clear hb hr1 HDt
  have HT1 := hide (implText_term a1 c1 l w1 hl HR1.out (HV.out.below HB1.out).tab)
  have HT2 := hide (fun (w' : World) (h : CRow w' a1 l) => specText_term a1 c1 l w' hl h)
  obtain ⟨Z, hZ⟩ : ∃ Z, Z = txL l := ⟨_, rfl⟩
  simp only [← hZ] at HT1 HT2
  have HZ := hide hZ
  clear hZ
  cases Z with
  | none =>
    simp only [txV] at HT1 HT2
    go_wp2_with fail
    refine Calls.mono (HT1.out) ?_
    rintro e w2 ⟨rfl, hb⟩
    have HB2 := hide (HB1.out.trans (hb.mono HB1.out.size))
    have HR2r := hide (CRow.below HR1.out hb)
    clear hb HT1
    go_wp2_with fail
    refine Calls.mono (HT2.out _ HR2r.out) ?_
    rintro e w3 ⟨rfl, hb⟩
    have HB3 := hide (HB2.out.trans (hb.mono HB2.out.size))
    clear hb HT2
    go_wp2_with fail
    refine Calls.mono (HDr.out _ HB3.out) ?_
    rintro e w3a ⟨u, rfl, hb⟩
    have Hw3a := hide (HB3.out.trans (hb.mono HB3.out.size))
    clear hb
    obtain ⟨X, hX⟩ : ∃ X, X = rdT u := ⟨_, rfl⟩
    have HRI := hide (implRead_any u w3a (HV.out.below Hw3a.out))
    have HRS := hide (fun w' => specRead_any u w')
    unfold RT at HRI HRS
    have hXl := rdT_len u
    rw [← hX] at HRI hXl
    simp only [← hX] at HRS
    have HX := hide hX
    clear hX
    obtain ⟨XL, hXL⟩ : ∃ XL, XL = X.getD [] := ⟨_, rfl⟩
    rw [← hXL] at HRI hXl
    simp only [← hXL] at HRS
    have HXL := hide hXL
    clear hXL
    go_wp2_with fail
    refine Calls.mono (HRI.out) ?_
    rintro e w3b ⟨v2, rfl, ho, hb⟩
    have Hw3b := hide (Hw3a.out.trans (hb.mono Hw3a.out.size))
    obtain ⟨a2, c2, rfl, hc2, hr2⟩ := cOwn_row ho
    have HR2 := hide hr2
    have HO2 := hide ho
    clear hb ho hr2 HRI
    go_wp2_with fail
    refine Calls.mono (HRS.out w3b) ?_
    rintro e w3c ⟨v3, rfl, ho, hb⟩
    have Hw3c := hide (Hw3b.out.trans (hb.mono Hw3b.out.size))
    obtain ⟨a3, c3, rfl, hc3, hr3⟩ := cOwn_row ho
    have HR3 := hide hr3
    replace HR2 := hide (CRow.below HR2.out hb)
    clear hb ho hr3 HRS HO2
    have HSm := hide (same_any a2 a3 c2 c3 XL XL w3c hXl hXl HR2.out HR3.out)
    rw [(sameR_iff XL XL).2 rfl] at HSm
    go_wp2_with fail
    refine Calls.mono (HSm.out) ?_
    rintro e w3d ⟨rfl, hb⟩
    have Hw3d := hide (Hw3c.out.trans (hb.mono Hw3c.out.size))
    replace HR2 := hide (CRow.below HR2.out hb)
    clear hb HSm HR3
    have HTx := hide (implText_term a2 c2 XL w3d hXl HR2.out (HV.out.below Hw3d.out).tab)
    obtain ⟨Y, hY⟩ : ∃ Y, Y = txL XL := ⟨_, rfl⟩
    rw [← hY] at HTx
    have HY := hide hY
    clear hY
    cases Y with
    | none =>
      simp only [txV] at HTx
      go_wp2_with fail
      refine Calls.mono (HTx.out) ?_
      rintro e w3f ⟨rfl, hb⟩
      have Hw3f := hide (Hw3d.out.trans (hb.mono Hw3d.out.size))
      clear hb HTx
      cases hq : X.isSome with
      | true =>
        try rw [hq]
        go_wp2_with fail
        go_ret
        exact ⟨rfl, Hw3f.out⟩
      | false =>
        try rw [hq]
        go_wp2_with fail
        go_ret
        exact ⟨rfl, Hw3f.out⟩
    | some s2 =>
      simp only [txV] at HTx
      go_wp2_with fail
      refine Calls.mono (HTx.out) ?_
      rintro e w3f ⟨rfl, hb⟩
      have Hw3f := hide (Hw3d.out.trans (hb.mono Hw3d.out.size))
      clear hb HTx
      cases hq : X.isSome with
      | true =>
        have hs2 : s2 = u := by
          obtain ⟨l9, hl9⟩ := Option.isSome_iff_exists.1 hq
          have h1 : XL = l9 := by rw [HXL.out, hl9]; rfl
          have h2 := HY.out
          rw [h1] at h2
          have h3 := HX.out
          rw [hl9] at h3
          exact back_text h3.symm h2.symm
        subst hs2
        try rw [hq]
        go_wp2_with fail
        go_ret
        exact ⟨rfl, Hw3f.out⟩
      | false =>
        try rw [hq]
        go_wp2_with fail
        go_ret
        exact ⟨rfl, Hw3f.out⟩
  | some s =>
    have hbk := text_back HZ.out.symm
    simp only [txV] at HT1 HT2
    go_wp2_with fail
    refine Calls.mono (HT1.out) ?_
    rintro e w2 ⟨rfl, hb⟩
    have HB2 := hide (HB1.out.trans (hb.mono HB1.out.size))
    have HR2r := hide (CRow.below HR1.out hb)
    clear hb HT1
    go_wp2_with fail
    refine Calls.mono (HT2.out _ HR2r.out) ?_
    rintro e w3 ⟨rfl, hb⟩
    have HB3 := hide (HB2.out.trans (hb.mono HB2.out.size))
    have HR3r := hide (CRow.below HR2r.out hb)
    clear hb HT2
    have HRb := hide (implRead_any s w3 (HV.out.below HB3.out))
    unfold RT at HRb
    rw [hbk] at HRb
    clear hbk
    simp only [Option.getD_some, Option.isSome_some] at HRb
    go_wp2_with fail
    refine Calls.mono (HRb.out) ?_
    rintro e w4 ⟨v4, rfl, ho, hb⟩
    have HB4 := hide (HB3.out.trans (hb.mono HB3.out.size))
    obtain ⟨a4, c4, rfl, -, hr4⟩ := cOwn_row ho
    have HR4 := hide hr4
    have HR5r := hide (CRow.below HR3r.out hb)
    clear hb ho hr4 HRb
    have HS1 := hide (same_any a4 a1 c4 c1 l l w4 hl hl HR4.out HR5r.out)
    rw [(sameR_iff l l).2 rfl] at HS1
    go_wp2_with fail
    refine Calls.mono (HS1.out) ?_
    rintro e w5 ⟨rfl, hb⟩
    have HB5 := hide (HB4.out.trans (hb.mono HB4.out.size))
    clear hb HS1 HR4 HR5r
    go_wp2_with fail
    refine Calls.mono (HDr.out _ HB5.out) ?_
    rintro e w5a ⟨u, rfl, hb⟩
    have Hw5a := hide (HB5.out.trans (hb.mono HB5.out.size))
    clear hb
    obtain ⟨X, hX⟩ : ∃ X, X = rdT u := ⟨_, rfl⟩
    have HRI := hide (implRead_any u w5a (HV.out.below Hw5a.out))
    have HRS := hide (fun w' => specRead_any u w')
    unfold RT at HRI HRS
    have hXl := rdT_len u
    rw [← hX] at HRI hXl
    simp only [← hX] at HRS
    have HX := hide hX
    clear hX
    obtain ⟨XL, hXL⟩ : ∃ XL, XL = X.getD [] := ⟨_, rfl⟩
    rw [← hXL] at HRI hXl
    simp only [← hXL] at HRS
    have HXL := hide hXL
    clear hXL
    go_wp2_with fail
    refine Calls.mono (HRI.out) ?_
    rintro e w5b ⟨v2, rfl, ho, hb⟩
    have Hw5b := hide (Hw5a.out.trans (hb.mono Hw5a.out.size))
    obtain ⟨a2, c2, rfl, hc2, hr2⟩ := cOwn_row ho
    have HR2 := hide hr2
    have HO2 := hide ho
    clear hb ho hr2 HRI
    go_wp2_with fail
    refine Calls.mono (HRS.out w5b) ?_
    rintro e w5c ⟨v3, rfl, ho, hb⟩
    have Hw5c := hide (Hw5b.out.trans (hb.mono Hw5b.out.size))
    obtain ⟨a3, c3, rfl, hc3, hr3⟩ := cOwn_row ho
    have HR3 := hide hr3
    replace HR2 := hide (CRow.below HR2.out hb)
    clear hb ho hr3 HRS HO2
    have HSm := hide (same_any a2 a3 c2 c3 XL XL w5c hXl hXl HR2.out HR3.out)
    rw [(sameR_iff XL XL).2 rfl] at HSm
    go_wp2_with fail
    refine Calls.mono (HSm.out) ?_
    rintro e w5d ⟨rfl, hb⟩
    have Hw5d := hide (Hw5c.out.trans (hb.mono Hw5c.out.size))
    replace HR2 := hide (CRow.below HR2.out hb)
    clear hb HSm HR3
    have HTx := hide (implText_term a2 c2 XL w5d hXl HR2.out (HV.out.below Hw5d.out).tab)
    obtain ⟨Y, hY⟩ : ∃ Y, Y = txL XL := ⟨_, rfl⟩
    rw [← hY] at HTx
    have HY := hide hY
    clear hY
    cases Y with
    | none =>
      simp only [txV] at HTx
      go_wp2_with fail
      refine Calls.mono (HTx.out) ?_
      rintro e w5f ⟨rfl, hb⟩
      have Hw5f := hide (Hw5d.out.trans (hb.mono Hw5d.out.size))
      clear hb HTx
      cases hq : X.isSome with
      | true =>
        try rw [hq]
        go_wp2_with fail
        go_ret
        exact ⟨rfl, Hw5f.out⟩
      | false =>
        try rw [hq]
        go_wp2_with fail
        go_ret
        exact ⟨rfl, Hw5f.out⟩
    | some s2 =>
      simp only [txV] at HTx
      go_wp2_with fail
      refine Calls.mono (HTx.out) ?_
      rintro e w5f ⟨rfl, hb⟩
      have Hw5f := hide (Hw5d.out.trans (hb.mono Hw5d.out.size))
      clear hb HTx
      cases hq : X.isSome with
      | true =>
        have hs2 : s2 = u := by
          obtain ⟨l9, hl9⟩ := Option.isSome_iff_exists.1 hq
          have h1 : XL = l9 := by rw [HXL.out, hl9]; rfl
          have h2 := HY.out
          rw [h1] at h2
          have h3 := HX.out
          rw [hl9] at h3
          exact back_text h3.symm h2.symm
        subst hs2
        try rw [hq]
        go_wp2_with fail
        go_ret
        exact ⟨rfl, Hw5f.out⟩
      | false =>
        try rw [hq]
        go_wp2_with fail
        go_ret
        exact ⟨rfl, Hw5f.out⟩

set_option maxRecDepth 100000 in
theorem lifted (os : Os) (started : os.Started) (H : Type) (enc : TypeId × Value → H) :
    ReturnsInHanded {} Tryd.checked os 4 .any (fun w args => (Rows.fnTermTextSpec.pre enc Tryd.prog Tryd.f4 [] false w args ∧ laidMetH Tryd.prog laidL w) ∧ sizedMet enc Tryd.prog Tryd.f4 (OpenSpec.ofChange Rows.fnTermTextSpec) false w args)
      (Rows.fnTermTextSpec.post enc Tryd.prog Tryd.f4 false true false false) := by
  refine returns_and_shaped (C := Tryd.checked) (X := fun w _ => laidMetH Tryd.prog laidL w) (fun _ _ _ hh h => h.of_heap hh) own started (by kernel_rfl) Tryd.func4
    (ChangeSpec.witness_shaped (enc := enc) (C := Tryd.checked) (os := os) (X := fun w _ => laidMetH Tryd.prog laidL w) false (World.laidAll Tryd.prog os laidL) #[.slice none 0 0, .slice none 0 0] 8 (World.laidAll_os _ _ _)
      (World.shaped_of_ZipB (by kernel_rfl) (by kernel_rfl)) (by kernel_rfl) (by kernel_rfl) (by kernel_rfl) (door_met os _)) ?_
  intro W base args ds gs before hval0 hW _ _ hL hsh _
  have hval : ∀ (j : Nat) t v, Tryd.f4.params[j]? = some t → args[j]? = some v → Value.okWide Tryd.prog W .any base t v := hval0
  have hW' := hW
  obtain ⟨p, q, hA0, hV, rfl, hfz, hnd⟩ := hW
  have hA : DataW.TrodAll enc Tryd.prog W 0 (fun _ => true) true Tryd.f4.params.toList args.toList ds p := hA0
  rw [Tryd.params4] at hA hval
  obtain ⟨v0, vs0, d0, ds0, p0, q0, hargs, rfl, rfl, h0, r0⟩ := trodAll_cons hA
  obtain ⟨v1, vs1, d1, ds1, p1, q1, rfl, rfl, rfl, h1, r1⟩ := trodAll_cons r0
  obtain ⟨rfl, rfl, rfl⟩ := trodAll_nil r1
  obtain rfl : args = #[v0, v1] := by cases args; simp_all
  obtain ⟨rfl, rfl⟩ := trodVars_none hV
  have k0 := h0
  have k1' := h1
  have lt0 : ∀ x ∈ p0, x.block < W.heap.size := by obtain ⟨m, hm⟩ := k0; exact DataW.trod_lt m _ _ _ hm
  have lt1 : ∀ x ∈ p1, x.block < W.heap.size := by obtain ⟨m, hm⟩ := k1'; exact DataW.trod_lt m _ _ _ hm
  obtain ⟨ad2, len2, cap2, rfl⟩ := okWide_slice Tryd.underlying28 (hval 1 28 v1 rfl rfl)
  obtain ⟨fuel2, hf2⟩ := h1
  obtain ⟨hls, hRS⟩ := open_byte hf2
  obtain ⟨ad, len, cap, rfl⟩ := okWide_slice Tryd.underlying28 (hval 0 28 v0 rfl rfl)
  obtain ⟨fuel, hf⟩ := h0
  obtain ⟨hl, hR⟩ := open_byte hf
  clear hA0 hval0
  refine (walk ad ad2 len len2 cap cap2 W (by unfold maxLen at hl; omega) (by unfold maxLen at hls; omega) hR hRS (vr_of_laid hL hsh)).mono fun e W' ⟨he, bel⟩ => ?_
  subst he
  exact ⟨_, rfl, _, _, _, [], _, [], hW', trodAll_mk1 (shut_bool Tryd.underlying4 _), (trodAll_cons_mk (Below.trod laidOut (by kernel_rfl) (of_decide_eq_true (by kernel_rfl)) k0 bel lt0) (trodAll_cons_mk (Below.trod laidOut (by kernel_rfl) (of_decide_eq_true (by kernel_rfl)) k1' bel lt1) trodAll_mk0)), rfl, bel.frame _, fun h => by cases h⟩

theorem over : Rows.fnTermTextRow.holds Tryd.pinned (OpenSpec.ofChange Rows.fnTermTextSpec) :=
  OpenClaim.holds_of_wide 4 Tryd.f4 rfl rfl rfl rfl rfl rfl rfl ⟨rfl, rfl, rfl, rfl, rfl⟩ rfl rfl rfl rfl rfl (by kernel_rfl) Tryd.func4 (by kernel_rfl)
    (of_decide_eq_true (by kernel_rfl)) (by unfold Func.isWrapper; first | (rw [if_pos (by decide +kernel)]; kernel_rfl) | (rw [if_neg (by decide +kernel)]; exact ⟨rfl, rfl⟩))
    (fun os started H enc _ => lifted os started H enc)

theorem card : Rows.FnTermTextCardSaid :=
  Claim7.holds_tied_plain_at .later [] [.data, .data, .data, .data, .sentinel, .sentinel, .pinned] true Rows.fnTermTextCard.stood.harness true
    over (fun _ h => by cases h) (by kernel_rfl) (fun _ h => by cases h) fnTermText_row_tie rfl ⟨rfl, rfl⟩ (by kernel_rfl) rfl
    (fun f fn hf hfn => by
      obtain rfl : f = 4 := Option.some.inj ((show Tryd.prog.funcNamed Rows.fnTermTextRow.func = some 4 by kernel_rfl).symm.trans hf) |>.symm
      obtain rfl : fn = Tryd.f4 := (Option.some.inj (Tryd.func4.symm.trans hfn)).symm
      exact ⟨by kernel_rfl, fun j t ht => by
        rw [Tryd.params4] at ht
        have hm : t ∈ [28, 28] := by simpa using Array.mem_of_getElem? ht
        have hall : ([28, 28].all fun u => !Tryd.prog.wantsStandIn u) = true := by kernel_rfl
        exact (show Tryd.prog.wantsStandIn t = false by simpa using List.all_eq_true.1 hall t hm)⟩)
    (by kernel_rfl)
end Go.Proofs.YthnkdlhkldcaoaaDoor.fnTermText

namespace Go.Proofs.YthnkdlhkldcaoaaDoor
theorem fnTermText_card : Rows.FnTermTextCardSaid := fnTermText.card
#print axioms fnTermText_card
end Go.Proofs.YthnkdlhkldcaoaaDoor

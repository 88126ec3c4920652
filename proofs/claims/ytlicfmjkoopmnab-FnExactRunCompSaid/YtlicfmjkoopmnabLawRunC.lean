/-
  Proved: whatever the row of cells, the answers, the memory and the schedule, the law FnExactRunComp returns true, and its arguments read afterwards as they read before: RunComp of the program tells what the specification's tells. No conditions.
-/
import Derived.Test.YtlicfmjkoopmnabCoU
import Derived.Test.YtlicfmjkoopmnabCoO
import Derived.Lib.SmallJoins
import Derived.ChangeOld
import Derived.Below
namespace Go.Proofs.Ytlicfmjkoopmnab.fnExactRunComp
open Go.ChangeShapes Go.WideShapes Go.ChangeAt Go.RowKit
open Go.Proofs.Ytlicfmjkoopmnab.W Go.Proofs.Ytlicfmjkoopmnab.C Go.Joins
set_option linter.unusedVariables false

theorem own : ownKnob Try.prog.godebug = none := by kernel_rfl
theorem laidOut : laidOutB Try.prog = true := by kernel_rfl

set_option maxHeartbeats 2000000 in
theorem implBad (ad : Option Addr) (c : Nat) (l : List Cc) (aa : Option Addr) (ac n : Nat) (w : World) (hl : l.length ≤ 1048576) (h : CRow w ad l) (hg : goodT l = false) :
    Calls Try.prog 9 #[.slice ad l.length c, .slice aa n ac] w fun e w' => e = .returned (.tuple #[.int .i64 0, .int .i64 0, .bool false]) ∧ Below w.heap.size w w' := by
  have HC := hide (implGoodT_any ad c l w hl h)
  rw [hg] at HC
  clear hg h
  go_enter Try.func9, Try.ntmps9
  go_wp2_with fail
  refine Calls.mono HC.out ?_
  rintro e w1 ⟨rfl, hb1⟩
  clear HC
  go_wp2_with fail
  exact bodyPost_ret (v := .tuple #[.int .i64 0, .int .i64 0, .bool false]) (by simp [results, Try.results9, go_sem]) rfl ⟨rfl, hb1⟩

set_option maxHeartbeats 2000000 in
theorem implLong (ad : Option Addr) (c : Nat) (l : List Cc) (aa : Option Addr) (ac n : Nat) (w : World) (hl : l.length ≤ 1048576) (h : CRow w ad l) (hg : goodT l = true) (hn : 60 < n) (hn2 : n ≤ 1048576) :
    Calls Try.prog 9 #[.slice ad l.length c, .slice aa n ac] w fun e w' => e = .returned (.tuple #[.int .i64 0, .int .i64 0, .bool false]) ∧ Below w.heap.size w w' := by
  have HC := hide (implGoodT_any ad c l w hl h)
  rw [hg] at HC
  clear hg h
  have hn' : (60 : Int) < (n : Int) := by omega
  go_enter Try.func9, Try.ntmps9
  go_wp2_with fail
  refine Calls.mono HC.out ?_
  rintro e w1 ⟨rfl, hb1⟩
  clear HC
  go_wp2_with fail
  exact bodyPost_ret (v := .tuple #[.int .i64 0, .int .i64 0, .bool false]) (by simp [results, Try.results9, go_sem]) rfl ⟨rfl, hb1⟩

set_option maxHeartbeats 2000000 in
theorem specBad (ad : Option Addr) (c : Nat) (l : List Cc) (aa : Option Addr) (ac n : Nat) (w : World) (hl : l.length ≤ 1048576) (h : CRow w ad l) (hg : goodT l = false) :
    Calls Try.prog 6 #[.slice ad l.length c, .slice aa n ac] w fun e w' => e = .returned (.tuple #[.int .i64 0, .int .i64 0, .bool false]) ∧ Below w.heap.size w w' := by
  have HC := hide (l9Tree_bad ad c l w hl h hg)
  clear hg h
  go_enter Try.func6, Try.ntmps6
  go_wp2_with fail
  refine Calls.mono HC.out ?_
  rintro e w1 ⟨hb1, k, n, sad, sn, sc, rfl⟩
  clear HC
  go_wp2_with fail
  exact bodyPost_ret (v := .tuple #[.int .i64 0, .int .i64 0, .bool false]) (by simp [results, Try.results6, go_sem]) rfl ⟨rfl, hb1.alloc hb1.size _⟩

set_option maxHeartbeats 2000000 in
theorem specLong (ad : Option Addr) (c : Nat) (l : List Cc) (aa : Option Addr) (ac n : Nat) (w : World) (hl : l.length ≤ 1048576) (h : CRow w ad l) (t : Tr) (htr : treeT l = some (.cons t.x t.k .nil)) (hn : 60 < n) (hn2 : n ≤ 1048576) :
    Calls Try.prog 6 #[.slice ad l.length c, .slice aa n ac] w fun e w' => e = .returned (.tuple #[.int .i64 0, .int .i64 0, .bool false]) ∧ Below w.heap.size w w' := by
  have HC := hide (l9Tree_tr ad c l w hl h t htr)
  clear h htr
  have hn' : (60 : Int) < (n : Int) := by omega
  go_enter Try.func6, Try.ntmps6
  go_wp2_with fail
  refine Calls.mono HC.out ?_
  rintro e w1 ⟨hb1, v, rfl, hT⟩
  obtain ⟨b0, n0, ad0, l0, c0, rfl⟩ := hT.form
  clear HC hT
  go_wp2_with fail
  exact bodyPost_ret (v := .tuple #[.int .i64 0, .int .i64 0, .bool false]) (by simp [results, Try.results6, go_sem]) rfl ⟨rfl, hb1.alloc hb1.size _⟩

/-- Both tell the same. -/
theorem both (l : List Cc) (an : List Bool) (hl : l.length ≤ 1048576) (ha : an.length ≤ 1048576) : ∃ (x y : Int) (z : Bool),
    (∀ (ad : Option Addr) (c : Nat) (aa : Option Addr) (ac : Nat) (w : World), l.length ≤ c → CRow w ad l → ORow w aa an → Calls Try.prog 9 #[.slice ad l.length c, .slice aa an.length ac] w fun e w' => e = .returned (.tuple #[.int .i64 x, .int .i64 y, .bool z]) ∧ Below w.heap.size w w') ∧
    (∀ (ad : Option Addr) (c : Nat) (aa : Option Addr) (ac : Nat) (w : World), CRow w ad l → ORow w aa an → Calls Try.prog 6 #[.slice ad l.length c, .slice aa an.length ac] w fun e w' => e = .returned (.tuple #[.int .i64 x, .int .i64 y, .bool z]) ∧ Below w.heap.size w w') := by
  by_cases hg : goodT l = true
  · obtain ⟨t, ht, hlt, h6, htr⟩ := good_tr hg
    by_cases h60 : an.length ≤ 60
    · cases hr : t.run an 0 with
      | none =>
        refine ⟨0, 0, false, fun ad c aa ac w hc h hA => ?_, fun ad c aa ac w h hA => ?_⟩
        · have := implRun_any ad c l aa ac an w hl hc h h60 hA t ht hlt hg
          rw [hr] at this
          exact this
        · have := specRun_any ad c l aa ac an w hl h h60 hA t htr
          rw [hr] at this
          exact this
      | some p =>
        obtain ⟨n, k⟩ := p
        refine ⟨n, k, true, fun ad c aa ac w hc h hA => ?_, fun ad c aa ac w h hA => ?_⟩
        · have := implRun_any ad c l aa ac an w hl hc h h60 hA t ht hlt hg
          rw [hr] at this
          exact this
        · have := specRun_any ad c l aa ac an w hl h h60 hA t htr
          rw [hr] at this
          exact this
    · exact ⟨0, 0, false, fun ad c aa ac w hc h hA => implLong ad c l aa ac an.length w hl h hg (by omega) ha, fun ad c aa ac w h hA => specLong ad c l aa ac an.length w hl h t htr (by omega) ha⟩
  · rw [Bool.not_eq_true] at hg
    exact ⟨0, 0, false, fun ad c aa ac w hc h hA => implBad ad c l aa ac an.length w hl h hg, fun ad c aa ac w h hA => specBad ad c l aa ac an.length w hl h hg⟩

set_option maxRecDepth 20000 in
set_option maxHeartbeats 4000000 in
theorem walk (ad : Option Addr) (c : Nat) (l : List Cc) (aa : Option Addr) (ac : Nat) (an : List Bool) (w : World) (hl : l.length ≤ maxLen) (h : CRow w ad l) (ha : an.length ≤ maxLen) (hA : ORow w aa an) :
    Calls Try.prog 3 #[.slice ad l.length c, .slice aa an.length ac] w fun e w' => e = .returned (.bool true) ∧ Below w.heap.size w w' := by
  have HR := hide h
  have HA := hide hA
  clear h hA
  have ha9 : (an.length : Int) ≤ 9223372036854775807 := by unfold maxLen at ha; omega
  by_cases hbig : (1048576 : Int) < (an.length : Int)
  · go_enter Try.func3, Try.ntmps3
    go_wp2_with fail
    go_ret
    exact ⟨rfl, Below.refl _ _⟩
  · have ha1 : an.length ≤ 1048576 := by omega
    clear ha
    go_enter Try.func3, Try.ntmps3
    go_wp2_with fail
    refine (szCellS_any _ _ _ _ hl).mono ?_
    rintro e w1 ⟨r, rfl, hr, hw⟩
    obtain rfl := hw.symm
    clear hl
    by_cases hneg : r < 0
    · clear hr
      go_wp2_with fail
      go_ret
      exact ⟨rfl, Below.refl _ _⟩
    · have hl : l.length ≤ 1048576 := by
        rcases hr with h | h
        · exact absurd h hneg
        · exact h.2.2
      clear hr
      obtain ⟨x, y, z, hI, hS⟩ := both l an hl ha1
      have HI := hide hI
      have HS := hide hS
      clear hI hS
      go_wp2_with fail
      refine (toCellS_any _ _ _ _ hl HR.out).mono ?_
      rintro e w2 ⟨rfl, hr2, hB2⟩
      go_wp2_with fail
      refine (toBoolS_any _ _ _ _ ha1 (HA.out.below hB2)).mono ?_
      rintro e w3 ⟨rfl, ho3, hb3⟩
      have hB3 : Below w.heap.size w w3 := hB2.trans (hb3.mono hB2.size)
      have HR3 := hide (hr2.below hb3)
      clear hb3 hr2 hB2
      go_wp2_with fail
      refine (HS.out _ _ _ _ _ HR3.out.row ho3.row).mono ?_
      rintro e w4 ⟨rfl, hb4⟩
      have hB4 : Below w.heap.size w w4 := hB3.trans (hb4.mono hB3.size)
      clear hb4 HR3 ho3 hB3
      go_wp2_with fail
      refine (toCellS_any _ _ _ _ hl (HR.out.below hB4)).mono ?_
      rintro e w5 ⟨rfl, hr5, hb5⟩
      have hB5 : Below w.heap.size w w5 := hB4.trans (hb5.mono hB4.size)
      clear hb5 hB4
      go_wp2_with fail
      refine (toBoolS_any _ _ _ _ ha1 (HA.out.below hB5)).mono ?_
      rintro e w6 ⟨rfl, ho6, hb6⟩
      have hB6 : Below w.heap.size w w6 := hB5.trans (hb6.mono hB5.size)
      have HR6 := hide (hr5.below hb6)
      clear hb6 hr5 hB5
      go_wp2_with fail
      refine (HI.out _ _ _ _ _ (Nat.le_refl _) HR6.out.row ho6.row).mono ?_
      rintro e w7 ⟨rfl, hb7⟩
      have hB7 : Below w.heap.size w w7 := hB6.trans (hb7.mono hB6.size)
      have HR7 := hide (HR6.out.below hb7)
      have HO7 := hide (ho6.below hb7)
      clear hb7 HR6 ho6 hB6
      go_wp2_with fail
      refine (toCellS_any _ _ _ _ hl (HR.out.below hB7)).mono ?_
      rintro e w8 ⟨rfl, hr8, hb8⟩
      have hB8 : Below w.heap.size w w8 := hB7.trans (hb8.mono hB7.size)
      have HR8 := hide (HR7.out.below hb8)
      have HO8 := hide (HO7.out.below hb8)
      clear hb8 hB7 HR7 HO7
      go_wp2_with fail
      refine (eqCellS_row _ _ _ _ _ _ hl HR8.out.row hr8.row).mono ?_
      rintro e w9 ⟨rfl, hb9⟩
      have hB9 : Below w.heap.size w w9 := hB8.trans (hb9.mono hB8.size)
      have HO9 := hide (HO8.out.below hb9)
      clear hb9 hB8 HR8 HO8 hr8
      go_wp2_with fail
      refine (toBoolS_any _ _ _ _ ha1 (HA.out.below hB9)).mono ?_
      rintro e w10 ⟨rfl, ho10, hb10⟩
      have hB10 : Below w.heap.size w w10 := hB9.trans (hb10.mono hB9.size)
      have HO10 := hide (HO9.out.below hb10)
      clear hb10 hB9 HO9
      go_wp2_with fail
      refine (eqBoolS_row _ _ _ _ _ _ ha1 HO10.out.row ho10.row).mono ?_
      rintro e w11 ⟨rfl, hb11⟩
      have hB11 : Below w.heap.size w w11 := hB10.trans (hb11.mono hB10.size)
      clear hb11 hB10
      go_wp2_with fail
      go_ret
      exact ⟨rfl, hB11⟩

set_option maxRecDepth 100000 in
theorem lifted (os : Os) (started : os.Started) (H : Type) (enc : TypeId × Value → H) :
    ReturnsInHanded {} Try.checked os 3 .any (Rows.fnExactRunCompSpec.pre6 enc Try.prog Try.f3 Rows.fnExactRunCompRow.domain false) (Rows.fnExactRunCompSpec.post enc Try.prog Try.f3 false true false false) := by
  refine returnsInHanded_of_change (C := Try.checked) own started (by kernel_rfl) Try.func3
    (ChangeSpec.witness6 (enc := enc) (C := Try.checked) false ⟨#[], #[.slice none 0 0, .slice none 0 0], []⟩ 8 (by kernel_rfl) (by kernel_rfl) (by kernel_rfl) (by kernel_rfl)) ?_
  intro W base args ds gs before hval0 hW hcnd _
  have hval : ∀ (j : Nat) t v, Try.f3.params[j]? = some t → args[j]? = some v → Value.okWide Try.prog W .any base t v := hval0
  have hW' := hW
  obtain ⟨p, q, hA0, hV, rfl, hfz, hnd⟩ := hW
  have hA : DataW.TrodAll enc Try.prog W 0 (fun _ => true) true Try.f3.params.toList args.toList ds p := hA0
  rw [Try.params3] at hA hval
  obtain ⟨v0, vs0, d0, ds0, p0, q0, hargs, rfl, rfl, h0, r0⟩ := trodAll_cons hA
  obtain ⟨v1, vs1, d1, ds1, p1, q1, rfl, rfl, rfl, h1, r1⟩ := trodAll_cons r0
  obtain ⟨rfl, rfl, rfl⟩ := trodAll_nil r1
  obtain rfl : args = #[v0, v1] := by cases args; simp_all
  obtain ⟨rfl, rfl⟩ := trodVars_none hV
  have k0 := h0
  have k1' := h1
  have lt0 : ∀ x ∈ p0, x.block < W.heap.size := by obtain ⟨m, hm⟩ := k0; exact DataW.trod_lt m _ _ _ hm
  have lt1 : ∀ x ∈ p1, x.block < W.heap.size := by obtain ⟨m, hm⟩ := k1'; exact DataW.trod_lt m _ _ _ hm
  obtain ⟨aa, alen, ac, rfl⟩ := okWide_slice Try.underlying23 (hval 1 23 v1 rfl rfl)
  obtain ⟨fuel1, hf1⟩ := h1
  obtain ⟨an, rfl, ha, hA1⟩ := open_bools hf1
  obtain ⟨ad, len, cap, rfl⟩ := okWide_slice Try.underlying22 (hval 0 22 v0 rfl rfl)
  obtain ⟨fuel, hf⟩ := h0
  obtain ⟨l, rfl, hl, hR⟩ := open_cells hf
  clear hA0 hval0
  refine (walk ad cap l aa ac an W hl hR ha hA1).mono fun e W' ⟨he, bel⟩ => ?_
  subst he
  exact ⟨_, rfl, _, _, _, [], _, [], hW', trodAll_mk1 (shut_bool Try.underlying4 _), (trodAll_cons_mk (Below.trod laidOut (by kernel_rfl) (of_decide_eq_true (by kernel_rfl)) k0 bel lt0) (trodAll_cons_mk (Below.trod laidOut (by kernel_rfl) (of_decide_eq_true (by kernel_rfl)) k1' bel lt1) trodAll_mk0)), rfl, bel.frame _, fun h => by cases h⟩

theorem over : Rows.fnExactRunCompRow.holds Try.pinned (OpenSpec.ofChange Rows.fnExactRunCompSpec) :=
  OpenClaim.holds_of_wide 3 Try.f3 rfl rfl rfl rfl rfl rfl rfl ⟨rfl, rfl, rfl, rfl, rfl⟩ rfl rfl rfl rfl rfl (by kernel_rfl) Try.func3 (by kernel_rfl)
    (of_decide_eq_true (by kernel_rfl)) (by unfold Func.isWrapper; first | (rw [if_pos (by decide +kernel)]; kernel_rfl) | (rw [if_neg (by decide +kernel)]; exact ⟨rfl, rfl⟩))
    (fun os started H enc _ => lifted os started H enc)
end Go.Proofs.Ytlicfmjkoopmnab.fnExactRunComp

namespace Go.Proofs.Ytlicfmjkoopmnab
theorem fnExactRunComp_holds : Rows.FnExactRunCompSaid := fnExactRunComp.over
#print axioms fnExactRunComp_holds
end Go.Proofs.Ytlicfmjkoopmnab

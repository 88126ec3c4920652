/-
  A text and a term drawn by the specification: contracts of DrawTermText and DrawReadTerm. Conditions: at most 9223372036854775807 bytes to draw from.
-/
import Derived.Test.YthnkdlhkldcaoaaDoorRdD
import Derived.Test.YthnkdlhkldcaoaaDoorRdE
import Derived.Test.YthnkdlhkldcaoaaDoorTxT
namespace Go.Proofs.YthnkdlhkldcaoaaDoor.W
open Go.ChangeShapes Go.WideShapes Go.ChangeAt Go.RowKit
set_option linter.unusedVariables false

set_option maxHeartbeats 1000000 in
theorem drawText_any (n cp : Nat) (ad : Option Addr) (w : World) (hn : (n : Int) ≤ 9223372036854775807) (h : BRow w ad n) :
    Calls Tryd.prog 10 #[.slice ad n cp] w fun e w' => ∃ (v1 : Value) (l1 : List Cc), e = .returned v1 ∧ l1.length ≤ 1048576 ∧ CRw w' v1 l1 ∧ Below w.heap.size w w' := by
  have HC := hide (drawGood_any n cp ad w hn h)
  clear h
  go_enter Tryd.func10, Tryd.ntmps10
  go_wp2_with fail
  refine Calls.mono HC.out ?_
  rintro e w1 ⟨v1, l1, rfl, h1, h2, h3⟩
  obtain ⟨a, c, rfl⟩ := h2.form
  have H2 := hide h2
  clear h2 HC
  go_wp2_with fail
  go_ret
  exact ⟨_, l1, rfl, h1, H2.out, h3⟩

/-- What is written of a drawn row. -/
theorem txV_form (l : List Cc) : ∃ (s : ByteArray) (b : Bool), txV (txL l) = .tuple #[.string s, .bool b] ∧ s.size ≤ 2000 := by
  cases h : txL l with
  | none => exact ⟨_, _, rfl, by decide⟩
  | some s =>
    refine ⟨s, true, rfl, ?_⟩
    unfold txL at h
    split at h
    · rename_i hg
      simp only [Option.some.injEq] at h
      rw [← h]; exact hg.2
    · cases h

set_option maxRecDepth 20000 in
set_option maxHeartbeats 4000000 in
theorem drawRead_any (n cp : Nat) (ad : Option Addr) (w : World) (hn : (n : Int) ≤ 9223372036854775807) (h : BRow w ad n) :
    Calls Tryd.prog 14 #[.slice ad n cp] w fun e w' => ∃ u : ByteArray, e = .returned (.string u) ∧ Below w.heap.size w w' := by
  have HC0 := hide (cu_new w ad n cp h)
  have hb0 : Below w.heap.size w (w.alloc (.cells #[.slice ad n cp, .int .i64 0, .int .u64 0] 50)) := (Below.refl _ _).alloc (Nat.le_refl _) _
  obtain ⟨w0, hw0⟩ : ∃ w0, w0 = w.alloc (.cells #[.slice ad n cp, .int .i64 0, .int .u64 0] 50) := ⟨_, rfl⟩
  rw [← hw0] at HC0 hb0
  have HB0 := hide hb0
  have Hw0 := hide hw0
  clear hw0 hb0 h
  have HP := hide (term_any w.heap.size n cp 0 2 ad w0 (by omega) (by omega) hn HC0.out)
  unfold TP at HP
  go_enter Tryd.func14, Tryd.ntmps14
  go_wp2_with fail
  rw [← Hw0.out]
  clear Hw0
  refine Calls.mono HP.out ?_
  rintro e w1 ⟨v1, l, rfl, hl, ho1, hc1, hg1⟩
  obtain ⟨a1, c1, rfl, -, hrow⟩ := cOwn_row ho1
  obtain ⟨s, b, hf, hs⟩ := txV_form l
  have HT := hide (specText_term a1 c1 l w1 (by omega) hrow)
  rw [hf] at HT
  have HC1 := hide hc1
  have HG1 := hide hg1
  clear HP ho1 hc1 hg1 hrow hf
  go_wp2_with fail
  refine Calls.mono HT.out ?_
  rintro e w2 ⟨rfl, hb2⟩
  have HC2 := hide (HC1.out.below hb2)
  have HG2 := hide (grown_trans HG1.out (grown_below (some w.heap.size) hb2))
  have HO := hide (one_any w.heap.size n cp _ 3 ad w2 (by omega) (by omega) hn HC2.out)
  clear hb2 HT HC1 HG1
  go_wp2_with fail
  refine Calls.mono HO.out ?_
  rintro e w3 ⟨r, rfl, hc3, hg3⟩
  have HC3 := hide hc3
  have HG3 := hide (grown_trans HG2.out hg3)
  have HSp := hide (spoilt_any w.heap.size n cp _ ad s ⟨#[118, 49, 64, 32, 43, 92, 61, 63, 45]⟩ w3 (by omega) hn (by omega) (by decide) (by decide) HC3.out)
  clear hc3 hg3 HO HC2 HG2
  cases r with
  | false =>
    go_wp2_with fail
    go_ret
    exact ⟨s, rfl, fin0 HB0.out HG3.out⟩
  | true =>
    go_wp2_with fail
    refine Calls.mono HSp.out ?_
    rintro e w4 ⟨u, rfl, -, hg4⟩
    have HG4 := hide (grown_trans HG3.out hg4)
    clear hg4 HSp
    go_wp2_with fail
    go_ret
    exact ⟨u, rfl, fin0 HB0.out HG4.out⟩
end Go.Proofs.YthnkdlhkldcaoaaDoor.W

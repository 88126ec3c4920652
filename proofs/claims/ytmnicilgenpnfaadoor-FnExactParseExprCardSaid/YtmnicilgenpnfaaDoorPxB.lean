/-
  The program's reader of tokens: contracts of isNextSign, goIn, signBetween. Conditions: at most 1000 tokens; the table of signs as its text lays it.
-/
import Derived.Test.YtmnicilgenpnfaaDoorPxA
import Derived.Lib.QuietBelow
namespace Go.Proofs.YtmnicilgenpnfaaDoor.W
open Go.ChangeShapes Go.WideShapes Go.ChangeAt Go.RowKit
set_option linter.unusedVariables false
set_option linter.unusedSimpArgs false

/-- The reader's cells. -/
def rdC (ta : Option Addr) (n tc p d : Nat) (tb : Bool) : Array Value := #[.slice ta n tc, .int .i64 (p : Int), .int .i64 (d : Int), .bool tb]
theorem sq_kd {l : List T.Tk} {p : Nat} {s : List UInt8} (h : kdAt l p 3 = false) : sqAt l p s = false := by
  unfold kdAt at h
  unfold sqAt
  cases e : l[p]? with
  | none => rfl
  | some x => rw [e] at h; simp only at h ⊢; rw [h]; rfl
theorem sq_tx {l : List T.Tk} {p : Nat} {s : List UInt8} (hp : p < l.length) (h : kdAt l p 3 = true) : sqAt l p s = decide (l[p].t.data.toList = s) := by
  unfold kdAt at h
  unfold sqAt
  rw [List.getElem?_eq_getElem hp] at h ⊢
  simp only at h ⊢
  rw [h]; rfl
theorem kd_lt {l : List T.Tk} {p : Nat} {k : Int} (h : kdAt l p k = true) : p < l.length := by
  unfold kdAt at h
  cases e : l[p]? with
  | none => rw [e] at h; cases h
  | some x => exact (List.getElem?_eq_some_iff.1 e).1

set_option maxRecDepth 20000 in
set_option maxHeartbeats 4000000 in
theorem isNextSign_any (g : Nat) (ta : Option Addr) (tc : Nat) (l : List T.Tk) (p d : Nat) (tb : Bool) (s : ByteArray) (w : World) (hl : l.length ≤ 1000) (hp : p ≤ l.length) (hb : Bk w g (rdC ta l.length tc p d tb) 40) (hr : T.Row w ta l) :
    Calls Tryd.prog 35 #[.pointer (some ⟨g, 0, none⟩), .string s] w fun e w' => e = .returned (.bool (sqAt l p s.data.toList)) ∧ Below w.heap.size w w' := by
  have C0 := cell_regrown ((hb.c 0).trans rfl : w.cell? ⟨g, 0, none⟩ = some (.slice ta l.length tc))
  have C1 := cell_regrown ((hb.c 1).trans rfl : w.cell? ⟨g, 1, none⟩ = some (.int .i64 (p : Int)))
  have cN : Hid (∀ d' os, Calls Tryd.prog 34 #[.pointer (some ⟨g, 0, none⟩), .int .i64 3] (Go.Sort.grow (redrawn w d') os) fun e w'' => e = .returned (.bool (kdAt l p 3)) ∧ ∃ q : Regrown, w'' = Go.Sort.grow (redrawn w q.d) q.os) :=
    hide (fun d' os => Calls.regrown_of (isNext_any g ta tc l p d tb 3 _ hl hp (hb.below (below_regrown w d' os)) (hr.below (below_regrown w d' os))))
  have hp0 : (0 : Int) ≤ (p : Int) := by omega
  by_cases hk : kdAt l p 3 = true
  · have hlt := kd_lt hk
    have hlt' : (p : Int) < (l.length : Int) := by omega
    rw [hk] at cN
    rw [sq_tx hlt hk]
    obtain ⟨b, o, rfl, hbl, -, -, q2, -⟩ := hr.tok (Below.refl _ _) hlt
    obtain ⟨x, hx⟩ : ∃ x, x = l[p].t := ⟨_, rfl⟩
    rw [← hx] at q2 ⊢
    have Q2 := cell_regrown q2
    clear hx q2 hk hr hb
    by_cases hxs : x.data.toList = s.data.toList
    · have hxb : (x.toList == s.toList) = true := by rw [Lib.toList_data, Lib.toList_data, hxs]; exact beq_self_eq_true _
      rw [decide_eq_true hxs]
      clear hxs
      go_enter Tryd.func35, Tryd.ntmps35
      go_wp2_with fail
      refine wp_region_quiet_below (by kernel_rfl) (by kernel_rfl) ?_
      repeat (go_big_quiet_step ((go_at_call 34; exact cN.out _ _)))
      refine wpQuiet_nil ?_
      intro _ hw'
      obtain ⟨⟨dq, osq⟩, hw''⟩ := hw'
      subst hw''
      go_wp2_with fail
      go_ret
      exact ⟨rfl, below_regrown w dq osq⟩
    · have hxb : (x.toList == s.toList) = false := by rw [Lib.toList_data, Lib.toList_data]; exact beq_eq_false_iff_ne.2 hxs
      rw [decide_eq_false hxs]
      clear hxs
      go_enter Tryd.func35, Tryd.ntmps35
      go_wp2_with fail
      refine wp_region_quiet_below (by kernel_rfl) (by kernel_rfl) ?_
      repeat (go_big_quiet_step ((go_at_call 34; exact cN.out _ _)))
      refine wpQuiet_nil ?_
      intro _ hw'
      obtain ⟨⟨dq, osq⟩, hw''⟩ := hw'
      subst hw''
      go_wp2_with fail
      go_ret
      exact ⟨rfl, below_regrown w dq osq⟩
  · rw [Bool.not_eq_true] at hk
    rw [hk] at cN
    rw [sq_kd hk]
    clear hk hr hb
    go_enter Tryd.func35, Tryd.ntmps35
    go_wp2_with fail
    refine wp_region_quiet_below (by kernel_rfl) (by kernel_rfl) ?_
    repeat (go_big_quiet_step ((go_at_call 34; exact cN.out _ _)))
    refine wpQuiet_nil ?_
    intro _ hw'
    obtain ⟨⟨dq, osq⟩, hw''⟩ := hw'
    subst hw''
    go_wp2_with fail
    go_ret
    exact ⟨rfl, below_regrown w dq osq⟩

set_option maxRecDepth 20000 in
set_option maxHeartbeats 4000000 in
theorem goIn_any (g : Nat) (ta : Option Addr) (n tc : Nat) (p d : Nat) (w : World) (hp : p ≤ 1000) (hd : d ≤ 1000) (hb : Bk w g (rdC ta n tc p d false) 40) :
    Calls Tryd.prog 43 #[.pointer (some ⟨g, 0, none⟩)] w fun e w' => e = .returned (.bool (!decide (100 ≤ d))) ∧ Bk w' g (rdC ta n tc (p + 1) (d + 1) (decide (100 ≤ d))) 40 ∧ w.grownBy w' (some g) := by
  have c := hb.c
  have f := hb.f
  have HB := hide hb
  unfold rdC at c
  have hpn : (0 : Int) ≤ (p : Int) := by omega
  have e1 : ((p + 1 : Nat) : Int) = (p : Int) + 1 := by omega
  have e2 : ((d + 1 : Nat) : Int) = (d : Int) + 1 := by omega
  by_cases h : 100 ≤ d
  · have h' : (100 : Int) < (d : Int) + 1 := by omega
    rw [decide_eq_true h]
    clear hb
    go_enter Tryd.func43, Tryd.ntmps43
    go_wp2_with fail
    go_ret
    have hz := ((HB.out.set 1 (.int .i64 ((p : Int) + 1))).set 2 (.int .i64 ((d : Int) + 1))).set 3 (.bool true)
    simp only [rdC, List.setIfInBounds_toArray, List.set_cons_zero, List.set_cons_succ] at hz
    refine ⟨rfl, ?_, gr_set (gr_set (gr_set (gr_refl _ _) _ _) _ _) _ _⟩
    unfold rdC
    rw [e1, e2]
    exact hz
  · have h' : ¬ (100 : Int) < (d : Int) + 1 := by omega
    rw [decide_eq_false h]
    clear hb
    go_enter Tryd.func43, Tryd.ntmps43
    go_wp2_with fail
    go_ret
    have hz := ((HB.out.set 1 (.int .i64 ((p : Int) + 1))).set 2 (.int .i64 ((d : Int) + 1))).set 3 (.bool false)
    simp only [rdC, List.setIfInBounds_toArray, List.set_cons_zero, List.set_cons_succ] at hz
    refine ⟨rfl, ?_, gr_set (gr_set (gr_set (gr_refl _ _) _ _) _ _) _ _⟩
    unfold rdC
    rw [e1, e2]
    exact hz

set_option maxRecDepth 20000 in
set_option maxHeartbeats 4000000 in
theorem signBetween_any (g : Nat) (ta : Option Addr) (tc : Nat) (l : List T.Tk) (p d : Nat) (tb : Bool) (w : World) (hl : l.length ≤ 1000) (hp : p ≤ l.length) (hb : Bk w g (rdC ta l.length tc p d tb) 40) (hr : T.Row w ta l) (ht : SgTab w) :
    Calls Tryd.prog 24 #[.pointer (some ⟨g, 0, none⟩)] w fun e w' => (∃ s : ByteArray, e = .returned (.tuple #[.string s, .int .i64 (stAt l p), .bool (decide (stAt l p = 7))]) ∧ (1 ≤ stAt l p → s = txAt l p)) ∧ Below w.heap.size w w' := by
  have HN := hide (isNext_any g ta tc l p d tb 3 w hl hp hb hr)
  have hp0 : (0 : Int) ≤ (p : Int) := by omega
  by_cases hk : kdAt l p 3 = true
  · have hlt := kd_lt hk
    have hlt' : (p : Int) < (l.length : Int) := by omega
    rw [hk] at HN
    have hst : stAt l p = strN (l[p].t) := by
      unfold kdAt at hk
      unfold stAt
      rw [List.getElem?_eq_getElem hlt] at hk ⊢
      simp only at hk ⊢
      rw [if_pos (by simpa using hk)]
    have htx : txAt l p = l[p].t := by unfold txAt; rw [List.getElem?_eq_getElem hlt]
    rw [hst, htx]
    obtain ⟨b, o, rfl, hbl, -, -, q2, -⟩ := hr.tok (Below.refl _ _) hlt
    obtain ⟨x, hx⟩ : ∃ x, x = l[p].t := ⟨_, rfl⟩
    rw [← hx] at q2 ⊢
    have HB := hide hb
    have HT := hide ht
    have Q2 := hide q2
    clear hx q2 hk hr hb hst htx ht
    go_enter Tryd.func24, Tryd.ntmps24
    go_wp2_with fail
    refine Calls.mono HN.out ?_
    rintro e w1 ⟨rfl, hb1⟩
    have hB1 := HB.out.below hb1
    have c0 : w1.cell? ⟨g, 0, none⟩ = some (.slice (some ⟨b, o, none⟩) l.length tc) := (hB1.c 0).trans rfl
    have c1 : w1.cell? ⟨g, 1, none⟩ = some (.int .i64 (p : Int)) := (hB1.c 1).trans rfl
    have q2 := (hb1.cell (p := ⟨b, o + p * 4 + 2, none⟩) hbl).trans Q2.out
    have HT1 := hide (HT.out.below hb1)
    have HB1 := hide hb1
    clear hB1 hb1 HN HB
    go_wp2_with fail
    go_quiet (fail)
    clear c0 c1 q2
    go_wp2_with fail
    refine Calls.mono (StrengthOf_any x _ (HT1.out.below (belDrewN _))) ?_
    rintro e w2 ⟨rfl, hb2⟩
    have hB2 : Below w.heap.size w w2 := HB1.out.trans (((belDrewN _).trans hb2).mono HB1.out.size)
    clear hb2
    go_wp2_with fail
    exact bodyPost_ret (v := .tuple #[.string x, .int .i64 (strN x), .bool (decide (strN x = 7))]) (by simp [results, Tryd.results24, go_sem]) rfl ⟨⟨x, rfl, fun _ => rfl⟩, hB2⟩
  · rw [Bool.not_eq_true] at hk
    rw [hk] at HN
    have hst : stAt l p = 0 := by
      unfold kdAt at hk
      unfold stAt
      cases e : l[p]? with
      | none => rfl
      | some x => rw [e] at hk; simp only at hk ⊢; rw [if_neg (by simpa using hk)]
    rw [hst]
    clear hk hr hb hst
    go_enter Tryd.func24, Tryd.ntmps24
    go_wp2_with fail
    refine Calls.mono HN.out ?_
    rintro e w1 ⟨rfl, hb1⟩
    have HB1 := hide hb1
    clear hb1 HN
    go_wp2_with fail
    exact bodyPost_ret (v := .tuple #[.string ⟨#[]⟩, .int .i64 0, .bool false]) (by simp [results, Tryd.results24, go_sem]) rfl ⟨⟨⟨#[]⟩, rfl, fun h => absurd h (by decide)⟩, HB1.out⟩
end Go.Proofs.YtmnicilgenpnfaaDoor.W

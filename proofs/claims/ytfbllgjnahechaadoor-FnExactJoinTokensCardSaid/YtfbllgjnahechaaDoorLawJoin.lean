/-
  Proved: whatever the row of tokens, the memory and the schedule, the law FnExactJoinTokens returns true, and the row reads afterwards as it read before: JoinTokens of the program tells what the specification's tells. The condition: the three listed tables of Go's library read as the program's text lays them (the card ties them to that text).
-/
import Derived.Test.YtfbllgjnahechaaDoorDoorB
import Derived.Test.YtfbllgjnahechaaDoorJoinI
import Derived.Deep.Slices
import Derived.Test.YtfbllgjnahechaaDoorCards
import Derived.Test.YtfbllgjnahechaaDoorTie
import Derived.ChangeOld
import Derived.Below
import Derived.SevenTiedAt
namespace Go.Proofs.YtfbllgjnahechaaDoor.fnExactJoinTokens
open Go.ChangeShapes Go.WideShapes Go.ChangeAt Go.RowKit
open Go.Proofs.YtfbllgjnahechaaDoor.W Go.Joins
set_option linter.unusedVariables false

theorem own : ownKnob Tryd.prog.godebug = none := by kernel_rfl
theorem laidOut : laidOutB Tryd.prog = true := by kernel_rfl

/-- A row of tokens that came in, opened. -/
theorem open_toks {H : Type} {enc : TypeId × Value → H} {W : World} {sp : Nat → Bool} {held : Bool} {fuel : Nat} {ad : Option Addr} {len cap : Nat} {x : DataW H × List MemPlace}
    (h : DataW.trod enc Tryd.prog W 0 sp held fuel 30 [.slice ad len cap] = some x) :
    ∃ l : List Tk, l.length = len ∧ len ≤ maxLen ∧ (∀ x ∈ l, x.t.size ≤ maxLen) ∧ Row W ad l := by
  rcases Go.Deep.open_slice Tryd.underlying30 h with ⟨hcs, -⟩ | ⟨a, len', cap', m, n, D, Pl, hcs, hb, hl, hm, hmm, -, hx⟩
  · simp at hcs
    exact ⟨[], by simp [hcs.2.1], by omega, by simp, .inl rfl⟩
  simp at hcs
  obtain ⟨rfl, rfl, rfl⟩ := hcs
  have hlm : len ≤ m := by rw [hmm]; split <;> omega
  have hc : Tryd.prog.cellsOf 23 = 4 := by kernel_rfl
  have ci : Tryd.prog.cellsOf 3 = 1 := by kernel_rfl
  have cs : Tryd.prog.cellsOf 9 = 1 := by kernel_rfl
  haveI : Inhabited Tk := ⟨⟨0, 0, ⟨#[]⟩, 0⟩⟩
  obtain ⟨F, hF⟩ := Go.Deep.choose_lt (α := Tk) (n := len) (p := fun i q => q.t.size ≤ maxLen ∧ W.cell? (a.add (i * 4)) = some (.int .i64 q.k) ∧ W.cell? (a.add (i * 4 + 1)) = some (.int .i64 q.n) ∧ W.cell? (a.add (i * 4 + 2)) = some (.string q.t) ∧ W.cell? (a.add (i * 4 + 3)) = some (.int .i64 q.a)) (fun i hi => by
    obtain ⟨cs', h1, h2⟩ := hx i (by omega)
    rw [hc] at h1
    obtain ⟨_, hlen, hcell⟩ := World.cells?_some h1
    obtain ⟨xs, k, hk, hxy, _, hxl, hf⟩ := DataW.trod_struct Tryd.underlying23 h2
    match cs', hlen with
    | [v0, v1, v2, v3], _ =>
      have g0 := hf 0 _ rfl
      have g1 := hf 1 _ rfl
      have g2 := hf 2 _ rfl
      have g3 := hf 3 _ rfl
      simp [ci, cs] at g0 g1 g2 g3
      rw [List.getElem?_eq_getElem (by rw [hxl]; decide)] at g0 g1 g2 g3
      obtain ⟨k0, e0, -, -⟩ := DataW.trod_int Tryd.underlying3 g0
      obtain ⟨n0, e1, -, -⟩ := DataW.trod_int Tryd.underlying3 g1
      obtain ⟨t0, e2, -, wt⟩ := DataW.trod_string Tryd.underlying9 g2
      obtain ⟨a0, e3, -, -⟩ := DataW.trod_int Tryd.underlying3 g3
      simp at e0 e1 e2 e3
      subst e0 e1 e2 e3
      have c0 := hcell 0 (by omega)
      have c1 := hcell 1 (by omega)
      have c2 := hcell 2 (by omega)
      have c3 := hcell 3 (by omega)
      rw [Go.Deep.add_add] at c0 c1 c2 c3
      exact ⟨⟨k0, n0, t0, a0⟩, wt, by simpa using c0, by simpa using c1, by simpa using c2, by simpa using c3⟩)
  refine ⟨(List.range len).map F, by simp, by omega, ?_, ?_⟩
  · intro x hx
    obtain ⟨i, hi, rfl⟩ := List.mem_map.1 hx
    exact (hF i (List.mem_range.1 hi)).1
  · by_cases h0 : len = 0
    · left; simp [h0]
    · right
      obtain ⟨b, o, spot⟩ := a
      have hspot : spot = none := by simpa [Addr.add] using World.cell?_spot (hF 0 (by omega)).2.1
      subst hspot
      refine ⟨b, o, rfl, ?_, fun i hi => ?_⟩
      · have := World.block_lt_of_cell? _ _ (hF 0 (by omega)).2.1
        simpa [Addr.add] using this
      · have hi' : i < len := by simpa using hi
        obtain ⟨-, f0, f1, f2, f3⟩ := hF i hi'
        rw [Addr.add_lit] at f0 f1 f2 f3
        simp only [List.getElem_map, List.getElem_range]
        exact ⟨f0, f1, f2, f3⟩

set_option maxHeartbeats 2000000 in
theorem walk (ad : Option Addr) (c : Nat) (l : List Tk) (w : World) (hl : l.length ≤ maxLen) (hs : ∀ x ∈ l, x.t.size ≤ maxLen) (h : Row w ad l) (ht : Tab w) :
    Calls Tryd.prog 4 #[.slice ad l.length c] w fun e w' => e = .returned (.bool true) ∧ Below w.heap.size w w' := by
  have HT := hide ht
  have HR := hide h
  clear ht h
  go_enter Tryd.func4, Tryd.ntmps4
  go_wp2_with fail
  refine (szTokenS_any _ _ _ _ hl hs HR.out).mono ?_
  rintro e w1 ⟨r, rfl, hr, hB1⟩
  clear hs hl
  by_cases hneg : r < 0
  · clear hr
    go_wp2_with fail
    go_ret
    exact ⟨rfl, hB1⟩
  · obtain ⟨-, hl, hs⟩ : 0 ≤ r ∧ l.length ≤ 1048576 ∧ ∀ x ∈ l, x.t.size ≤ 1048576 := by
      rcases hr with h | h
      · exact absurd h hneg
      · exact h
    have HS := hide hs
    clear hr hs
    go_wp2_with fail
    refine (toTokenS_any _ _ _ _ hl (HR.out.below hB1)).mono ?_
    rintro e w2 ⟨rfl, hr2, hb2⟩
    go_wp2_with fail
    refine (specJoin_any _ _ _ _ hl HS.out hr2).mono ?_
    rintro e w3 ⟨rfl, hb3⟩
    have hB2 : Below w.heap.size w w2 := hB1.trans (hb2.mono hB1.size)
    have hB3 : Below w.heap.size w w3 := hB2.trans (hb3.mono hB2.size)
    clear hb2 hb3 hr2 hB1 hB2
    go_wp2_with fail
    refine (toTokenS_any _ _ _ _ hl (HR.out.below hB3)).mono ?_
    rintro e w4 ⟨rfl, hr4, hb4⟩
    have hB4 : Below w.heap.size w w4 := hB3.trans (hb4.mono hB3.size)
    clear hb4
    go_wp2_with fail
    refine (implJoin_any _ _ _ _ hl HS.out hr4 (HT.out.below hB4)).mono ?_
    rintro e w5 ⟨rfl, hb5⟩
    have hB5 : Below w.heap.size w w5 := hB4.trans (hb5.mono hB4.size)
    have HR5 := hide (hr4.below hb5)
    clear hb5 hr4
    go_wp2_with fail
    refine (toTokenS_any _ _ _ _ hl (HR.out.below hB5)).mono ?_
    rintro e w6 ⟨rfl, hr6, hb6⟩
    have hB6 : Below w.heap.size w w6 := hB5.trans (hb6.mono hB5.size)
    have HR6 := hide (HR5.out.below hb6)
    clear hb6 HR5
    go_wp2_with fail
    refine (eqTokenS_row _ _ _ _ _ _ hl HR6.out hr6).mono ?_
    rintro e w7 ⟨rfl, hb7⟩
    have hB7 : Below w.heap.size w w7 := hB6.trans (hb7.mono hB6.size)
    clear hb7 hr6
    go_wp2_with fail
    go_ret
    exact ⟨rfl, hB7⟩

set_option maxRecDepth 100000 in
theorem lifted (os : Os) (started : os.Started) (H : Type) (enc : TypeId × Value → H) :
    ReturnsInHanded {} Tryd.checked os 4 .any (fun w args => (Rows.fnExactJoinTokensSpec.pre enc Tryd.prog Tryd.f4 [] false w args ∧ laidMetH Tryd.prog laidL w) ∧ sizedMet enc Tryd.prog Tryd.f4 (OpenSpec.ofChange Rows.fnExactJoinTokensSpec) false w args)
      (Rows.fnExactJoinTokensSpec.post enc Tryd.prog Tryd.f4 false true false false) := by
  refine returnsInHanded_of_change_and (C := Tryd.checked) (X := fun w _ => laidMetH Tryd.prog laidL w) (fun _ _ _ hh h => h.of_heap hh) own started (by kernel_rfl) Tryd.func4
    (ChangeSpec.witness_shaped (enc := enc) (C := Tryd.checked) (os := os) (X := fun w _ => laidMetH Tryd.prog laidL w) false (World.doorLaid Tryd.prog 24 os) #[.slice none 0 0] 8 rfl (World.shaped_of_RefB (by kernel_rfl) (by kernel_rfl)) (by kernel_rfl) (by kernel_rfl) (by kernel_rfl) (door_met os _)) ?_
  intro W base args ds gs before hval0 hW _ _ hL _
  have hval : ∀ (j : Nat) t v, Tryd.f4.params[j]? = some t → args[j]? = some v → Value.okWide Tryd.prog W .any base t v := hval0
  have hW' := hW
  obtain ⟨p, q, hA0, hV, rfl, hfz, hnd⟩ := hW
  have hA : DataW.TrodAll enc Tryd.prog W 0 (fun _ => true) true Tryd.f4.params.toList args.toList ds p := hA0
  rw [Tryd.params4] at hA hval
  obtain ⟨v0, d0, hargs, rfl, h0⟩ := trodAll_one hA
  obtain rfl : args = #[v0] := by cases args; simp_all
  obtain ⟨rfl, rfl⟩ := trodVars_none hV
  have k0 := h0
  have lt0 : ∀ x ∈ p, x.block < W.heap.size := by obtain ⟨m, hm⟩ := k0; exact DataW.trod_lt m _ _ _ hm
  obtain ⟨ad, len, cap, rfl⟩ := okWide_slice Tryd.underlying30 (hval 0 30 v0 rfl rfl)
  obtain ⟨fuel, hf⟩ := h0
  obtain ⟨l, rfl, hl, hs, hR⟩ := open_toks hf
  clear hA0 hval0
  refine (walk ad cap l W hl hs hR (tab_of_laid hL)).mono fun e W' ⟨he, bel⟩ => ?_
  subst he
  exact ⟨_, rfl, _, _, _, [], p, [], hW', trodAll_mk1 (shut_bool Tryd.underlying4 _), trodAll_mk1 (Below.trod laidOut (by kernel_rfl) (of_decide_eq_true (by kernel_rfl)) k0 bel lt0), rfl, bel.frame _, fun h => by cases h⟩

theorem over : Rows.fnExactJoinTokensRow.holds Tryd.pinned (OpenSpec.ofChange Rows.fnExactJoinTokensSpec) :=
  OpenClaim.holds_of_wide 4 Tryd.f4 rfl rfl rfl rfl rfl rfl rfl ⟨rfl, rfl, rfl, rfl, rfl⟩ rfl rfl rfl rfl rfl (by kernel_rfl) Tryd.func4 (by kernel_rfl)
    (of_decide_eq_true (by kernel_rfl)) (by unfold Func.isWrapper; first | (rw [if_pos (by decide +kernel)]; kernel_rfl) | (rw [if_neg (by decide +kernel)]; exact ⟨rfl, rfl⟩))
    (fun os started H enc _ => lifted os started H enc)

theorem card : Rows.FnExactJoinTokensCardSaid :=
  Claim7.holds_tied_plain_at .later [] [.data, .data, .data] true Rows.fnExactJoinTokensCard.stood.harness false
    over (fun _ h => by cases h) (by kernel_rfl) (fun _ h => by cases h) fnExactJoinTokens_row_tie rfl ⟨rfl, rfl⟩ (by kernel_rfl) rfl
    (fun f fn hf hfn => by
      obtain rfl : f = 4 := Option.some.inj ((show Tryd.prog.funcNamed Rows.fnExactJoinTokensRow.func = some 4 by kernel_rfl).symm.trans hf) |>.symm
      obtain rfl : fn = Tryd.f4 := (Option.some.inj (Tryd.func4.symm.trans hfn)).symm
      exact ⟨by kernel_rfl, fun j t ht => by
        rw [Tryd.params4] at ht
        have hm : t ∈ [30] := by simpa using Array.mem_of_getElem? ht
        have hall : ([30].all fun u => !Tryd.prog.wantsStandIn u) = true := by kernel_rfl
        exact (show Tryd.prog.wantsStandIn t = false by simpa using List.all_eq_true.1 hall t hm)⟩)
    (by kernel_rfl)
end Go.Proofs.YtfbllgjnahechaaDoor.fnExactJoinTokens

namespace Go.Proofs.YtfbllgjnahechaaDoor
theorem fnExactJoinTokens_card : Rows.FnExactJoinTokensCardSaid := fnExactJoinTokens.card
#print axioms fnExactJoinTokens_card
end Go.Proofs.YtfbllgjnahechaaDoor

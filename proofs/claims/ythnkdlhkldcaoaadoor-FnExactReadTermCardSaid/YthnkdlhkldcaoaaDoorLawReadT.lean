/-
  Proved: whatever the text, the memory and the schedule, the law FnExactReadTerm returns true, and the text reads afterwards as it read before: ReadTerm of the program tells what the specification's tells, in memory of its own. The condition: the listed variables of Go's library (three tables of numbers, one of ranges, two errors, one of bytes) read as the program's text lays them (the card ties them to that text).
-/
import Derived.Test.YthnkdlhkldcaoaaDoorDoorR
import Derived.Test.YthnkdlhkldcaoaaDoorRdR
import Derived.Test.YthnkdlhkldcaoaaDoorCards
import Derived.Test.YthnkdlhkldcaoaaDoorTie
import Derived.Lib.SmallJoins
import Derived.ChangeOld
import Derived.Below
import Derived.SevenTiedAt
namespace Go.Proofs.YthnkdlhkldcaoaaDoor.fnExactReadTerm
open Go.ChangeShapes Go.WideShapes Go.ChangeAt Go.RowKit
open Go.Proofs.YthnkdlhkldcaoaaDoor.W Go.Joins
open Go.ChangeMaps (open_string shut_string)
set_option linter.unusedVariables false

theorem own : ownKnob Tryd.prog.godebug = none := by kernel_rfl
theorem laidOut : laidOutB Tryd.prog = true := by kernel_rfl
theorem eqOwn (v1 v2 : Value) (b1 b2 : Nat) (L : List Cc) (w : World) (hl : L.length ≤ 1048576) (h1 : w.ownsRow b1 37 2 v1 L.length (cv L)) (h2 : w.ownsRow b2 37 2 v2 L.length (cv L)) :
    Calls Tryd.prog 7 #[v1, v2] w fun e w' => e = .returned (.bool true) ∧ Below w.heap.size w w' := by
  obtain ⟨a1, c1, rfl, -, r1⟩ := cOwn_row h1
  obtain ⟨a2, c2, rfl, -, r2⟩ := cOwn_row h2
  exact eqCellS_row a1 a2 c1 c2 L w hl r1 r2
theorem rdT_len (s : ByteArray) : ((rdT s).getD []).length ≤ 1048576 := by
  cases h : rdT s with
  | none => simp
  | some l =>
    have := (goodT_all (rdT_good h)).1
    show l.length ≤ 1048576
    omega

set_option maxRecDepth 20000 in
set_option maxHeartbeats 4000000 in
theorem walk (s : ByteArray) (w : World) (hv : VR w) :
    Calls Tryd.prog 3 #[.string s] w fun e w' => e = .returned (.bool true) ∧ Below w.heap.size w w' := by
  by_cases hbig : (1048576 : Int) < (s.size : Int)
  · go_enter Tryd.func3, Tryd.ntmps3
    go_wp2_with fail
    go_ret
    exact ⟨rfl, Below.refl _ _⟩
  · have hfl := rdT_len s
    have HS := hide (fun w' => specRead_any s w')
    have HI := hide (fun w' (hb : Below w.heap.size w w') => implRead_any s w' (hv.below hb))
    unfold RT at HS HI
    obtain ⟨FL, hFL⟩ : ∃ FL, FL = (rdT s).getD [] := ⟨_, rfl⟩
    obtain ⟨OK, hOK⟩ : ∃ OK, OK = (rdT s).isSome := ⟨_, rfl⟩
    simp only [← hFL, ← hOK] at HS HI
    rw [← hFL] at hfl
    clear hFL hOK hv
    go_enter Tryd.func3, Tryd.ntmps3
    go_wp2_with fail
    refine Calls.mono (HS.out _) ?_
    rintro e w1 ⟨vs, rfl, hos, hB⟩
    have HSr := hide hos
    have HSx := hide (fun k hk => (hos.lt k hk).2)
    obtain ⟨sa, sc, rfl⟩ := iOwn_form hos
    clear hos HS
    go_wp2_with fail
    refine Calls.mono (HI.out _ hB) ?_
    rintro e w2 ⟨vg, rfl, hog, hbc⟩
    have HGr := hide hog
    have HGx := hide (fun k hk => (hog.lt k hk).1)
    obtain ⟨ga, gc, rfl⟩ := iOwn_form hog
    have hs1 := hB.size
    replace HSr := hide (tOwn_keep HSr.out (fun k _ hk => hbc.block k hk))
    replace hB := hB.trans (hbc.mono hB.size)
    clear hog hbc
    go_wp2_with fail
    refine Calls.mono (eqOwn _ _ _ _ FL _ hfl HGr.out HSr.out) ?_
    rintro e w3 ⟨rfl, hbc⟩
    replace HSr := hide (tOwn_keep HSr.out (fun k _ hk => hbc.block k hk))
    replace HGr := hide (tOwn_keep HGr.out (fun k _ hk => hbc.block k hk))
    replace hB := hB.trans (hbc.mono hB.size)
    clear hbc
    have HH := hide (fun (w : World) (h : IMk w (.slice ga FL.length gc) 37 2 1 FL.length) => heldCellS_any _ FL.length w hfl h)
    have HMk := hide (fun (w : World) (b : Nat) (xs : List Value) (h : w.ownsRow b 37 2 (.slice ga FL.length gc) FL.length xs) => markCellS_any _ b FL.length xs w hfl h)
    have hm0 : ¬ ((1 + FL.length * 2 : Nat) : Int) < 0 := by omega
    obtain ⟨M, hM⟩ : ∃ M, M = 1 + FL.length * 2 := ⟨_, rfl⟩
    rw [← hM] at HH HMk hm0
    clear hM
    go_wp2_with fail
    refine Calls.mono (HMk.out _ _ _ HGr.out) ?_
    rintro e w4 ⟨rfl, hmk, hgr⟩
    have HK := hide hmk
    replace HSr := hide (iOwn_grown HSr.out hgr (fun k hk e => by have h1 := HSx.out k hk; have h2 := HGx.out k e; omega))
    replace hB := hB.grown hgr hB.size (fun k hk => by have h2 := HGx.out k hk; omega)
    clear hmk hgr HGr HMk
    go_wp2_with fail
    refine Calls.mono (HH.out _ HK.out) ?_
    rintro e w5 ⟨rfl, hbc⟩
    replace HSr := hide (tOwn_keep HSr.out (fun k _ hk => hbc.block k hk))
    replace HK := hide (HK.out.below hbc)
    replace hB := hB.trans (hbc.mono hB.size)
    clear hbc
    go_wp2_with fail
    refine Calls.mono (HI.out _ hB) ?_
    rintro e w6 ⟨vh, rfl, hoh, hbc⟩
    have HGr := hide hoh
    obtain ⟨ha, hc, rfl⟩ := iOwn_form hoh
    replace HSr := hide (tOwn_keep HSr.out (fun k _ hk => hbc.block k hk))
    replace HK := hide (HK.out.below hbc)
    replace hB := hB.trans (hbc.mono hB.size)
    clear hoh hbc
    go_wp2_with fail
    refine Calls.mono (eqOwn _ _ _ _ FL _ hfl HGr.out HSr.out) ?_
    rintro e w7 ⟨rfl, hbc⟩
    replace HK := hide (HK.out.below hbc)
    replace hB := hB.trans (hbc.mono hB.size)
    clear hbc HGr HSr
    go_wp2_with fail
    refine Calls.mono (HH.out _ HK.out) ?_
    rintro e w8 ⟨rfl, hbc⟩
    replace hB := hB.trans (hbc.mono hB.size)
    clear hbc
    go_wp2_with fail
    go_ret
    exact ⟨rfl, hB⟩

set_option maxRecDepth 100000 in
theorem lifted (os : Os) (started : os.Started) (H : Type) (enc : TypeId × Value → H) :
    ReturnsInHanded {} Tryd.checked os 3 .any (fun w args => (Rows.fnExactReadTermSpec.pre enc Tryd.prog Tryd.f3 [] false w args ∧ laidMetH Tryd.prog laidL w) ∧ sizedMet enc Tryd.prog Tryd.f3 (OpenSpec.ofChange Rows.fnExactReadTermSpec) false w args)
      (Rows.fnExactReadTermSpec.post enc Tryd.prog Tryd.f3 false true false false) := by
  refine returns_and_shaped (C := Tryd.checked) (X := fun w _ => laidMetH Tryd.prog laidL w) (fun _ _ _ hh h => h.of_heap hh) own started (by kernel_rfl) Tryd.func3
    (ChangeSpec.witness_shaped (enc := enc) (C := Tryd.checked) (os := os) (X := fun w _ => laidMetH Tryd.prog laidL w) false (World.laidAll Tryd.prog os laidL) #[.string ⟨#[]⟩] 8 (World.laidAll_os _ _ _)
      (World.shaped_of_ZipB (by kernel_rfl) (by kernel_rfl)) (by kernel_rfl) (by kernel_rfl) (by kernel_rfl) (door_met os _)) ?_
  intro W base args ds gs before hval0 hW _ _ hL hsh _
  have hval : ∀ (j : Nat) t v, Tryd.f3.params[j]? = some t → args[j]? = some v → Value.okWide Tryd.prog W .any base t v := hval0
  have hW' := hW
  obtain ⟨p, q, hA0, hV, rfl, hfz, hnd⟩ := hW
  have hA : DataW.TrodAll enc Tryd.prog W 0 (fun _ => true) true Tryd.f3.params.toList args.toList ds p := hA0
  rw [Tryd.params3] at hA hval
  obtain ⟨v0, d0, hargs, rfl, h0⟩ := trodAll_one hA
  obtain rfl : args = #[v0] := by cases args; simp_all
  obtain ⟨rfl, rfl⟩ := trodVars_none hV
  have k0 := h0
  have lt0 : ∀ x ∈ p, x.block < W.heap.size := by obtain ⟨m, hm⟩ := k0; exact DataW.trod_lt m _ _ _ hm
  obtain ⟨s, rfl, hd, hp, hs⟩ := open_string Tryd.underlying9 (hval 0 9 v0 rfl rfl) h0
  clear hA0 hval0
  refine (walk s W (vr_of_laid hL hsh)).mono fun e W' ⟨he, bel⟩ => ?_
  subst he
  exact ⟨_, rfl, _, _, _, [], p, [], hW', trodAll_mk1 (shut_bool Tryd.underlying4 _), trodAll_mk1 (Below.trod laidOut (by kernel_rfl) (of_decide_eq_true (by kernel_rfl)) k0 bel lt0), rfl, bel.frame _, fun h => by cases h⟩

theorem over : Rows.fnExactReadTermRow.holds Tryd.pinned (OpenSpec.ofChange Rows.fnExactReadTermSpec) :=
  OpenClaim.holds_of_wide 3 Tryd.f3 rfl rfl rfl rfl rfl rfl rfl ⟨rfl, rfl, rfl, rfl, rfl⟩ rfl rfl rfl rfl rfl (by kernel_rfl) Tryd.func3 (by kernel_rfl)
    (of_decide_eq_true (by kernel_rfl)) (by unfold Func.isWrapper; first | (rw [if_pos (by decide +kernel)]; kernel_rfl) | (rw [if_neg (by decide +kernel)]; exact ⟨rfl, rfl⟩))
    (fun os started H enc _ => lifted os started H enc)

theorem card : Rows.FnExactReadTermCardSaid :=
  Claim7.holds_tied_plain_at .later [] [.data, .data, .data, .data, .sentinel, .sentinel, .pinned] true Rows.fnExactReadTermCard.stood.harness true
    over (fun _ h => by cases h) (by kernel_rfl) (fun _ h => by cases h) fnExactReadTerm_row_tie rfl ⟨rfl, rfl⟩ (by kernel_rfl) rfl
    (fun f fn hf hfn => by
      obtain rfl : f = 3 := Option.some.inj ((show Tryd.prog.funcNamed Rows.fnExactReadTermRow.func = some 3 by kernel_rfl).symm.trans hf) |>.symm
      obtain rfl : fn = Tryd.f3 := (Option.some.inj (Tryd.func3.symm.trans hfn)).symm
      exact ⟨by kernel_rfl, fun j t ht => by
        rw [Tryd.params3] at ht
        have hm : t ∈ [9] := by simpa using Array.mem_of_getElem? ht
        have hall : ([9].all fun u => !Tryd.prog.wantsStandIn u) = true := by kernel_rfl
        exact (show Tryd.prog.wantsStandIn t = false by simpa using List.all_eq_true.1 hall t hm)⟩)
    (by kernel_rfl)
end Go.Proofs.YthnkdlhkldcaoaaDoor.fnExactReadTerm

namespace Go.Proofs.YthnkdlhkldcaoaaDoor
theorem fnExactReadTerm_card : Rows.FnExactReadTermCardSaid := fnExactReadTerm.card
#print axioms fnExactReadTerm_card
end Go.Proofs.YthnkdlhkldcaoaaDoor

/-
  Proved: whatever the text, the memory and the schedule, the law FnExactParseExpr returns true, and the text and the table of signs read afterwards as they read before: ParseExpr of the program tells what the specification's tells, part by part, and its answer owns its memory, also behind another call. The condition: the program's table of signs reads as its text lays it (the card ties it to that text).
-/
import Derived.Test.YtmnicilgenpnfaaDoorDoorS
import Derived.Test.YtmnicilgenpnfaaDoorPxH
import Derived.Test.YtmnicilgenpnfaaDoorPsK
import Derived.Test.YtmnicilgenpnfaaDoorPsM
import Derived.Test.YtmnicilgenpnfaaDoorCards
import Derived.Test.YtmnicilgenpnfaaDoorTie
import Derived.Lib.SmallJoins
import Derived.ChangeOld
import Derived.Below
import Derived.SevenTiedAt
namespace Go.Proofs.YtmnicilgenpnfaaDoor.fnExactParseExpr
open Go.ChangeShapes Go.WideShapes Go.ChangeAt Go.RowKit
open Go.Proofs.YtmnicilgenpnfaaDoor.W Go.Joins
open Go.ChangeMaps (open_string shut_string)
set_option linter.unusedVariables false

theorem pxT_len (s : ByteArray) : (pxT s).1.length ≤ 40 := by
  unfold pxT
  split
  · simp
  · unfold cls
    split
    · split
      · simp
      · split <;> simp
    · split
      · simp
      · split
        · split
          · simp
          · dsimp only; omega
        · simp
theorem xcv_get : ∀ (l : List Xx) (i : Nat) (h : i < l.length), (xcv l)[i * 3]? = some (.int .i64 l[i].k) ∧ (xcv l)[i * 3 + 1]? = some (.int .i64 l[i].n) ∧ (xcv l)[i * 3 + 2]? = some (.string l[i].t)
  | [], i, h => absurd h (by simp)
  | x :: l, 0, h => ⟨rfl, rfl, rfl⟩
  | x :: l, i + 1, h => by
    have hi := xcv_get l i (by simpa using h)
    have e : ∀ r, (xcv (x :: l))[(i + 1) * 3 + r]? = (xcv l)[i * 3 + r]? := by
      intro r
      rw [show (i + 1) * 3 + r = (i * 3 + r) + 3 by omega]
      rfl
    refine ⟨?_, ?_, ?_⟩
    · have := e 0; simp only [Nat.add_zero] at this; rw [this]; simpa using hi.1
    · rw [e 1]; simpa using hi.2.1
    · rw [e 2]; simpa using hi.2.2
theorem rowX {w : World} {base : Nat} {v : Value} {l : List Xx} (h : w.ownsRow base 47 3 v l.length (xcv l)) : ∃ a c, v = .slice a l.length c ∧ W.Row w a l := by
  rcases h.2 with ⟨h1, h0⟩ | ⟨g, cap, cur, hv, hg, hh, h1, h2, h3, h4⟩
  · exact ⟨none, 0, by rw [h1, h0], .inl (List.eq_nil_of_length_eq_zero h0)⟩
  · refine ⟨_, _, hv, .inr ⟨g, 0, rfl, (Array.getElem?_eq_some_iff.1 hh).1, fun i hi => ?_⟩⟩
    have hc := xcv_get l i hi
    have e : ∀ j, j < l.length * 3 → w.cell? ⟨g, j, none⟩ = (xcv l)[j]? := by
      intro j hj
      rw [cell_of_blk hh, ← h4, List.getElem?_take_of_lt hj]
      simp
    rw [Nat.zero_add]
    refine ⟨?_, ?_, ?_⟩
    · rw [e _ (by omega)]; exact hc.1
    · rw [e _ (by omega)]; exact hc.2.1
    · rw [e _ (by omega)]; exact hc.2.2
theorem eqX_same (v1 v2 : Value) (b1 b2 : Nat) (l : List Xx) (w : World) (hl : l.length ≤ 1000000) (h1 : w.ownsRow b1 47 3 v1 l.length (xcv l)) (h2 : w.ownsRow b2 47 3 v2 l.length (xcv l)) :
    Calls Tryd.prog 6 #[v1, v2] w fun e w' => e = .returned (.bool true) ∧ Below w.heap.size w w' := by
  obtain ⟨a1, c1, rfl, r1⟩ := rowX h1
  obtain ⟨a2, c2, rfl, r2⟩ := rowX h2
  exact eqExS_row a1 a2 c1 c2 l w (by omega) r1 r2

theorem own_grown {w w' : World} {base : Nat} {e : TypeId} {size : Nat} {v u : Value} {n : Nat} {xs : List Value} (h : w.ownsRow base e size v n xs) (hg : w.grownBy w' u.ownBlock) (hne : ∀ k, v.ownBlock = some k → u.ownBlock ≠ some k) : w'.ownsRow base e size v n xs :=
  h.kept hg (by
    cases hv : v.ownBlock with
    | none => exact .inl rfl
    | some k => exact .inr (fun e => hne k hv e.symm))

theorem mkx_kept {w w' : World} {v : Value} {k0 n : Nat} (h : MkX w v k0 n) (hb : Below w.heap.size w w') : MkX w' v k0 n := by
  obtain ⟨a, c, hv, h⟩ := h
  refine ⟨a, c, hv, ?_⟩
  rcases h with h | ⟨g, cur, ha, hh, r⟩
  · exact .inl h
  · exact .inr ⟨g, cur, ha, (hb.block g (Array.getElem?_eq_some_iff.1 hh).1).trans hh, r⟩

set_option maxHeartbeats 2000000 in
theorem walk (s : ByteArray) (w : World) (hs : s.size ≤ maxLen) (ht : SgTab w) :
    Calls Tryd.prog 3 #[.string s] w fun e w' => e = .returned (.bool true) ∧ Below w.heap.size w w' := by
  have hs' := hs
  unfold maxLen at hs'
  have hln := pxT_len s
  have HT := hide ht
  have HSp := hide (fun w' => specParseExpr_any s w' hs)
  have HIm := hide (fun w' h => ParseExpr_any s w' hs h)
  obtain ⟨R, hR⟩ : ∃ R, R = pxT s := ⟨_, rfl⟩
  rw [← hR] at hln HSp HIm
  obtain ⟨L, r1, r2⟩ := R
  simp only at hln
  clear hR ht
  by_cases hl : (1048576 : Int) < s.size
  · go_enter Tryd.func3, Tryd.ntmps3
    go_wp2_with fail
    go_ret
    exact ⟨rfl, Below.refl _ _⟩
  · go_enter Tryd.func3, Tryd.ntmps3
    go_wp2_with fail
    refine (HSp.out _).mono ?_
    rintro e w1 ⟨v1, rfl, ho1, hb1⟩
    simp only at ho1 ⊢
    have hB1 := hb1
    go_wp2_with fail
    refine (HIm.out _ (HT.out.below hB1)).mono ?_
    rintro e w2 ⟨v2, rfl, ho2, hb2⟩
    simp only at ho2 ⊢
    have ho12 := own_below ho1 hb2
    have hB2 : Below w.heap.size w w2 := hB1.trans (hb2.mono hB1.size)
    go_wp2_with fail
    refine (eqX_same v2 v1 _ _ L _ (by omega) ho2 ho12).mono ?_
    rintro e w3 ⟨rfl, hb3⟩
    have ho13 := own_below ho12 hb3
    have ho23 := own_below ho2 hb3
    have hB3 : Below w.heap.size w w3 := hB2.trans (hb3.mono hB2.size)
    have h21 : ∀ k, v1.ownBlock = some k → v2.ownBlock ≠ some k := fun k h1 h2 => by
      have a1 := (ho1.lt k h1).2
      have a2 := (ho2.lt k h2).1
      omega
    have h2w : ∀ k, v2.ownBlock = some k → w.heap.size ≤ k := fun k h2 => by
      have a2 := (ho2.lt k h2).1
      have := hB1.size
      omega
    clear ho1 ho2 ho12 hb1 hb2 hb3 hB1 hB2
    go_wp2_with fail
    refine (markExS_any v2 _ L.length 1 _ _ (by omega) (by omega) (by omega) ho23).mono ?_
    rintro e w4 ⟨rfl, hm4, hg4⟩
    have ho14 := own_grown ho13 hg4 h21
    have hB4 : Below w.heap.size w w4 := hB3.grown hg4 hB3.size h2w
    clear ho13 ho23 hg4 hB3 h21 h2w
    go_wp2_with fail
    refine (heldExS_any v2 L.length 1 _ (by omega) (by omega) (by omega) hm4).mono ?_
    rintro e w5 ⟨rfl, hb5⟩
    have hm5 := mkx_kept hm4 hb5
    have ho15 := own_below ho14 hb5
    have hB5 : Below w.heap.size w w5 := hB4.trans (hb5.mono hB4.size)
    clear hm4 ho14 hb5 hB4
    go_wp2_with fail
    refine (HIm.out _ (HT.out.below hB5)).mono ?_
    rintro e w6 ⟨v6, rfl, ho6, hb6⟩
    simp only at ho6 ⊢
    have ho16 := own_below ho15 hb6
    have hm6 := mkx_kept hm5 hb6
    have hB6 : Below w.heap.size w w6 := hB5.trans (hb6.mono hB5.size)
    clear hm5 ho15 hb6 hB5
    go_wp2_with fail
    refine (eqX_same v6 v1 _ _ L _ (by omega) ho6 ho16).mono ?_
    rintro e w7 ⟨rfl, hb7⟩
    have hm7 := mkx_kept hm6 hb7
    have hB7 : Below w.heap.size w w7 := hB6.trans (hb7.mono hB6.size)
    clear hm6 ho6 ho16 hb7 hB6
    go_wp2_with fail
    refine (heldExS_any v2 L.length 1 _ (by omega) (by omega) (by omega) hm7).mono ?_
    rintro e w8 ⟨rfl, hb8⟩
    have hB8 : Below w.heap.size w w8 := hB7.trans (hb8.mono hB7.size)
    clear hm7 hb8 hB7
    go_wp2_with fail
    go_ret
    exact ⟨rfl, hB8⟩

set_option maxRecDepth 100000 in
theorem lifted (os : Os) (started : os.Started) (H : Type) (enc : TypeId × Value → H) :
    ReturnsInHanded {} Tryd.checked os 3 .any (fun w args => (Rows.fnExactParseExprSpec.pre enc Tryd.prog Tryd.f3 [] false w args ∧ laidMetH Tryd.prog laidL w) ∧ sizedMet enc Tryd.prog Tryd.f3 (OpenSpec.ofChange Rows.fnExactParseExprSpec) false w args)
      (Rows.fnExactParseExprSpec.post enc Tryd.prog Tryd.f3 false true false false) := by
  refine returnsInHanded_of_change_and (C := Tryd.checked) (X := fun w _ => laidMetH Tryd.prog laidL w) (fun _ _ _ hh h => h.of_heap hh) own started (by kernel_rfl) Tryd.func3
    (ChangeSpec.witness_shaped (enc := enc) (C := Tryd.checked) (os := os) (X := fun w _ => laidMetH Tryd.prog laidL w) false (World.doorLaid Tryd.prog 26 os) #[.string ⟨#[]⟩] 8 rfl (World.shaped_of_RefB (by kernel_rfl) (by kernel_rfl)) (by kernel_rfl) (by kernel_rfl) (by kernel_rfl) (door_met os _)) ?_
  intro W base args ds gs before hval0 hW _ _ hL _
  have hval : ∀ (j : Nat) t v, Tryd.f3.params[j]? = some t → args[j]? = some v → Value.okWide Tryd.prog W .any base t v := hval0
  have hW' := hW
  obtain ⟨p, q, hA0, hV, rfl, hfz, hnd⟩ := hW
  have hV0 := hV
  have hA : DataW.TrodAll enc Tryd.prog W 0 (fun _ => true) true Tryd.f3.params.toList args.toList ds p := hA0
  rw [Tryd.params3] at hA hval
  obtain ⟨v0, d0, hargs, rfl, h0⟩ := trodAll_one hA
  obtain rfl : args = #[v0] := by cases args; simp_all
  obtain ⟨vd, rfl⟩ : ∃ vd, gs = [vd] := by obtain ⟨g, vt, vcs, vf, vd, vp, e, -⟩ := trodVars_one hV; exact ⟨vd, e⟩
  have k0 := h0
  have lt0 : ∀ x ∈ p, x.block < W.heap.size := by obtain ⟨m, hm⟩ := k0; exact DataW.trod_lt m _ _ _ hm
  obtain ⟨s, rfl, hd, hp, hs⟩ := open_string Tryd.underlying9 (hval 0 9 v0 rfl rfl) h0
  clear hA0 hval0
  refine (walk s W hs (sg_of_laid hL)).mono fun e W' ⟨he, bel⟩ => ?_
  subst he
  exact ⟨_, rfl, _, _, _, [], p, _, hW', trodAll_mk1 (shut_bool Tryd.underlying4 _), trodAll_mk1 (Below.trod laidOut (by kernel_rfl) (of_decide_eq_true (by kernel_rfl)) k0 bel lt0), Below.trodVars laidOut bel (by kernel_rfl) hV0, bel.frame _, fun h => by cases h⟩

theorem over : Rows.fnExactParseExprRow.holds Tryd.pinned (OpenSpec.ofChange Rows.fnExactParseExprSpec) :=
  OpenClaim.holds_of_wide 3 Tryd.f3 rfl rfl rfl rfl rfl rfl rfl ⟨rfl, rfl, rfl, rfl, rfl⟩ rfl rfl rfl rfl rfl (by kernel_rfl) Tryd.func3 (by kernel_rfl)
    (of_decide_eq_true (by kernel_rfl)) (by unfold Func.isWrapper; first | (rw [if_pos (by decide +kernel)]; kernel_rfl) | (rw [if_neg (by decide +kernel)]; exact ⟨rfl, rfl⟩))
    (fun os started H enc _ => lifted os started H enc)

theorem card : Rows.FnExactParseExprCardSaid :=
  Claim7.holds_tied_plain_at .later [] [.data] true Rows.fnExactParseExprCard.stood.harness false
    over (fun _ h => by cases h) (by kernel_rfl) (fun _ h => by cases h) fnExactParseExpr_row_tie rfl ⟨rfl, rfl⟩ (by kernel_rfl) rfl
    (fun f fn hf hfn => by
      obtain rfl : f = 3 := Option.some.inj ((show Tryd.prog.funcNamed Rows.fnExactParseExprRow.func = some 3 by kernel_rfl).symm.trans hf) |>.symm
      obtain rfl : fn = Tryd.f3 := (Option.some.inj (Tryd.func3.symm.trans hfn)).symm
      exact ⟨by kernel_rfl, fun j t ht => by
        rw [Tryd.params3] at ht
        have hm : t ∈ [9] := by simpa using Array.mem_of_getElem? ht
        have hall : ([9].all fun u => !Tryd.prog.wantsStandIn u) = true := by kernel_rfl
        exact (show Tryd.prog.wantsStandIn t = false by simpa using List.all_eq_true.1 hall t hm)⟩)
    (by kernel_rfl)
end Go.Proofs.YtmnicilgenpnfaaDoor.fnExactParseExpr

namespace Go.Proofs.YtmnicilgenpnfaaDoor
theorem fnExactParseExpr_card : Rows.FnExactParseExprCardSaid := fnExactParseExpr.card
#print axioms fnExactParseExpr_card
end Go.Proofs.YtmnicilgenpnfaaDoor

/-
  Proved: whatever the text, the memory and the schedule, the law FnExactLexText returns true, and the text reads afterwards as it read before: LexText of the program tells what the specification's tells, field by field, and its answer owns its memory, also behind another call. No conditions.
-/
import Derived.Test.YtfbllgjnahechaaLexS
import Derived.Test.YtfbllgjnahechaaTokM
import Derived.ChangeOld
import Derived.Below
namespace Go.Proofs.Ytfbllgjnahechaa.fnExactLexText
open Go.ChangeShapes Go.WideShapes Go.ChangeAt Go.RowKit
open Go.Proofs.Ytfbllgjnahechaa.W
open Go.ChangeMaps (open_string shut_string)
set_option linter.unusedVariables false

theorem own : ownKnob Try.prog.godebug = none := by kernel_rfl
theorem laidOut : laidOutB Try.prog = true := by kernel_rfl

theorem lexT_len (s : ByteArray) : (lexT s).1.length ≤ 120 := by
  have : ∀ f p out, out.length ≤ 120 → (lexGo s f p out).1.length ≤ 120 := by
    intro f
    induction f with
    | zero => intro p out h; exact h
    | succ f ih =>
      intro p out h
      by_cases hp : p < s.size
      · by_cases hb : blkB (s[p]'hp).toNat = true
        · simp only [lexGo, hp, dif_pos, hb, if_true]; exact ih _ _ h
        · simp only [lexGo, hp, dif_pos, hb]
          cases hw : wordAt s p with
          | none => simp
          | some d =>
            by_cases hn : out.length = 120
            · simp [hn]
            · simp only [hn, if_false]; exact ih _ _ (by simp; omega)
      · simp only [lexGo, hp, dif_neg, not_false_eq_true]; exact h
  unfold lexT
  split
  · simp
  · exact this _ _ _ (by simp)

theorem own_grown {w w' : World} {base : Nat} {e : TypeId} {size : Nat} {v u : Value} {n : Nat} {xs : List Value} (h : w.ownsRow base e size v n xs) (hg : w.grownBy w' u.ownBlock) (hne : ∀ k, v.ownBlock = some k → u.ownBlock ≠ some k) : w'.ownsRow base e size v n xs :=
  h.kept hg (by
    cases hv : v.ownBlock with
    | none => exact .inl rfl
    | some k => exact .inr (fun e => hne k hv e.symm))

theorem mkd_kept {w w' : World} {v : Value} {k0 n : Nat} (h : Mkd w v k0 n) (hb : Below w.heap.size w w') : Mkd w' v k0 n := by
  obtain ⟨a, c, hv, h⟩ := h
  refine ⟨a, c, hv, ?_⟩
  rcases h with h | ⟨g, cur, ha, hh, r⟩
  · exact .inl h
  · exact .inr ⟨g, cur, ha, (hb.block g (Array.getElem?_eq_some_iff.1 hh).1).trans hh, r⟩

set_option maxHeartbeats 2000000 in
theorem walk (s : ByteArray) (w : World) (hs : s.size ≤ maxLen) :
    Calls Try.prog 3 #[.string s] w fun e w' => e = .returned (.bool true) ∧ Below w.heap.size w w' := by
  have hs' := hs
  unfold maxLen at hs'
  have hln := lexT_len s
  by_cases hl : (1048576 : Int) < s.size
  · go_enter Try.func3, Try.ntmps3
    go_wp2_with fail
    go_ret
    exact ⟨rfl, Below.refl _ _⟩
  · go_enter Try.func3, Try.ntmps3
    go_wp2_with fail
    refine (specLex_any s _ hs).mono ?_
    rintro e w1 ⟨v1, rfl, ho1, hb1⟩
    have hB1 := hb1
    go_wp2_with fail
    refine (implLex_any s _ hs).mono ?_
    rintro e w2 ⟨v2, rfl, ho2, hb2⟩
    have ho12 := own_kept ho1 hb2
    have hB2 : Below w.heap.size w w2 := hB1.trans (hb2.mono hB1.size)
    go_wp2_with fail
    refine (eqTokenS_same v2 v1 _ _ (lexT s).1 _ (by omega) ho2 ho12).mono ?_
    rintro e w3 ⟨rfl, hb3⟩
    have ho13 := own_kept ho12 hb3
    have ho23 := own_kept ho2 hb3
    have hB3 : Below w.heap.size w w3 := hB2.trans (hb3.mono hB2.size)
    have h21 : ∀ k, v1.ownBlock = some k → v2.ownBlock ≠ some k := fun k h1 h2 => by
      have a1 := (ho1.lt k h1).2
      have a2 := (ho2.lt k h2).1
      omega
    have h2w : ∀ k, v2.ownBlock = some k → w.heap.size ≤ k := fun k h2 => by
      have a2 := (ho2.lt k h2).1
      have := hB1.size
      omega
    clear ho1 ho2 ho12 hb1 hb2 hb3 hB1 hB2
    go_wp2_with fail
    refine (markTokenS_any v2 _ (lexT s).1.length 1 _ _ (by omega) (by omega) (by omega) ho23).mono ?_
    rintro e w4 ⟨rfl, hm4, hg4⟩
    have ho14 := own_grown ho13 hg4 h21
    have hB4 : Below w.heap.size w w4 := hB3.grown hg4 hB3.size h2w
    clear ho13 ho23 hg4 hB3 h21 h2w
    go_wp2_with fail
    refine (heldTokenS_any v2 (lexT s).1.length 1 _ (by omega) (by omega) (by omega) hm4).mono ?_
    rintro e w5 ⟨rfl, hb5⟩
    have hm5 := mkd_kept hm4 hb5
    have ho15 := own_kept ho14 hb5
    have hB5 : Below w.heap.size w w5 := hB4.trans (hb5.mono hB4.size)
    clear hm4 ho14 hb5 hB4
    go_wp2_with fail
    refine (implLex_any s _ hs).mono ?_
    rintro e w6 ⟨v6, rfl, ho6, hb6⟩
    have ho16 := own_kept ho15 hb6
    have hm6 := mkd_kept hm5 hb6
    have hB6 : Below w.heap.size w w6 := hB5.trans (hb6.mono hB5.size)
    clear hm5 ho15 hb6 hB5
    go_wp2_with fail
    refine (eqTokenS_same v6 v1 _ _ (lexT s).1 _ (by omega) ho6 ho16).mono ?_
    rintro e w7 ⟨rfl, hb7⟩
    have hm7 := mkd_kept hm6 hb7
    have hB7 : Below w.heap.size w w7 := hB6.trans (hb7.mono hB6.size)
    clear hm6 ho6 ho16 hb7 hB6
    go_wp2_with fail
    refine (heldTokenS_any v2 (lexT s).1.length 1 _ (by omega) (by omega) (by omega) hm7).mono ?_
    rintro e w8 ⟨rfl, hb8⟩
    have hB8 : Below w.heap.size w w8 := hB7.trans (hb8.mono hB7.size)
    clear hm7 hb8 hB7
    go_wp2_with fail
    go_ret
    exact ⟨rfl, hB8⟩

set_option maxRecDepth 100000 in
theorem lifted (os : Os) (started : os.Started) (H : Type) (enc : TypeId × Value → H) :
    ReturnsInHanded {} Try.checked os 3 .any (Rows.fnExactLexTextSpec.pre6 enc Try.prog Try.f3 Rows.fnExactLexTextRow.domain false) (Rows.fnExactLexTextSpec.post enc Try.prog Try.f3 false true false false) := by
  refine returnsInHanded_of_change (C := Try.checked) own started (by kernel_rfl) Try.func3
    (ChangeSpec.witness6 (enc := enc) (C := Try.checked) false ⟨#[], #[.string ⟨#[]⟩], []⟩ 8 (by kernel_rfl) (by kernel_rfl) (by kernel_rfl) (by kernel_rfl)) ?_
  intro W base args ds gs before hval0 hW hcnd _
  have hval : ∀ (j : Nat) t v, Try.f3.params[j]? = some t → args[j]? = some v → Value.okWide Try.prog W .any base t v := hval0
  have hW' := hW
  obtain ⟨p, q, hA0, hV, rfl, hfz, hnd⟩ := hW
  have hA : DataW.TrodAll enc Try.prog W 0 (fun _ => true) true Try.f3.params.toList args.toList ds p := hA0
  rw [Try.params3] at hA hval
  obtain ⟨v0, d0, hargs, rfl, h0⟩ := trodAll_one hA
  obtain rfl : args = #[v0] := by cases args; simp_all
  obtain ⟨rfl, rfl⟩ := trodVars_none hV
  have k0 := h0
  have lt0 : ∀ x ∈ p, x.block < W.heap.size := by obtain ⟨m, hm⟩ := k0; exact DataW.trod_lt m _ _ _ hm
  obtain ⟨s, rfl, hd, hp, hs⟩ := open_string Try.underlying9 (hval 0 9 v0 rfl rfl) h0
  clear hA0 hval0
  refine (walk s W hs).mono fun e W' ⟨he, bel⟩ => ?_
  subst he
  exact ⟨_, rfl, _, _, _, [], p, [], hW', trodAll_mk1 (shut_bool Try.underlying4 _), trodAll_mk1 (Below.trod laidOut (by kernel_rfl) (of_decide_eq_true (by kernel_rfl)) k0 bel lt0), rfl, bel.frame _, fun h => by cases h⟩

theorem over : Rows.fnExactLexTextRow.holds Try.pinned (OpenSpec.ofChange Rows.fnExactLexTextSpec) :=
  OpenClaim.holds_of_wide 3 Try.f3 rfl rfl rfl rfl rfl rfl rfl ⟨rfl, rfl, rfl, rfl, rfl⟩ rfl rfl rfl rfl rfl (by kernel_rfl) Try.func3 (by kernel_rfl)
    (of_decide_eq_true (by kernel_rfl)) (by unfold Func.isWrapper; first | (rw [if_pos (by decide +kernel)]; kernel_rfl) | (rw [if_neg (by decide +kernel)]; exact ⟨rfl, rfl⟩))
    (fun os started H enc _ => lifted os started H enc)
end Go.Proofs.Ytfbllgjnahechaa.fnExactLexText

namespace Go.Proofs.Ytfbllgjnahechaa
theorem fnExactLexText_holds : Rows.FnExactLexTextSaid := fnExactLexText.over
#print axioms fnExactLexText_holds
end Go.Proofs.Ytfbllgjnahechaa

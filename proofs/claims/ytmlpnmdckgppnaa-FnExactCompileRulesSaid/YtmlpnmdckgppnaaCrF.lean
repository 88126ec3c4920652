/-
  Room for asks: a contract of slices.Grow at asks. Conditions: at most 1048576 asks.
-/
import Derived.Test.YtmlpnmdckgppnaaCrE
namespace Go.Proofs.Ytmlpnmdckgppnaa.W
open Go.ChangeShapes Go.WideShapes Go.ChangeAt Go.RowKit
set_option linter.unusedVariables false

set_option maxRecDepth 20000 in
set_option maxHeartbeats 2000000 in
theorem growA_any (n : Nat) (hn : n ≤ 1048576) (w : World) :
    Calls Try.prog 57 #[.slice none 0 0, .int .i64 (n : Int)] w fun e w' => ∃ v, e = .returned v ∧ w'.ownsRow w.heap.size 92 2 v 0 [] ∧ Below w.heap.size w w' := by
  by_cases h0 : 0 < n
  · have hby : Try.t92.bytes = 48 := by kernel_rfl
    have h48 : ¬ 281474976710656 < Builtin.nextslicecap n 0 * Try.t92.bytes := by rw [nextslicecap_zero h0, hby]; omega
    have h49 : (n : Int) * (Try.t92.bytes : Int) ≤ 281474976710656 := by rw [hby]; omega
    have hni : (0 : Int) < (n : Int) := by omega
    have hn0 : ¬ n = 0 := by omega
    have hn63 : (n : Int) ≤ 9223372036854775807 := by omega
    have hge : n ≤ grownCap w n 0 92 := grownCap_ge _ _ _ _
    have hle : grownCap w n 0 92 ≤ maxLen := grownCap_le_maxLen w n 0 _ (by unfold maxLen; omega)
    have HGe := hide hge
    have HLe := hide hle
    clear hby hge hle
    go_enter Try.func57, Try.ntmps57
    go_wp2_with fail
    have hge := HGe.out
    have hle := HLe.out
    unfold grownCap at hge hle
    go_ret
    exact ⟨_, rfl, ⟨rfl, .inr ⟨w.heap.size, _, _, rfl, Nat.le_refl _, heap_alloc_new w _, by omega, hle, by simp [size_zeroCells]; omega, by simp⟩⟩, ((Below.refl _ _).alloc (Nat.le_refl _) _).drew⟩
  · obtain rfl : n = 0 := by omega
    go_enter Try.func57, Try.ntmps57
    go_wp2_with fail
    go_ret
    exact ⟨_, rfl, World.ownsRow_nil _ _ _ _, Below.refl _ _⟩
/-- A slice of asks as what is put behind others: nothing, or cells that lie somewhere. -/
def PtA (w : World) (u : Value) (m : Nat) (vs : List Value) : Prop :=
  (u = .slice none 0 0 ∧ m = 0 ∧ vs = []) ∨ ∃ ad c, u = .slice (some ad) m c ∧ vs.length = m * 2 ∧ (∀ j x, vs[j]? = some x → w.cell? (ad.add j) = some x) ∧ (∀ x ∈ vs, x.oneCell' = true) ∧ (vs ≠ [] → ad.block < w.heap.size ∧ ∃ o, ad = ⟨ad.block, o, none⟩)
theorem PtA.below {w w' : World} {u : Value} {m : Nat} {vs : List Value} (h : PtA w u m vs) (hb : Below w.heap.size w w') : PtA w' u m vs := by
  rcases h with h | ⟨ad, c, h1, h2, h3, h4, h5⟩
  · exact .inl h
  · refine .inr ⟨ad, c, h1, h2, fun j x hx => ?_, h4, fun hne => ⟨Nat.lt_of_lt_of_le (h5 hne).1 hb.size, (h5 hne).2⟩⟩
    have hne : vs ≠ [] := by intro e; rw [e] at hx; simp at hx
    obtain ⟨h6, o, h7⟩ := h5 hne
    have := h3 j x hx
    rw [h7, Addr.add_lit] at this ⊢
    exact (hb.cell (p := ⟨ad.block, o + j, none⟩) h6).trans this
theorem wpList_append_part {w : World} {ops : Array Oper} {rest : List Oper} {o : Oper} {a : Act} {Q : Exit → Act → World → Prop} (hgd : o.guard = none) (s x : Operand)
    (ho : o.op = .call { callee := .builtin .append, args := #[s, x], argTypes := #[82, 82] })
    (base : Nat) (v : Value) (n : Nat) (xs : List Value) (hs : a.eval s = v) (hown : w.ownsRow base 92 2 v n xs) (u : Value) (m : Nat) (vs : List Value) (hx : a.eval x = u) (hu : PtA w u m vs) (hnm : n + m ≤ 1048576) (hbase : base ≤ w.heap.size)
    (h : ∀ v' w', w'.ownsRow base 92 2 v' (n + m) (xs ++ vs) → w.grownBy w' v.ownBlock → wpList Try.prog ops Q rest (a.put o.dst v') w') : wpList Try.prog ops Q (o :: rest) a w := by
  obtain ⟨i0, hi0, hz0, hz1, hz2⟩ := infoPartsT infoAsk
  refine wpList_plain hgd fun K hK => ?_
  rcases hu with ⟨rfl, rfl, rfl⟩ | ⟨ad, c, rfl, h2, h3, h4, -⟩
  · have hr := run_append_owned_none (P := Try.prog) (w := w) base 82 o.type 92 i0 2 Try.underlying82 hi0 v n xs hown
    unfold Oper.wp execOp
    simp only [ho, resolve, invoke, builtin, Sem.run_bind, Sem.run_pure, Result.andThen_ok, List.map_toArray, List.map_cons, List.map_nil, hs, hx, hr]
    exact hK _ _ (h v w (by simpa using hown) (World.grownBy.refl _ _))
  · obtain ⟨v', w', hr, g2, g3, -⟩ := run_append_sep (P := Try.prog) w base 82 o.type 92 i0 (.agg #[.slice none 0 0, .slice none 0 0]) 2 48 Try.underlying82 hi0 hz0 hz1 hz2 rfl (by decide) v n xs hown ad m c vs h2 h3 h4 (by unfold maxLen; omega) (by omega) hbase
    unfold Oper.wp execOp
    simp only [ho, resolve, invoke, builtin, Sem.run_bind, Sem.run_pure, Result.andThen_ok, List.map_toArray, List.map_cons, List.map_nil, hs, hx, hr]
    exact hK _ _ (h v' w' g2 g3)
end Go.Proofs.Ytmlpnmdckgppnaa.W

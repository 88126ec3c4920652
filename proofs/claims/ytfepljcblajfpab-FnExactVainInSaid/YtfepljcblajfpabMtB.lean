/-
  The specification's rows: appended to; l8Anys, l8Rows. Conditions: at most 2000 patterns; rules in memory.
-/
import Derived.Test.YtfepljcblajfpabMtA
namespace Go.Proofs.Ytfepljcblajfpab.W
open Go.ChangeShapes Go.WideShapes Go.ChangeAt Go.RowKit
set_option linter.unusedVariables false
set_option linter.unusedSimpArgs false

theorem infoR8 : (Try.prog.info? 70).map (fun i => (i.zero, i.size, i.bytes)) = some (some (.agg #[.slice none 0 0]), 1, 24) := by kernel_rfl
theorem run_appT (w : World) (ty : TypeId) (base : Nat) (v : Value) (n : Nat) (xs : List Value) (hown : w.ownsRow base 56 2 v n xs) (v2 : Value) (m : Nat) (news : List Value) (hs : Sc w v2 m 2 news) (hn : n + m ≤ 100000) (hbase : base ≤ w.heap.size) :
    ∃ v' w', (Builtin.append_ #[48, 48] ty #[v, v2]).run Try.prog w = .ok v' w' ∧ w'.ownsRow base 56 2 v' (n + m) (xs ++ news) ∧ w.grownBy w' v.ownBlock ∧ ∀ k, v'.ownBlock = some k → v.ownBlock = some k ∨ k = w.heap.size := by
  obtain ⟨i0, hi0, hz0, hz1, hz2⟩ := infoPartsT infoT
  exact run_app w 48 ty base 56 i0 _ 2 32 Try.underlying48 hi0 hz0 hz1 hz2 rfl (by decide) v n xs hown v2 m news hs (by unfold maxLen; omega) (by omega) hbase
theorem run_appR (w : World) (ty : TypeId) (base : Nat) (v : Value) (n : Nat) (xs : List Value) (hown : w.ownsRow base 70 1 v n xs) (v2 : Value) (m : Nat) (news : List Value) (hs : Sc w v2 m 1 news) (hn : n + m ≤ 100000) (hbase : base ≤ w.heap.size) :
    ∃ v' w', (Builtin.append_ #[52, 52] ty #[v, v2]).run Try.prog w = .ok v' w' ∧ w'.ownsRow base 70 1 v' (n + m) (xs ++ news) ∧ w.grownBy w' v.ownBlock ∧ ∀ k, v'.ownBlock = some k → v.ownBlock = some k ∨ k = w.heap.size := by
  obtain ⟨i0, hi0, hz0, hz1, hz2⟩ := infoPartsT infoR8
  exact run_app w 52 ty base 70 i0 _ 1 24 Try.underlying52 hi0 hz0 hz1 hz2 rfl (by decide) v n xs hown v2 m news hs (by unfold maxLen; omega) (by omega) hbase
theorem wp_appT {w : World} {o : Oper} {a : Act} {K : Act → World → Prop} {Q : Exit → Act → World → Prop} (s x : Operand) (ho : o.op = .call { callee := .builtin .append, args := #[s, x], argTypes := #[48, 48] })
    (base : Nat) (v : Value) (n : Nat) (xs : List Value) (hv : a.eval s = v) (hown : w.ownsRow base 56 2 v n xs) (v2 : Value) (m : Nat) (news : List Value) (hx : a.eval x = v2) (hs : Sc w v2 m 2 news) (hn : n + m ≤ 100000) (hbase : base ≤ w.heap.size)
    (h : ∀ v' w', w'.ownsRow base 56 2 v' (n + m) (xs ++ news) → w.grownBy w' v.ownBlock → (∀ k, v'.ownBlock = some k → v.ownBlock = some k ∨ k = w.heap.size) → K (a.put o.dst v') w') : o.wp Try.prog a w K Q := by
  obtain ⟨v', w', hr, h2, h3, h4⟩ := run_appT w o.type base v n xs hown v2 m news hs hn hbase
  unfold Oper.wp execOp
  simp only [ho, resolve, invoke, builtin, Sem.run_bind, Sem.run_pure, Result.andThen_ok, List.map_toArray, List.map_cons, List.map_nil, hv, hx, hr]
  exact h v' w' h2 h3 h4
theorem wp_appR {w : World} {o : Oper} {a : Act} {K : Act → World → Prop} {Q : Exit → Act → World → Prop} (s x : Operand) (ho : o.op = .call { callee := .builtin .append, args := #[s, x], argTypes := #[52, 52] })
    (base : Nat) (v : Value) (n : Nat) (xs : List Value) (hv : a.eval s = v) (hown : w.ownsRow base 70 1 v n xs) (v2 : Value) (m : Nat) (news : List Value) (hx : a.eval x = v2) (hs : Sc w v2 m 1 news) (hn : n + m ≤ 100000) (hbase : base ≤ w.heap.size)
    (h : ∀ v' w', w'.ownsRow base 70 1 v' (n + m) (xs ++ news) → w.grownBy w' v.ownBlock → (∀ k, v'.ownBlock = some k → v.ownBlock = some k ∨ k = w.heap.size) → K (a.put o.dst v') w') : o.wp Try.prog a w K Q := by
  obtain ⟨v', w', hr, h2, h3, h4⟩ := run_appR w o.type base v n xs hown v2 m news hs hn hbase
  unfold Oper.wp execOp
  simp only [ho, resolve, invoke, builtin, Sem.run_bind, Sem.run_pure, Result.andThen_ok, List.map_toArray, List.map_cons, List.map_nil, hv, hx, hr]
  exact h v' w' h2 h3 h4
theorem wpList_appT {w : World} {ops : Array Oper} {rest : List Oper} {o : Oper} {a : Act} {Q : Exit → Act → World → Prop} (hg : o.guard = none) (s x : Operand) (ho : o.op = .call { callee := .builtin .append, args := #[s, x], argTypes := #[48, 48] })
    (base : Nat) (v : Value) (n : Nat) (xs : List Value) (hv : a.eval s = v) (hown : w.ownsRow base 56 2 v n xs) (v2 : Value) (m : Nat) (news : List Value) (hx : a.eval x = v2) (hs : Sc w v2 m 2 news) (hn : n + m ≤ 100000) (hbase : base ≤ w.heap.size)
    (h : ∀ v' w', w'.ownsRow base 56 2 v' (n + m) (xs ++ news) → w.grownBy w' v.ownBlock → (∀ k, v'.ownBlock = some k → v.ownBlock = some k ∨ k = w.heap.size) → wpList Try.prog ops Q rest (a.put o.dst v') w') : wpList Try.prog ops Q (o :: rest) a w :=
  wpList_plain hg fun _ hK => wp_appT s x ho base v n xs hv hown v2 m news hx hs hn hbase (fun v' w' h1 h2 h3 => hK _ _ (h v' w' h1 h2 h3))
theorem wpList_appR {w : World} {ops : Array Oper} {rest : List Oper} {o : Oper} {a : Act} {Q : Exit → Act → World → Prop} (hg : o.guard = none) (s x : Operand) (ho : o.op = .call { callee := .builtin .append, args := #[s, x], argTypes := #[52, 52] })
    (base : Nat) (v : Value) (n : Nat) (xs : List Value) (hv : a.eval s = v) (hown : w.ownsRow base 70 1 v n xs) (v2 : Value) (m : Nat) (news : List Value) (hx : a.eval x = v2) (hs : Sc w v2 m 1 news) (hn : n + m ≤ 100000) (hbase : base ≤ w.heap.size)
    (h : ∀ v' w', w'.ownsRow base 70 1 v' (n + m) (xs ++ news) → w.grownBy w' v.ownBlock → (∀ k, v'.ownBlock = some k → v.ownBlock = some k ∨ k = w.heap.size) → wpList Try.prog ops Q rest (a.put o.dst v') w') : wpList Try.prog ops Q (o :: rest) a w :=
  wpList_plain hg fun _ hK => wp_appR s x ho base v n xs hv hown v2 m news hx hs hn hbase (fun v' w' h1 h2 h3 => hK _ _ (h v' w' h1 h2 h3))
theorem step_appT {w : World} {ops : Array Oper} {o : Oper} {a : Act} {K : Act → World → Prop} {Q : Exit → Act → World → Prop} {E : Prop} (hg : o.guard = none) (s x : Operand) (ho : o.op = .call { callee := .builtin .append, args := #[s, x], argTypes := #[48, 48] })
    (base : Nat) (v : Value) (n : Nat) (xs : List Value) (hv : a.eval s = v) (hown : w.ownsRow base 56 2 v n xs) (v2 : Value) (m : Nat) (news : List Value) (hx : a.eval x = v2) (hs : Sc w v2 m 2 news) (hn : n + m ≤ 100000) (hbase : base ≤ w.heap.size)
    (h : ∀ v' w', w'.ownsRow base 56 2 v' (n + m) (xs ++ news) → w.grownBy w' v.ownBlock → (∀ k, v'.ownBlock = some k → v.ownBlock = some k ∨ k = w.heap.size) → K (a.put o.dst v') w') : if Region.wanted o (yielded ops a.tmps) = true then Oper.wp Try.prog o a w K Q else E := by
  have hw : Region.wanted o (yielded ops a.tmps) = true := by simp [Region.wanted, hg]
  rw [if_pos hw]
  exact wp_appT s x ho base v n xs hv hown v2 m news hx hs hn hbase h
theorem step_appR {w : World} {ops : Array Oper} {o : Oper} {a : Act} {K : Act → World → Prop} {Q : Exit → Act → World → Prop} {E : Prop} (hg : o.guard = none) (s x : Operand) (ho : o.op = .call { callee := .builtin .append, args := #[s, x], argTypes := #[52, 52] })
    (base : Nat) (v : Value) (n : Nat) (xs : List Value) (hv : a.eval s = v) (hown : w.ownsRow base 70 1 v n xs) (v2 : Value) (m : Nat) (news : List Value) (hx : a.eval x = v2) (hs : Sc w v2 m 1 news) (hn : n + m ≤ 100000) (hbase : base ≤ w.heap.size)
    (h : ∀ v' w', w'.ownsRow base 70 1 v' (n + m) (xs ++ news) → w.grownBy w' v.ownBlock → (∀ k, v'.ownBlock = some k → v.ownBlock = some k ∨ k = w.heap.size) → K (a.put o.dst v') w') : if Region.wanted o (yielded ops a.tmps) = true then Oper.wp Try.prog o a w K Q else E := by
  have hw : Region.wanted o (yielded ops a.tmps) = true := by simp [Region.wanted, hg]
  rw [if_pos hw]
  exact wp_appR s x ho base v n xs hv hown v2 m news hx hs hn hbase h
theorem sc_block {w : World} {g size m : Nat} {cs : Array Value} {t : TypeId} (h : w.heap[g]? = some (.cells cs t (0, 0))) (hl : cs.size = m * size) (h1 : ∀ u ∈ cs.toList, u.oneCell' = true) (c : Nat) : Sc w (.slice (some ⟨g, 0, none⟩) m c) m size cs.toList :=
  ⟨by simpa using hl, h1, .inr ⟨_, _, rfl, fun j u hu => by rw [Addr.add_lit, Nat.zero_add, cell_of_blk h, ← hu]; simp⟩⟩

def anyC : Nat → List Value
  | 0 => []
  | n + 1 => anyC n ++ tC ⟨1, 0⟩ (.slice none 0 0)
theorem anys_app : ∀ n m : Nat, (anys n).app (anys m) = anys (n + m)
  | 0, m => by rw [Nat.zero_add]; rfl
  | n + 1, m => by rw [show n + 1 + m = (n + m) + 1 by omega, anys, F.app, anys_app n m, anys]
theorem anyC_at {w : World} {P : Nat → Prop} : ∀ n : Nat, GAt w P (anys n) (anyC n)
  | 0 => rfl
  | n + 1 => by
    rw [← anys_app n 1, anyC]
    refine GAt.app (anyC_at n) ⟨.slice none 0 0, [], by simp, ⟨[], rfl, .inl ⟨rfl, rfl⟩⟩, rfl⟩
theorem own_gt {w : World} {base n : Nat} {e : TypeId} {v : Value} {xs : List Value} {a : F} {P : Nat → Prop} (h : w.ownsRow base e 2 v n xs) (hn : n = a.len) (hg : GAt w P a xs) (hP : ∀ k, v.ownBlock = some k → base ≤ k → P k) : GT w P a v := by
  refine ⟨xs, hg, ?_⟩
  rcases h.2 with ⟨h1, h2⟩ | ⟨g, cap, cur, h1, hb, hh, h3, h4, h5, h6⟩
  · exact .inl ⟨h1, by omega⟩
  · refine .inr ⟨g, 0, cap, by rw [← hn]; exact h1, .inr ⟨hP g (by rw [h1]; rfl) hb, (Array.getElem?_eq_some_iff.1 hh).1⟩, fun j v hj => ?_⟩
    have hlt : j < n * 2 := by rw [← h.1]; exact (List.getElem?_eq_some_iff.1 hj).1
    rw [Nat.zero_add, cell_of_blk hh, ← hj, ← h6, List.getElem?_take_of_lt hlt]
    simp

set_option maxRecDepth 20000 in
set_option maxHeartbeats 4000000 in
theorem l8Anys_any (n : Nat) (w : World) (hn : n ≤ 2000) :
    Calls Try.prog 38 #[.int .i64 (n : Int)] w fun e w' => ∃ v', e = .returned v' ∧ w'.ownsRow w.heap.size 56 2 v' n (anyC n) ∧ Below w.heap.size w w' := by
  go_enter Try.func38, Try.ntmps38
  go_wp2_with fail
  go_loopw [0, 3] (fun t s w' => ∃ j : Nat, j ≤ n ∧ t = .int .i64 ((n - j : Nat) : Int) ∧ w'.ownsRow w.heap.size 56 2 s j (anyC j) ∧ Below w.heap.size w w') (fun t _ _ => (intOf t).toNat)
  case atStart => exact ⟨0, Nat.zero_le _, rfl, World.ownsRow_nil _ _ _ _, Below.refl _ _⟩
  case round =>
    obtain ⟨j, hj, rfl, hO, hB⟩ := hrel
    obtain ⟨sad, sc, hsf⟩ := own_form hO
    subst hsf
    have hol := hO.lt
    have HOl := hide hol
    have hsz := hB.size
    clear hol
    by_cases hlt : j < n
    · have hm1 : (0 : Int) < ((n - j : Nat) : Int) := by omega
      have hO1 := hO.alloc (.cells #[.int .i64 (-1), .slice none 0 0] 56)
      have HSc := hide (sc_block (m := 1) (size := 2) (heap_alloc_new wr (.cells #[.int .i64 (-1), .slice none 0 0] 56)) rfl (by simp [Value.oneCell']) 1)
      clear hO
      go_wp2_with (at_builtin; refine wpList_appT rfl _ _ rfl w.heap.size _ j (anyC j) rfl hO1 _ 1 _ rfl HSc.out ?c1 ?c2 ?_)
      case c1 => omega
      case c2 => first | omega | (simp; omega)
      intro v' w4 hown hgrow hap
      have hb4 : Below w.heap.size wr w4 := ((Below.refl _ _).alloc (by omega) _).grown hgrow (by simp; omega) (fun k hk => (HOl.out k hk).1)
      have HB4 : Hid (Below w.heap.size w w4) := hide (hB.trans hb4)
      have HO4 : Hid (w4.ownsRow w.heap.size 56 2 v' (j + 1) (anyC (j + 1))) := hide hown
      clear hown hgrow hap hO1 HSc hb4
      go_wp2_with fail
      exact ⟨⟨j + 1, by omega, by rw [show ((n - (j + 1) : Nat) : Int) = ((n - j : Nat) : Int) - 1 by omega], HO4.out, HB4.out⟩, by simp [intOf]; omega⟩
    · obtain rfl : j = n := by omega
      have HO := hide hO
      clear hO
      simp only [Nat.sub_self]
      go_wp2_with fail
      go_ret
      exact ⟨_, rfl, HO.out, hB⟩
end Go.Proofs.Ytfepljcblajfpab.W

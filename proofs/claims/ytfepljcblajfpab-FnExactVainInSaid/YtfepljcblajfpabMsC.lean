/-
  copy over rows of patterns' cells; a row with the parts of a constructor in the place of its first pattern: a contract of the program's opened. Conditions: good data, rows of at most 1000 cells.
-/
import Derived.Test.YtfepljcblajfpabMsA
import Derived.Laws.CopyOwn
namespace Go.Proofs.Ytfepljcblajfpab.W
open Go.ChangeShapes Go.WideShapes Go.ChangeAt Go.RowKit
set_option linter.unusedVariables false
set_option linter.unusedSimpArgs false

theorem run_copy_z {P : Program} (w : World) (dT sT ty elem : TypeId) (g o dLen dCap : Nat) (a : Addr) (sLen sCap z : Nat) (cur : Array Value) (t : TypeId) (cs : List Value)
    (hu : P.underlying dT = some (.slice elem)) (hs : (P.info? elem).map (·.size) = some z)
    (hg : w.heap[g]? = some (.cells cur t (0, 0))) (hn : cs.length = Nat.min sLen dLen * z)
    (hsrc : ∀ j v, cs[j]? = some v → w.cell? (a.add j) = some v) (hfit : o + cs.length ≤ cur.size) (h1 : ∀ v ∈ cs, v.oneCell' = true) :
    (Builtin.copy_ #[dT, sT] ty #[.slice (some ⟨g, o, none⟩) dLen dCap, .slice (some a) sLen sCap]).run P w =
      .ok (goInt (Nat.min sLen dLen)) (w.setRow g (cur.toList.take o ++ cs ++ cur.toList.drop (o + cs.length)).toArray) := by
  have hl := run_loadCells_list (P := P) w a cs hsrc
  have hst := run_storeCells_at P g o t cs 0 cur w hg (by simpa using hfit) h1
  cases hq : P.info? elem with
  | none => simp [hq] at hs
  | some i =>
    have hi : i.size = z := by simpa [hq] using hs
    simp [Builtin.copy_, run_underlying hu, Builtin.lenOf, Builtin.firstCells, sizeOf, typeInfo, hq, hi, ← hn, hl, hst]
theorem run_copy_z0 {P : Program} (w : World) (dT sT ty elem : TypeId) (d a : Option Addr) (dLen dCap sLen sCap z : Nat) (hu : P.underlying dT = some (.slice elem)) (hs : (P.info? elem).map (·.size) = some z) (hn : Nat.min sLen dLen = 0) :
    (Builtin.copy_ #[dT, sT] ty #[.slice d dLen dCap, .slice a sLen sCap]).run P w = .ok (goInt 0) w := by
  cases hq : P.info? elem with
  | none => simp [hq] at hs
  | some i =>
    cases d <;> cases a <;> simp [Builtin.copy_, run_underlying hu, Builtin.lenOf, Builtin.firstCells, sizeOf, typeInfo, hq, hn, storeCells, loadCells, loadCellsFrom]

/-- 'copy' at the call. -/
theorem copy_run_z {P : Program} {w : World} (z : Nat) (dT sT ty elem : TypeId) (hu : P.underlying dT = some (.slice elem)) (hsz : (P.info? elem).map (·.size) = some z)
    (dp sp : Option Addr) (dLen dCap sLen sCap : Nat)
    (g off : Nat) (cur : List Value) (t : TypeId) (hg : w.heap[g]? = some (.cells cur.toArray t (0, 0))) (cs : List Value) (hn : cs.length = Nat.min sLen dLen * z)
    (hpos : 0 < Nat.min sLen dLen → dp = some ⟨g, off, none⟩ ∧ ∃ ad, sp = some ad ∧ ∀ j v, cs[j]? = some v → w.cell? (ad.add j) = some v)
    (hfit : off + cs.length ≤ cur.length) (h1 : ∀ v ∈ cs, v.oneCell' = true) :
    ∃ w', (Builtin.copy_ #[dT, sT] ty #[.slice dp dLen dCap, .slice sp sLen sCap]).run P w = .ok (goInt (Nat.min sLen dLen)) w' ∧ w'.heap[g]? = some (.cells (cur.take off ++ (cs ++ cur.drop (off + cs.length))).toArray t (0, 0)) ∧ Oth g w w' := by
  by_cases h0 : Nat.min sLen dLen = 0
  · have hc : cs = [] := List.eq_nil_of_length_eq_zero (by rw [hn, h0]; simp)
    refine ⟨w, by rw [run_copy_z0 w dT sT ty elem dp sp dLen dCap sLen sCap z hu hsz h0, h0]; rfl, ?_, Oth.refl _ _⟩
    rw [hc]; simpa using hg
  · obtain ⟨rfl, ad, rfl, hsrc⟩ := hpos (by omega)
    refine ⟨_, run_copy_z w dT sT ty elem g off dLen dCap ad sLen sCap z cur.toArray t cs hu hsz hg hn hsrc (by simpa using hfit) h1, ?_, ?_⟩
    · have := setRow_heap w g _ ((cur.toArray.toList.take off ++ cs ++ cur.toArray.toList.drop (off + cs.length)).toArray) t _ hg
      simpa using this
    · exact ⟨rfl, rfl, rfl, by simp [World.setRow], fun k hk hne => setRow_other w g k _ hne⟩
theorem step_copy_z {P : Program} {ops : Array Oper} {o : Oper} {a : Act} {w : World} {K : Act → World → Prop} {Q : Exit → Act → World → Prop} {E : Prop} (hgd : o.guard = none) (d s : Operand) (dT sT : TypeId)
    (ho : o.op = .call { callee := .builtin .copy, args := #[d, s], argTypes := #[dT, sT] }) {v u : Value} (hd : a.eval d = v) (hs : a.eval s = u) {v' : Value} {w' : World}
    (hr : (Builtin.copy_ #[dT, sT] o.type #[v, u]).run P w = .ok v' w') (h : K (a.put o.dst v') w') :
    if Region.wanted o (yielded ops a.tmps) = true then Oper.wp P o a w K Q else E := by
  have hw : Region.wanted o (yielded ops a.tmps) = true := by simp [Region.wanted, hgd]
  rw [if_pos hw]
  unfold Oper.wp
  simp [execOp, ho, resolve, invoke, builtin, hd, hs, hr, Result.andThen]
  exact h
theorem wpList_copy_z {P : Program} {ops : Array Oper} {rest : List Oper} {o : Oper} {a : Act} {w : World} {Q : Exit → Act → World → Prop} (hgd : o.guard = none) (d s : Operand) (dT sT : TypeId)
    (ho : o.op = .call { callee := .builtin .copy, args := #[d, s], argTypes := #[dT, sT] }) {v u : Value} (hd : a.eval d = v) (hs : a.eval s = u) {v' : Value} {w' : World}
    (hr : (Builtin.copy_ #[dT, sT] o.type #[v, u]).run P w = .ok v' w') (h : wpList P ops Q rest (a.put o.dst v') w') : wpList P ops Q (o :: rest) a w := by
  refine wpList_plain hgd fun K hK => ?_
  unfold Oper.wp
  simp [execOp, ho, resolve, invoke, builtin, hd, hs, hr, Result.andThen]
  exact hK _ _ h

/-! rows as their cells -/
theorem rcells_take {α : Type} (z : Nat) (f : α → Nat → Value) (l : List α) (i : Nat) (h : i ≤ l.length) : (rcells z f l).take (i * z) = rcells z f (l.take i) := by
  have e : rcells z f l = rcells z f (l.take i) ++ rcells z f (l.drop i) := by rw [← rcells_app, List.take_append_drop]
  have hl : (rcells z f (l.take i)).length = i * z := by rw [rcells_len, List.length_take, Nat.min_eq_left h]
  rw [e, ← hl, List.take_left]
theorem rcells_drop {α : Type} (z : Nat) (f : α → Nat → Value) (l : List α) (i : Nat) (h : i ≤ l.length) : (rcells z f l).drop (i * z) = rcells z f (l.drop i) := by
  have e : rcells z f l = rcells z f (l.take i) ++ rcells z f (l.drop i) := by rw [← rcells_app, List.take_append_drop]
  have hl : (rcells z f (l.take i)).length = i * z := by rw [rcells_len, List.length_take, Nat.min_eq_left h]
  rw [e, ← hl, List.drop_left]
theorem rcells_splice {α : Type} (z : Nat) (f : α → Nat → Value) (m l : List α) (i : Nat) (h : i + l.length ≤ m.length) : (rcells z f m).take (i * z) ++ (rcells z f l ++ (rcells z f m).drop (i * z + (rcells z f l).length)) = rcells z f (m.take i ++ (l ++ m.drop (i + l.length))) := by
  rw [rcells_take z f m i (by omega), rcells_len, ← Nat.add_mul, rcells_drop z f m _ h, rcells_app, rcells_app]
theorem PtBlk.arr {w : World} {b : Nat} {m : List Pt} (h : PtBlk w b m) : w.heap[b]? = some (.cells (rcells 2 Pt.c m).toArray 67 (0, 0)) := by
  obtain ⟨cur, hh, hF⟩ := h
  rw [hh]
  congr 2
  apply Array.ext_getElem?
  intro i
  by_cases hi : i < m.length * 2
  · have h1 : i = (i / 2) * 2 + i % 2 := by omega
    have e1 := hF.2 (i / 2) (by omega) (by omega) (i % 2) (by omega)
    have e2 := rcells_at 2 Pt.c m (i / 2) (by omega) (i % 2) (by omega)
    rw [← h1] at e1 e2
    rw [e1, List.getElem?_toArray, e2]
  · rw [Array.getElem?_eq_none (by rw [hF.1]; omega), Array.getElem?_eq_none (by simp [rcells_len]; omega)]
theorem PtBlk.ofArr {w : World} {b : Nat} {m : List Pt} (h : w.heap[b]? = some (.cells (rcells 2 Pt.c m).toArray 67 (0, 0))) : PtBlk w b m :=
  ⟨_, h, by simp [rcells_len], fun i hi _ r hr => by rw [List.getElem?_toArray]; exact rcells_at 2 Pt.c m i hi r hr⟩
theorem PtBlk.other {w w' : World} {b g : Nat} {m : List Pt} (h : PtBlk w b m) (ho : Oth g w w') (hne : b ≠ g) : PtBlk w' b m := by
  obtain ⟨cur, hh, hF⟩ := h
  exact ⟨cur, (ho.block b (Array.getElem?_eq_some_iff.1 hh).1 hne).trans hh, hF⟩
theorem PtBlk.pv {w : World} {b : Nat} {m : List Pt} (h : PtBlk w b m) : PV w (.slice (some ⟨b, 0, none⟩) m.length m.length) m := ⟨_, _, rfl, h.row, Nat.le_refl _⟩
/-- The cells of a slice, as copy wants them. -/
theorem PtRow.news {w : World} {b o : Nat} {l : List Pt} (h : PtRow w (some ⟨b, o, none⟩) l) : ∀ j u, (rcells 2 Pt.c l)[j]? = some u → w.cell? ((⟨b, o, none⟩ : Addr).add j) = some u := by
  intro j u hu
  have hj : j < l.length * 2 := by
    have := (List.getElem?_eq_some_iff.1 hu).1
    rwa [rcells_len] at this
  have h1 : j = (j / 2) * 2 + j % 2 := by omega
  have e2 := rcells_at 2 Pt.c l (j / 2) (by omega) (j % 2) (by omega)
  rw [← h1, hu] at e2
  obtain ⟨b', o', e, -, h3⟩ := RRow.at h (Below.refl _ _) (i := j / 2) (by omega)
  simp only [Option.some.injEq, Addr.mk.injEq] at e
  obtain ⟨rfl, rfl, -⟩ := e
  have := h3 (j % 2) (by omega)
  rw [Addr.add_lit]
  rw [show o + j / 2 * 2 + j % 2 = o + j by omega] at this
  rw [this, e2]

theorem sizePt : (Try.prog.info? 67).map (·.size) = some 2 := by kernel_rfl

/-- What opened tells. -/
def OpOut (D : List Int) (c : Nat) (a : F) (w : World) (v : Value) (w' : World) (e : Ending) : Prop := ∃ ad n cc, e = .returned (.tuple #[.slice ad n cc, .bool (opn D c a).isSome]) ∧ (∀ q, (Value.slice ad n cc).ownBlock = some q → v.ownBlock = some q ∨ w.heap.size ≤ q) ∧ ∀ a', opn D c a = some a' → PV w' (.slice ad n cc) a'.flat

set_option maxRecDepth 20000 in
set_option maxHeartbeats 4000000 in
theorem opened_of (vd : Value) (D : List Int) (v : Value) (x : Pt) (k r : F) (c : Nat) (w : World) (hD : DRow w vd D) (hc : c < D.length) (hx : x.kd = 2) (hv : PV w v (F.cons x k r).flat) :
    Calls Try.prog 48 #[vd, v, .int .i64 (c : Int)] w fun e w' => OpOut D c (.cons x k r) w v w' e ∧ Below w.heap.size w w' := by
  obtain ⟨da, dc, rfl, -, hDl⟩ := hD
  have HV : Hid (PV w v (x :: (k.app r).flat)) := hide (by rw [F.app_flat]; exact hv)
  obtain ⟨b, o, cc, rfl, hb, hcc, p0, p1⟩ := HV.out.head ((Below.refl _ _).alloc (Nat.le_refl _) (.cells #[.slice da D.length dc] 31))
  clear hv
  have hop : opn D c (.cons x k r) = if x.con = (c : Int) then some (k.app r) else none := by rw [opn, if_neg (by omega)]
  have hops : (opn D c (.cons x k r)).isSome = decide (x.con = (c : Int)) := by
    rw [hop]; split <;> simp_all
  have HOps := hide hops
  have HOp := hide hop
  have HPt := hide (fun q hq => HV.out.tail q hq)
  obtain ⟨N, hN⟩ : ∃ N, N = (k.app r).flat.length + 1 := ⟨_, rfl⟩
  have HN := hide (show (k.app r).flat.length = N - 1 by omega)
  rw [← hN] at hcc ⊢
  rw [hx] at p0
  have hB : Below w.heap.size w (w.alloc (.cells #[.slice da D.length dc] 31)) := (Below.refl _ _).alloc (Nat.le_refl _) _
  have HB := hide hB
  have h1 : (1 : Int) ≤ (N : Int) := by omega
  have h2 : (N : Int) ≤ (cc : Int) := by omega
  have h3 : (1 : Int) ≤ (cc : Int) := by omega
  have h4 : (0 : Int) < (N : Int) := by omega
  have h5 : 0 < N := by omega
  obtain ⟨w0, hw0⟩ : ∃ w0, w0 = w.alloc (.cells #[.slice da D.length dc] 31) := ⟨_, rfl⟩
  rw [← hw0] at p0 p1 HB
  have hfin : ∀ q, (cc = 1 ∨ q = o + 2) → ∀ w', Below w.heap.size w w' → OpOut D c (.cons x k r) w (.slice (some ⟨b, o, none⟩) N cc) w' (.returned (.tuple #[.slice (some ⟨b, q, none⟩) (N - 1) (cc - 1), .bool (decide (x.con = (c : Int)))])) := by
    intro q hq w' hb'
    refine ⟨some ⟨b, q, none⟩, N - 1, cc - 1, by rw [HOps.out], fun q' hq' => .inl hq', fun a' ha => ?_⟩
    rw [HOp.out] at ha
    split at ha
    · simp only [Option.some.injEq] at ha
      subst ha
      have := (HPt.out q hq).below hb'
      rw [HN.out] at this
      exact this
    · cases ha
  have HFin := hide hfin
  clear hN hx hop hops hfin hB
  go_enter Try.func48, Try.ntmps48
  go_upto_region 1 with fail
  rw [← hw0]
  clear hw0
  by_cases hc1 : cc = 1
  · subst hc1
    obtain rfl : N = 1 := by omega
    go_wp2_with fail
    go_quiet (fail)
    go_wp2_with fail
    refine bodyPost_ret (v := .tuple #[.slice (some ⟨b, o, none⟩) (1 - 1) (1 - 1), .bool (x.con == (c : Int))]) (by simp [results, Try.results48, go_sem]) rfl ⟨?_, ⟨HB.out.os, HB.out.tape, HB.out.output, HB.out.size, HB.out.block⟩⟩
    have := HFin.out o (.inl (by simp)) _ (⟨HB.out.os, HB.out.tape, HB.out.output, HB.out.size, HB.out.block⟩ : Below w.heap.size w (w0.drewN nq))
    exact this
  · go_wp2_with fail
    go_quiet (fail)
    go_wp2_with fail
    refine bodyPost_ret (v := .tuple #[.slice (some ⟨b, o + 2, none⟩) (N - 1) (cc - 1), .bool (x.con == (c : Int))]) (by simp [results, Try.results48, go_sem]) rfl ⟨?_, ⟨HB.out.os, HB.out.tape, HB.out.output, HB.out.size, HB.out.block⟩⟩
    have := HFin.out (o + 2) (.inr rfl) _ (⟨HB.out.os, HB.out.tape, HB.out.output, HB.out.size, HB.out.block⟩ : Below w.heap.size w (w0.drewN nq))
    exact this
end Go.Proofs.Ytfepljcblajfpab.W

/-
  Machines in memory: what is read, what is one's own, what bears marks; contracts of the laws' functions over machines. Conditions: at most 1048576 elements a row.
-/
import Derived.Test.YtdajalchdbgooaaGreatRx
namespace Go.Proofs.YtdajalchdbgooaaGreat.W
open Go.ChangeShapes Go.WideShapes Go.ChangeAt Go.RowKit
set_option linter.unusedVariables false

structure Mc where
  done : Bool
  pl : Int
  env : Int
  val : Int
  fs : List Fm
  vs : List Vl
  bs : List Bd

/-- But for blocks from lo up to hi all is as it was; there may be new blocks. -/
structure Btw (lo hi : Nat) (w w' : World) : Prop where
  os : w'.os = w.os
  tape : w'.tape = w.tape
  output : w'.output = w.output
  size : w.heap.size ≤ w'.heap.size
  block : ∀ k, k < w.heap.size → (k < lo ∨ hi ≤ k) → w'.heap[k]? = w.heap[k]?
theorem Btw.refl (lo hi : Nat) (w : World) : Btw lo hi w w := ⟨rfl, rfl, rfl, Nat.le_refl _, fun _ _ _ => rfl⟩
theorem Btw.trans {lo hi : Nat} {x y z : World} (h : Btw lo hi x y) (k : Btw lo hi y z) : Btw lo hi x z :=
  ⟨k.os.trans h.os, k.tape.trans h.tape, k.output.trans h.output, Nat.le_trans h.size k.size, fun i hi hn => (k.block i (Nat.lt_of_lt_of_le hi h.size) hn).trans (h.block i hi hn)⟩
theorem Btw.ofBelow {lo hi : Nat} {x y : World} (h : Below x.heap.size x y) : Btw lo hi x y := ⟨h.os, h.tape, h.output, h.size, fun k hk _ => h.block k hk⟩
theorem Btw.ofGrown {lo hi : Nat} {x y : World} {row : Option Nat} (h : x.grownBy y row) (hr : ∀ k, row = some k → lo ≤ k ∧ k < hi) : Btw lo hi x y :=
  ⟨h.os, h.tape, h.output, h.size, fun k hk hn => h.block k hk (fun e => by have := hr k e.symm; omega)⟩
theorem Btw.below {lo hi : Nat} {x y : World} (h : Btw lo hi x y) (hl : lo ≤ x.heap.size) : Below lo x y := ⟨h.os, h.tape, h.output, h.size, fun k hk => h.block k (by omega) (.inl hk)⟩

/-- Blocks of one's own, from lo up to hi. -/
def Own (lo hi : Nat) (T : TypeId) (z : Nat) (w : World) (v : Value) (n : Nat) (xs : List Value) : Prop := w.ownsRow lo T z v n xs ∧ ∀ k, v.ownBlock = some k → k < hi
theorem Own.keep {lo hi : Nat} {T : TypeId} {z : Nat} {w w' : World} {v : Value} {n : Nat} {xs : List Value} (h : Own lo hi T z w v n xs) (hw : hi ≤ w.heap.size) (hk : ∀ k, lo ≤ k → k < hi → w'.heap[k]? = w.heap[k]?) : Own lo hi T z w' v n xs := by
  refine ⟨⟨h.1.1, ?_⟩, h.2⟩
  rcases h.1.2 with h2 | ⟨g, cap, cur, h1, hg, hh, h3⟩
  · exact .inl h2
  · exact .inr ⟨g, cap, cur, h1, hg, (hk g hg (h.2 g (by rw [h1]; rfl))).trans hh, h3⟩
theorem Own.wide {lo hi lo' hi' : Nat} {T : TypeId} {z : Nat} {w : World} {v : Value} {n : Nat} {xs : List Value} (h : Own lo hi T z w v n xs) (h1 : lo' ≤ lo) (h2 : hi ≤ hi') : Own lo' hi' T z w v n xs :=
  ⟨own_lower h.1 h1, fun k hk => Nat.lt_of_lt_of_le (h.2 k hk) h2⟩
theorem Own.ofOwn {lo : Nat} {T : TypeId} {z : Nat} {w : World} {v : Value} {n : Nat} {xs : List Value} (h : w.ownsRow lo T z v n xs) : Own lo w.heap.size T z w v n xs := by
  refine ⟨h, fun k hk => (h.lt k hk).2⟩
theorem RBlk.owns {α : Type} {T : TypeId} {z : Nat} {f : α → Nat → Value} {w : World} {b base : Nat} {l : List α} (h : RBlk T z f w b l) (hb : base ≤ b) (hl : l.length ≤ 1048576) : w.ownsRow base T z (.slice (some ⟨b, 0, none⟩) l.length l.length) l.length (rcells z f l) := by
  obtain ⟨cur, hh, hF⟩ := h
  refine ⟨rcells_len z f l, .inr ⟨b, l.length, cur, rfl, hb, hh, Nat.le_refl _, by unfold maxLen; omega, hF.1, ?_⟩⟩
  apply List.ext_getElem?
  intro i
  by_cases hi : i < l.length * z
  · have hz : 0 < z := by rcases Nat.eq_zero_or_pos z with e | e; · subst e; simp at hi
                          · exact e
    have h1 : i = (i / z) * z + i % z := by rw [Nat.mul_comm]; exact (Nat.div_add_mod i z).symm
    have h2 : i / z < l.length := Nat.div_lt_of_lt_mul (by rw [Nat.mul_comm]; exact hi)
    have h3 : i % z < z := Nat.mod_lt _ hz
    rw [List.getElem?_take_of_lt hi]
    have e1 := hF.2 (i / z) h2 h2 (i % z) h3
    have e2 := rcells_at z f l (i / z) h2 (i % z) h3
    rw [← h1] at e1 e2
    rw [e2]
    simpa using e1
  · rw [List.getElem?_eq_none (by rw [List.length_take]; simp [hF.1]; omega), List.getElem?_eq_none (by rw [rcells_len]; omega)]

/-- A machine that is read in memory. -/
def MRow (w : World) (v : Value) (m : Mc) : Prop := ∃ af cf av cv ab cb, v = .agg #[.bool m.done, .int .i64 m.pl, .int .i64 m.env, .int .i64 m.val, .slice af m.fs.length cf, .slice av m.vs.length cv, .slice ab m.bs.length cb] ∧
  FmRow w af m.fs ∧ VlRow w av m.vs ∧ BdRow w ab m.bs ∧ m.fs.length ≤ 1048576 ∧ m.vs.length ≤ 1048576 ∧ m.bs.length ≤ 1048576 ∧ m.fs.length ≤ cf ∧ m.vs.length ≤ cv ∧ m.bs.length ≤ cb
theorem MRow.below {w w' : World} {v : Value} {m : Mc} (h : MRow w v m) (hb : Below w.heap.size w w') : MRow w' v m := by
  obtain ⟨af, cf, av, cv, ab, cb, h0, h1, h2, h3, h4⟩ := h
  exact ⟨af, cf, av, cv, ab, cb, h0, h1.below hb, h2.below hb, h3.below hb, h4⟩
/-- A machine whose rows are one's own. -/
def MOwn (lo hi : Nat) (w : World) (v : Value) (m : Mc) : Prop := ∃ sf sv sb, v = .agg #[.bool m.done, .int .i64 m.pl, .int .i64 m.env, .int .i64 m.val, sf, sv, sb] ∧
  Own lo hi 93 4 w sf m.fs.length (rcells 4 Fm.c m.fs) ∧ Own lo hi 88 4 w sv m.vs.length (rcells 4 Vl.c m.vs) ∧ Own lo hi 85 2 w sb m.bs.length (rcells 2 Bd.c m.bs) ∧ m.fs.length ≤ 1048576 ∧ m.vs.length ≤ 1048576 ∧ m.bs.length ≤ 1048576
theorem own_cap {w : World} {base n size c : Nat} {ad : Option Addr} {e : TypeId} {xs : List Value} (h : w.ownsRow base e size (.slice ad n c) n xs) : n ≤ c := by
  rcases h.2 with ⟨h1, h2⟩ | ⟨g, cap, cur, h1, _, _, h2, _⟩
  · omega
  · simp only [Value.slice.injEq] at h1; omega
theorem MOwn.row {lo hi : Nat} {w : World} {v : Value} {m : Mc} (h : MOwn lo hi w v m) : MRow w v m := by
  obtain ⟨sf, sv, sb, h0, h1, h2, h3, h4, h5, h6⟩ := h
  obtain ⟨af, cf, rfl⟩ := own_form h1.1
  obtain ⟨av, cv, rfl⟩ := own_form h2.1
  obtain ⟨ab, cb, rfl⟩ := own_form h3.1
  exact ⟨af, cf, av, cv, ab, cb, h0, RRow.ofOwn h1.1 rfl, RRow.ofOwn h2.1 rfl, RRow.ofOwn h3.1 rfl, h4, h5, h6, own_cap h1.1, own_cap h2.1, own_cap h3.1⟩
theorem MOwn.keep {lo hi : Nat} {w w' : World} {v : Value} {m : Mc} (h : MOwn lo hi w v m) (hw : hi ≤ w.heap.size) (hk : ∀ k, lo ≤ k → k < hi → w'.heap[k]? = w.heap[k]?) : MOwn lo hi w' v m := by
  obtain ⟨sf, sv, sb, h0, h1, h2, h3, h4⟩ := h
  exact ⟨sf, sv, sb, h0, h1.keep hw hk, h2.keep hw hk, h3.keep hw hk, h4⟩
theorem MOwn.below {lo hi : Nat} {w w' : World} {v : Value} {m : Mc} (h : MOwn lo hi w v m) (hw : hi ≤ w.heap.size) (hb : Below w.heap.size w w') : MOwn lo hi w' v m := h.keep hw (fun k _ hk => hb.block k (by omega))
theorem MOwn.wide {lo hi lo' hi' : Nat} {w : World} {v : Value} {m : Mc} (h : MOwn lo hi w v m) (a : lo' ≤ lo) (b : hi ≤ hi') : MOwn lo' hi' w v m := by
  obtain ⟨sf, sv, sb, h0, h1, h2, h3, h4⟩ := h
  exact ⟨sf, sv, sb, h0, h1.wide a b, h2.wide a b, h3.wide a b, h4⟩

/-- A machine that bears marks from k0 on. -/
def MMk (w : World) (v : Value) (k0 : Nat) (m : Mc) : Prop := ∃ d p e x sf sv sb, v = .agg #[.bool d, .int .i64 p, .int .i64 e, .int .i64 x, sf, sv, sb] ∧
  RMk Fm.mv w sf 93 4 k0 m.fs.length ∧ RMk Vl.mv w sv 88 4 (k0 + m.fs.length * 4) m.vs.length ∧ RMk Bd.mv w sb 85 2 (k0 + m.fs.length * 4 + m.vs.length * 4) m.bs.length
theorem MMk.below {w w' : World} {v : Value} {k0 : Nat} {m : Mc} (h : MMk w v k0 m) (hb : Below w.heap.size w w') : MMk w' v k0 m := by
  obtain ⟨d, p, e, x, sf, sv, sb, h0, h1, h2, h3⟩ := h
  exact ⟨d, p, e, x, sf, sv, sb, h0, h1.below hb, h2.below hb, h3.below hb⟩
def mN (m : Mc) : Nat := m.fs.length * 4 + m.vs.length * 4 + m.bs.length * 2

set_option maxHeartbeats 1000000 in
theorem szMachine_any (af av ab : Option Addr) (nf nv nb cf cv cb : Nat) (d : Bool) (p e x left : Int) (w : World) (hf : nf ≤ maxLen) (hv : nv ≤ maxLen) (hb : nb ≤ maxLen) (h0 : 0 ≤ left) (h1 : left ≤ 1048576) :
    Calls Tryz.prog 5 #[.agg #[.bool d, .int .i64 p, .int .i64 e, .int .i64 x, .slice af nf cf, .slice av nv cv, .slice ab nb cb], .int .i64 left] w fun e w' => ∃ r : Int, e = .returned (.int .i64 r) ∧ (r < 0 ∨ 0 ≤ r ∧ r ≤ 1048576 ∧ nf ≤ 1048576 ∧ nv ≤ 1048576 ∧ nb ≤ 1048576) ∧ Below w.heap.size w w' := by
  go_enter Tryz.func5, Tryz.ntmps5
  go_wp2_with fail
  refine (szFrameS_any _ _ _ _ _ hf h0 h1).mono ?_
  rintro e w1 ⟨r, rfl, hr, hw⟩
  obtain rfl := hw.symm
  by_cases hneg : r < 0
  · clear hr
    go_wp2_with fail
    go_ret
    exact ⟨_, rfl, .inl (by omega), (Below.refl _ _).alloc (Nat.le_refl _) _⟩
  obtain ⟨r0, r1, r2⟩ := hr.resolve_left hneg
  clear hr
  go_wp2_with fail
  refine (szValS_any _ _ _ _ _ hv r0 r1).mono ?_
  rintro e w1 ⟨r', rfl, hr, hw⟩
  obtain rfl := hw.symm
  by_cases hneg : r' < 0
  · clear hr
    go_wp2_with fail
    go_ret
    exact ⟨_, rfl, .inl (by omega), (Below.refl _ _).alloc (Nat.le_refl _) _⟩
  obtain ⟨r0', r1', r2'⟩ := hr.resolve_left hneg
  clear hr
  go_wp2_with fail
  refine (szBindS_any _ _ _ _ _ hb r0' r1').mono ?_
  rintro e w1 ⟨r'', rfl, hr, hw⟩
  obtain rfl := hw.symm
  by_cases hneg : r'' < 0
  · clear hr
    go_wp2_with fail
    go_ret
    exact ⟨_, rfl, .inl (by omega), (Below.refl _ _).alloc (Nat.le_refl _) _⟩
  obtain ⟨q0, q1, q2⟩ := hr.resolve_left hneg
  clear hr
  go_wp2_with fail
  go_ret
  exact ⟨_, rfl, .inr ⟨q0, q1, r2, r2', q2⟩, (Below.refl _ _).alloc (Nat.le_refl _) _⟩

theorem bcell {W w1 : World} (hb : Below W.heap.size W w1) : (∀ b o, b < W.heap.size → w1.cell? ⟨b, o, none⟩ = W.cell? ⟨b, o, none⟩) ∧ (∀ b o, b < W.heap.size → w1.frozen? ⟨b, o, none⟩ = W.frozen? ⟨b, o, none⟩) :=
  ⟨fun b o h => hb.cell (p := ⟨b, o, none⟩) h, fun b o h => hb.frozen (p := ⟨b, o, none⟩) h⟩

set_option maxHeartbeats 2000000 in
theorem toMachine_any (v : Value) (m : Mc) (w : World) (h : MRow w v m) :
    Calls Tryz.prog 8 #[v] w fun e w' => ∃ v', e = .returned v' ∧ MOwn w.heap.size w'.heap.size w' v' m ∧ Below w.heap.size w w' := by
  obtain ⟨af, cf, av, cv, ab, cb, rfl, h1, h2, h3, h4, h5, h6, -, -, -⟩ := h
  have H1 := hide h1
  have H2 := hide h2
  have H3 := hide h3
  clear h1 h2 h3
  obtain ⟨d, p, e, x, fs, vs, bs⟩ := m
  simp only at h4 h5 h6 H1 H2 H3 ⊢
  go_enter Tryz.func8, Tryz.ntmps8
  go_wp2_with fail
  refine (toFrameS_any _ _ _ _ h4 (RRow.below H1.out ((((Below.refl _ _).alloc (Nat.le_refl _) _).alloc (by simp) _).alloc (by simp; omega) _))).mono ?_
  rintro e w1 ⟨rfl, hr1, hb1⟩
  have hB1 : Below w.heap.size w w1 := ((((Below.refl _ _).alloc (Nat.le_refl _) _).alloc (by simp) _).alloc (by simp; omega) _).trans (hb1.mono (by simp; omega))
  have hX := (((Bx.new w _ _).alloc _).alloc _).below hb1 (by simp; omega)
  have hY := ((Bx.new (w.alloc _) _ _).alloc _).below hb1 (by simp)
  have hZ := (Bx.new ((w.alloc _).alloc _) _ _).below hb1 (by simp)
  simp at hr1 hX hY hZ
  have hs1 := hr1.lt
  have HX := hide hX
  have HY := hide hY
  have HZ := hide hZ
  have HR1 := hide hr1
  have hcx := hX.c
  have hcz := hZ.c
  have hfz := hZ.f
  clear hr1 hb1 hX hY hZ
  go_wp2_with fail
  refine (toValS_any _ _ _ _ h5 (RRow.below H2.out (hB1.setCell (p := ⟨w.heap.size + 1 + 1, 4, none⟩) (by simp; omega) _))).mono ?_
  rintro e w2 ⟨rfl, hr2, hb2⟩
  have hB2 : Below w.heap.size w w2 := (hB1.setCell (p := ⟨w.heap.size + 1 + 1, 4, none⟩) (by simp; omega) _).trans (hb2.mono (by simp; have := hB1.size; omega))
  have HX2 := hide ((HX.out.setne _ 4 _ (by omega)).below hb2 (by simp; omega))
  have HY2 := hide ((HY.out.setne _ 4 _ (by omega)).below hb2 (by simp; omega))
  have HZ2 := hide ((HZ.out.set 4 _).below hb2 (by simp; omega))
  have HF2 := hide ((HR1.out.setne _ 4 _ (by omega)).below hb2)
  simp at hr2
  have hs2 := hr2.lt
  have HR2 := hide hr2
  clear hr2 hb2 hcx hcz hfz HX HY HZ HR1
  have hcx := HX2.out.c
  have hcz := HZ2.out.c
  have hfz := HZ2.out.f
  go_wp2_with fail
  refine (toBindS_any _ _ _ _ h6 (RRow.below H3.out (hB2.setCell (p := ⟨w.heap.size + 1 + 1, 5, none⟩) (by simp; omega) _))).mono ?_
  rintro e w3 ⟨rfl, hr3, hb3⟩
  have hB3 : Below w.heap.size w w3 := (hB2.setCell (p := ⟨w.heap.size + 1 + 1, 5, none⟩) (by simp; omega) _).trans (hb3.mono (by simp; have := hB2.size; omega))
  have HY3 := hide ((HY2.out.setne _ 5 _ (by omega)).below hb3 (by simp; omega))
  have HZ3 := hide ((HZ2.out.set 5 _).below hb3 (by simp; omega))
  have HF3 := hide ((HF2.out.setne _ 5 _ (by omega)).below hb3)
  have HV3 := hide ((HR2.out.setne _ 5 _ (by omega)).below hb3)
  simp at hr3
  have hs3 := hr3.lt
  have HR3 := hide hr3
  clear hr3 hb3 hcx hcz hfz HX2 HY2 HZ2 HF2 HR2
  have hcy := HY3.out.c
  have hcz := HZ3.out.c
  have hfy := HY3.out.f
  have hfz := HZ3.out.f
  go_wp2_with fail
  refine bodyPost_ret (v := .agg #[.bool d, .int .i64 p, .int .i64 e, .int .i64 x, .slice (some ⟨w.heap.size + 1 + 1 + 1, 0, none⟩) fs.length fs.length, .slice (some ⟨w1.heap.size, 0, none⟩) vs.length vs.length, .slice (some ⟨w2.heap.size, 0, none⟩) bs.length bs.length]) (by simp [results, Tryz.results8, go_sem, hcy]) rfl ⟨_, rfl, ?_, ?_⟩
  · have q1 := ((((((((HF3.out.setne (w.heap.size + 1 + 1) 6 (.slice (some ⟨w2.heap.size, 0, none⟩) bs.length bs.length) (by omega)).setne (w.heap.size + 1) 0 (.bool d) (by omega)).setne (w.heap.size + 1) 1 (.int .i64 p) (by omega)).setne (w.heap.size + 1) 2 (.int .i64 e) (by omega)).setne (w.heap.size + 1) 3 (.int .i64 x) (by omega)).setne (w.heap.size + 1) 4 (.slice (some ⟨w.heap.size + 1 + 1 + 1, 0, none⟩) fs.length fs.length) (by omega)).setne (w.heap.size + 1) 5 (.slice (some ⟨w1.heap.size, 0, none⟩) vs.length vs.length) (by omega)).setne (w.heap.size + 1) 6 (.slice (some ⟨w2.heap.size, 0, none⟩) bs.length bs.length) (by omega))
    have q2 := ((((((((HV3.out.setne (w.heap.size + 1 + 1) 6 (.slice (some ⟨w2.heap.size, 0, none⟩) bs.length bs.length) (by omega)).setne (w.heap.size + 1) 0 (.bool d) (by omega)).setne (w.heap.size + 1) 1 (.int .i64 p) (by omega)).setne (w.heap.size + 1) 2 (.int .i64 e) (by omega)).setne (w.heap.size + 1) 3 (.int .i64 x) (by omega)).setne (w.heap.size + 1) 4 (.slice (some ⟨w.heap.size + 1 + 1 + 1, 0, none⟩) fs.length fs.length) (by omega)).setne (w.heap.size + 1) 5 (.slice (some ⟨w1.heap.size, 0, none⟩) vs.length vs.length) (by omega)).setne (w.heap.size + 1) 6 (.slice (some ⟨w2.heap.size, 0, none⟩) bs.length bs.length) (by omega))
    have q3 := ((((((((HR3.out.setne (w.heap.size + 1 + 1) 6 (.slice (some ⟨w2.heap.size, 0, none⟩) bs.length bs.length) (by omega)).setne (w.heap.size + 1) 0 (.bool d) (by omega)).setne (w.heap.size + 1) 1 (.int .i64 p) (by omega)).setne (w.heap.size + 1) 2 (.int .i64 e) (by omega)).setne (w.heap.size + 1) 3 (.int .i64 x) (by omega)).setne (w.heap.size + 1) 4 (.slice (some ⟨w.heap.size + 1 + 1 + 1, 0, none⟩) fs.length fs.length) (by omega)).setne (w.heap.size + 1) 5 (.slice (some ⟨w1.heap.size, 0, none⟩) vs.length vs.length) (by omega)).setne (w.heap.size + 1) 6 (.slice (some ⟨w2.heap.size, 0, none⟩) bs.length bs.length) (by omega))
    exact ⟨_, _, _, rfl, Own.ofOwn (q1.owns (by omega) h4), Own.ofOwn (q2.owns (by omega) h5), Own.ofOwn (q3.owns (by omega) h6), h4, h5, h6⟩
  · exact (((((((hB3.setCell (p := ⟨w.heap.size + 1 + 1, 6, none⟩) (by simp; omega) _).setCell (p := ⟨w.heap.size + 1, 0, none⟩) (by simp) _).setCell (p := ⟨w.heap.size + 1, 1, none⟩) (by simp) _).setCell (p := ⟨w.heap.size + 1, 2, none⟩) (by simp) _).setCell (p := ⟨w.heap.size + 1, 3, none⟩) (by simp) _).setCell (p := ⟨w.heap.size + 1, 4, none⟩) (by simp) _).setCell (p := ⟨w.heap.size + 1, 5, none⟩) (by simp) _).setCell (p := ⟨w.heap.size + 1, 6, none⟩) (by simp) _

set_option maxHeartbeats 2000000 in
theorem eqMachine_row (v1 v2 : Value) (m : Mc) (w : World) (h1 : MRow w v1 m) (h2 : MRow w v2 m) :
    Calls Tryz.prog 10 #[v1, v2] w fun e w' => e = .returned (.bool true) ∧ Below w.heap.size w w' := by
  obtain ⟨af, cf, av, cv, ab, cb, rfl, a1, a2, a3, h4, h5, h6, -, -, -⟩ := h1
  obtain ⟨af', cf', av', cv', ab', cb', rfl, b1, b2, b3, -, -, -, -, -, -⟩ := h2
  have A1 := hide a1
  have A2 := hide a2
  have A3 := hide a3
  have B1 := hide b1
  have B2 := hide b2
  have B3 := hide b3
  clear a1 a2 a3 b1 b2 b3
  obtain ⟨d, p, e, x, fs, vs, bs⟩ := m
  simp only at h4 h5 h6 A1 A2 A3 B1 B2 B3 ⊢
  go_enter Tryz.func10, Tryz.ntmps10
  go_wp2_with fail
  have hB0 : Below w.heap.size w ((w.alloc (.cells #[.bool d, .int .i64 p, .int .i64 e, .int .i64 x, .slice af fs.length cf, .slice av vs.length cv, .slice ab bs.length cb] 34)).alloc (.cells #[.bool d, .int .i64 p, .int .i64 e, .int .i64 x, .slice af' fs.length cf', .slice av' vs.length cv', .slice ab' bs.length cb'] 34)) := ((Below.refl _ _).alloc (Nat.le_refl _) _).alloc (by simp) _
  refine (eqFrameS_row _ _ _ _ _ _ h4 (RRow.below A1.out hB0) (RRow.below B1.out hB0)).mono ?_
  rintro e w1 ⟨rfl, hb1⟩
  have hB1 : Below w.heap.size w w1 := hB0.trans (hb1.mono (by simp; omega))
  have hX := ((Bx.new w _ _).alloc _).below hb1 (by simp; omega)
  have hY := (Bx.new (w.alloc _) _ _).below hb1 (by simp)
  simp at hX hY
  have HX := hide hX
  have HY := hide hY
  have hcx := hX.c
  have hcy := hY.c
  have hxl := hX.lt
  have hyl := hY.lt
  clear hb1 hX hY hB0
  go_wp2_with fail
  refine (eqValS_row _ _ _ _ _ _ h5 (RRow.below A2.out hB1) (RRow.below B2.out hB1)).mono ?_
  rintro e w2 ⟨rfl, hb2⟩
  have hB2 : Below w.heap.size w w2 := hB1.trans (hb2.mono (by omega))
  have HX2 := HX.out.below hb2 hxl
  have HY2 := HY.out.below hb2 hyl
  clear hcx hcy hb2
  have hcx := HX2.c
  have hcy := HY2.c
  clear HX2 HY2 HX HY
  go_wp2_with fail
  refine (eqBindS_row _ _ _ _ _ _ h6 (RRow.below A3.out hB2) (RRow.below B3.out hB2)).mono ?_
  rintro e w3 ⟨rfl, hb3⟩
  have hB3 : Below w.heap.size w w3 := hB2.trans (hb3.mono hB2.size)
  clear hcx hcy hb3
  go_wp2_with fail
  go_ret
  exact ⟨rfl, hB3⟩

theorem RMk.keep {mv : Nat → Nat → Value} {w w' : World} {v : Value} {T : TypeId} {z k0 n : Nat} (h : RMk mv w v T z k0 n) (hk : ∀ k, v.ownBlock = some k → k < w.heap.size → w'.heap[k]? = w.heap[k]?) : RMk mv w' v T z k0 n := by
  obtain ⟨a, c, h1, h2 | ⟨g, cur, h3, h4, h5⟩⟩ := h
  · exact ⟨a, c, h1, .inl h2⟩
  · exact ⟨a, c, h1, .inr ⟨g, cur, h3, (hk g (by rw [h1, h3]; rfl) (Array.getElem?_eq_some_iff.1 h4).1).trans h4, h5⟩⟩
/-- Rows of two kinds lie in two blocks. -/
theorem own_apart {w : World} {b1 b2 n1 n2 z1 z2 : Nat} {T1 T2 : TypeId} {v1 v2 : Value} {x1 x2 : List Value} (h1 : w.ownsRow b1 T1 z1 v1 n1 x1) (h2 : w.ownsRow b2 T2 z2 v2 n2 x2) (hT : T1 ≠ T2) : ∀ k, v1.ownBlock = some k → v2.ownBlock ≠ some k := by
  intro k e1 e2
  rcases h1.2 with ⟨h, -⟩ | ⟨g, cap, cur, h, -, hh, -⟩
  · rw [h] at e1; cases e1
  · rcases h2.2 with ⟨h', -⟩ | ⟨g', cap', cur', h', -, hh', -⟩
    · rw [h'] at e2; cases e2
    · rw [h] at e1; rw [h'] at e2
      simp only [Value.ownBlock, Option.some.injEq] at e1 e2
      subst e1 e2
      rw [hh] at hh'
      simp only [Option.some.injEq, Obj.cells.injEq] at hh'
      exact hT hh'.2.1

set_option maxHeartbeats 2000000 in
theorem markMachine_any (v : Value) (m : Mc) (lo hi k0 : Nat) (w : World) (hk0 : k0 ≤ 10000000) (hw : hi ≤ w.heap.size) (h : MOwn lo hi w v m) :
    Calls Tryz.prog 13 #[v, .int .i64 (k0 : Int)] w fun e w' => e = .returned (.int .i64 ((k0 + mN m : Nat) : Int)) ∧ MMk w' v k0 m ∧ Btw lo hi w w' := by
  obtain ⟨sf, sv, sb, rfl, a1, a2, a3, h4, h5, h6⟩ := h
  have n1 : ∀ k, sf.ownBlock = some k → lo ≤ k ∧ k < hi := fun k hk => ⟨(a1.1.lt k hk).1, a1.2 k hk⟩
  have n2 : ∀ k, sv.ownBlock = some k → lo ≤ k ∧ k < hi := fun k hk => ⟨(a2.1.lt k hk).1, a2.2 k hk⟩
  have n3 : ∀ k, sb.ownBlock = some k → lo ≤ k ∧ k < hi := fun k hk => ⟨(a3.1.lt k hk).1, a3.2 k hk⟩
  have d12 := own_apart a1.1 a2.1 (by decide)
  have d13 := own_apart a1.1 a3.1 (by decide)
  have d23 := own_apart a2.1 a3.1 (by decide)
  have A1 := hide a1.1
  have A2 := hide a2.1
  have A3 := hide a3.1
  obtain ⟨af, cf, rfl⟩ := own_form a1.1
  obtain ⟨av, cv, rfl⟩ := own_form a2.1
  obtain ⟨ab, cb, rfl⟩ := own_form a3.1
  have N1 := hide n1
  have N2 := hide n2
  have N3 := hide n3
  have D12 := hide d12
  have D13 := hide d13
  have D23 := hide d23
  clear a1 a2 a3 n1 n2 n3 d12 d13 d23
  obtain ⟨d, p, e, x, fs, vs, bs⟩ := m
  simp only at h4 h5 h6 A1 A2 A3 N1 N2 N3 D12 D13 D23 ⊢
  obtain ⟨nf, hnf⟩ : ∃ nf, nf = fs.length := ⟨_, rfl⟩
  obtain ⟨nv, hnv⟩ : ∃ nv, nv = vs.length := ⟨_, rfl⟩
  obtain ⟨nb, hnb⟩ : ∃ nb, nb = bs.length := ⟨_, rfl⟩
  simp only [mN, MMk, ← hnf, ← hnv, ← hnb] at h4 h5 h6 A1 A2 A3 N1 N2 N3 D12 D13 D23 ⊢
  clear hnf hnv hnb
  go_enter Tryz.func13, Tryz.ntmps13
  go_wp2_with fail
  refine (markFrameS_any _ lo _ k0 _ _ h4 (by omega) (own_keep A1.out (fun k _ hk => Below.heap_alloc _ _ _ hk))).mono ?_
  rintro e w1 ⟨rfl, hm1, hg1⟩
  have hT1 : Btw lo hi w w1 := (Btw.ofBelow ((Below.refl _ _).alloc (Nat.le_refl _) _)).trans (Btw.ofGrown hg1 N1.out)
  have hX := Bx.new w #[.bool d, .int .i64 p, .int .i64 e, .int .i64 x, .slice af nf cf, .slice av nv cv, .slice ab nb cb] 34
  have hX1 : Bx w1 w.heap.size #[.bool d, .int .i64 p, .int .i64 e, .int .i64 x, .slice af nf cf, .slice av nv cv, .slice ab nb cb] 34 := (hg1.block _ (by simp) (fun e => by have := N1.out _ e.symm; omega)).trans hX
  have A2' := hide (own_grown (own_keep (w' := w.alloc (.cells #[.bool d, .int .i64 p, .int .i64 e, .int .i64 x, .slice af nf cf, .slice av nv cv, .slice ab nb cb] 34)) A2.out (fun k _ hk => Below.heap_alloc _ _ _ hk)) hg1 (fun k hk e => D12.out k e hk))
  have A3' := hide (own_grown (own_keep (w' := w.alloc (.cells #[.bool d, .int .i64 p, .int .i64 e, .int .i64 x, .slice af nf cf, .slice av nv cv, .slice ab nb cb] 34)) A3.out (fun k _ hk => Below.heap_alloc _ _ _ hk)) hg1 (fun k hk e => D13.out k e hk))
  have HM1 := hide hm1
  have HX1 := hide hX1
  have hcx := hX1.c
  have hs1 : w.heap.size < w1.heap.size := hX1.lt
  clear hX hX1 hg1 hm1 A1 A2 A3
  obtain ⟨k1, hk1⟩ : ∃ k1, k1 = k0 + nf * 4 := ⟨_, rfl⟩
  rw [← hk1]
  have HK1 := hide hk1
  have hk1' : k1 ≤ 20000000 := by omega
  clear hk1
  go_wp2_with fail
  refine (markValS_any _ lo _ k1 _ _ h5 (by omega) A2'.out).mono ?_
  rintro e w2 ⟨rfl, hm2, hg2⟩
  have hT2 : Btw lo hi w w2 := hT1.trans (Btw.ofGrown hg2 N2.out)
  have hX2 : Bx w2 w.heap.size #[.bool d, .int .i64 p, .int .i64 e, .int .i64 x, .slice af nf cf, .slice av nv cv, .slice ab nb cb] 34 := (hg2.block _ (by omega) (fun e => by have := N2.out _ e.symm; omega)).trans HX1.out
  have A3'' := hide (own_grown A3'.out hg2 (fun k hk e => D23.out k e hk))
  have HM1' := hide (HM1.out.grown hg2 (fun k hk e => D12.out k hk e))
  have HM2 := hide hm2
  have HX2 := hide hX2
  clear hcx
  have hcx := hX2.c
  have hs2 : w.heap.size < w2.heap.size := hX2.lt
  clear hX2 hg2 hm2 A2' A3' HM1 HX1
  obtain ⟨k2, hk2⟩ : ∃ k2, k2 = k1 + nv * 4 := ⟨_, rfl⟩
  rw [← hk2]
  have HK2 := hide hk2
  have hk2' : k2 ≤ 30000000 := by omega
  clear hk2
  go_wp2_with fail
  refine (markBindS_any _ lo _ k2 _ _ h6 (by omega) A3''.out).mono ?_
  rintro e w3 ⟨rfl, hm3, hg3⟩
  have hT3 : Btw lo hi w w3 := hT2.trans (Btw.ofGrown hg3 N3.out)
  have HM1'' := hide (HM1'.out.grown hg3 (fun k hk e => D13.out k hk e))
  have HM2' := hide (HM2.out.grown hg3 (fun k hk e => D23.out k hk e))
  have HM3 := hide hm3
  clear hcx hg3 hm3 A3'' HM1' HM2 HX2
  obtain ⟨k3, hk3⟩ : ∃ k3, k3 = k2 + nb * 2 := ⟨_, rfl⟩
  rw [← hk3]
  have HK3 := hide hk3
  clear hk3
  go_wp2_with fail
  go_ret
  have e1 := HK1.out
  have e2 := HK2.out
  have e3 := HK3.out
  exact ⟨ret_int (by rw [show k3 = k0 + (nf * 4 + nv * 4 + nb * 2) by omega]), ⟨d, p, e, x, _, _, _, rfl, HM1''.out, e1 ▸ HM2'.out, (show k0 + nf * 4 + nv * 4 = k2 by omega) ▸ HM3.out⟩, hT3⟩

set_option maxHeartbeats 2000000 in
theorem heldMachine_any (v : Value) (m : Mc) (k0 : Nat) (w : World) (hk0 : k0 ≤ 10000000) (h4 : m.fs.length ≤ 1048576) (h5 : m.vs.length ≤ 1048576) (h6 : m.bs.length ≤ 1048576) (h : MMk w v k0 m) :
    Calls Tryz.prog 14 #[v, .int .i64 (k0 : Int)] w fun e w' => e = .returned (.int .i64 ((k0 + mN m : Nat) : Int)) ∧ Below w.heap.size w w' := by
  obtain ⟨d', p', e', x', fs, vs, bs⟩ := m
  obtain ⟨d, p, e, x, sf, sv, sb, rfl, a1, a2, a3⟩ := h
  obtain ⟨nf, hnf⟩ : ∃ nf, nf = fs.length := ⟨_, rfl⟩
  obtain ⟨nv, hnv⟩ : ∃ nv, nv = vs.length := ⟨_, rfl⟩
  obtain ⟨nb, hnb⟩ : ∃ nb, nb = bs.length := ⟨_, rfl⟩
  simp only [mN, ← hnf, ← hnv, ← hnb] at h4 h5 h6 a1 a2 a3 ⊢
  clear hnf hnv hnb
  obtain ⟨k1, hk1⟩ : ∃ k1, k1 = k0 + nf * 4 := ⟨_, rfl⟩
  obtain ⟨k2, hk2⟩ : ∃ k2, k2 = k1 + nv * 4 := ⟨_, rfl⟩
  obtain ⟨k3, hk3⟩ : ∃ k3, k3 = k2 + nb * 2 := ⟨_, rfl⟩
  rw [← hk1] at a2 a3
  rw [← hk2] at a3
  rw [show k0 + (nf * 4 + nv * 4 + nb * 2) = k3 by omega]
  have A1 := hide a1
  have A2 := hide a2
  have A3 := hide a3
  obtain ⟨af, cf, rfl, -⟩ := a1
  obtain ⟨av, cv, rfl, -⟩ := a2
  obtain ⟨ab, cb, rfl, -⟩ := a3
  have HK1 := hide hk1
  have HK2 := hide hk2
  have HK3 := hide hk3
  have b1 : k1 ≤ 20000000 := by omega
  have b2 : k2 ≤ 30000000 := by omega
  clear hk1 hk2 hk3
  go_enter Tryz.func14, Tryz.ntmps14
  go_wp2_with fail
  have hB0 : Below w.heap.size w (w.alloc (.cells #[.bool d, .int .i64 p, .int .i64 e, .int .i64 x, .slice af nf cf, .slice av nv cv, .slice ab nb cb] 34)) := (Below.refl _ _).alloc (Nat.le_refl _) _
  refine (heldFrameS_any _ nf k0 _ h4 (by omega) (A1.out.below hB0)).mono ?_
  rintro e w1 ⟨rfl, hb1⟩
  have hB1 : Below w.heap.size w w1 := hB0.trans (hb1.mono (by simp))
  have hX := (Bx.new w _ _).below hb1 (by simp)
  have HX := hide hX
  have hcx := hX.c
  have hxl := hX.lt
  clear hb1 hX hB0
  rw [← HK1.out]
  have q1 : ¬ ((k1 : Nat) : Int) < 0 := by omega
  go_wp2_with fail
  refine (heldValS_any _ nv k1 _ h5 (by omega) (A2.out.below hB1)).mono ?_
  rintro e w2 ⟨rfl, hb2⟩
  have hB2 : Below w.heap.size w w2 := hB1.trans (hb2.mono hB1.size)
  have HX2 := HX.out.below hb2 hxl
  clear hcx hb2
  have hcx := HX2.c
  clear HX2 HX
  rw [← HK2.out]
  have q2 : ¬ ((k2 : Nat) : Int) < 0 := by omega
  go_wp2_with fail
  refine (heldBindS_any _ nb k2 _ h6 (by omega) (A3.out.below hB2)).mono ?_
  rintro e w3 ⟨rfl, hb3⟩
  have hB3 : Below w.heap.size w w3 := hB2.trans (hb3.mono hB2.size)
  clear hcx hb3
  rw [← HK3.out]
  have q3 : ¬ ((k3 : Nat) : Int) < 0 := by omega
  go_wp2_with fail
  go_ret
  exact ⟨rfl, hB3⟩
end Go.Proofs.YtdajalchdbgooaaGreat.W

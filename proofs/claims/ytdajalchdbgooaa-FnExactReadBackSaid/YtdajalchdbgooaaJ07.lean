/-
  Some texts of this proof in one: MaL, MaN, MaO.
-/
import Derived.Test.YtdajalchdbgooaaJ06
import Derived.Test.YtdajalchdbgooaaJ04
import Derived.Test.YtdajalchdbgooaaJ05
import Derived.Test.YtdajalchdbgooaaMaW
/-
  Machines in memory: what is read, what is one's own, what bears marks; contracts of the laws' functions over machines. Conditions: at most 1048576 elements a row.
-/
namespace Go.Proofs.Ytdajalchdbgooaa.W
open Go.ChangeShapes Go.WideShapes Go.ChangeAt Go.RowKit
set_option linter.unusedVariables false

structure Mc where
  done : Bool
  pl : Int
  env : Int
  val : Int
  fs : List Fm
  vs : List Vl
  bs : List Bd

/-- But for blocks from lo up to hi all is as it was; there may be new blocks. -/
structure Btw (lo hi : Nat) (w w' : World) : Prop where
  os : w'.os = w.os
  tape : w'.tape = w.tape
  output : w'.output = w.output
  size : w.heap.size ≤ w'.heap.size
  block : ∀ k, k < w.heap.size → (k < lo ∨ hi ≤ k) → w'.heap[k]? = w.heap[k]?
theorem Btw.refl (lo hi : Nat) (w : World) : Btw lo hi w w := ⟨rfl, rfl, rfl, Nat.le_refl _, fun _ _ _ => rfl⟩
theorem Btw.trans {lo hi : Nat} {x y z : World} (h : Btw lo hi x y) (k : Btw lo hi y z) : Btw lo hi x z :=
  ⟨k.os.trans h.os, k.tape.trans h.tape, k.output.trans h.output, Nat.le_trans h.size k.size, fun i hi hn => (k.block i (Nat.lt_of_lt_of_le hi h.size) hn).trans (h.block i hi hn)⟩
theorem Btw.ofBelow {lo hi : Nat} {x y : World} (h : Below x.heap.size x y) : Btw lo hi x y := ⟨h.os, h.tape, h.output, h.size, fun k hk _ => h.block k hk⟩
theorem Btw.ofGrown {lo hi : Nat} {x y : World} {row : Option Nat} (h : x.grownBy y row) (hr : ∀ k, row = some k → lo ≤ k ∧ k < hi) : Btw lo hi x y :=
  ⟨h.os, h.tape, h.output, h.size, fun k hk hn => h.block k hk (fun e => by have := hr k e.symm; omega)⟩
theorem Btw.below {lo hi : Nat} {x y : World} (h : Btw lo hi x y) (hl : lo ≤ x.heap.size) : Below lo x y := ⟨h.os, h.tape, h.output, h.size, fun k hk => h.block k (by omega) (.inl hk)⟩

/-- Blocks of one's own, from lo up to hi. -/
def Own (lo hi : Nat) (T : TypeId) (z : Nat) (w : World) (v : Value) (n : Nat) (xs : List Value) : Prop := w.ownsRow lo T z v n xs ∧ ∀ k, v.ownBlock = some k → k < hi
theorem Own.keep {lo hi : Nat} {T : TypeId} {z : Nat} {w w' : World} {v : Value} {n : Nat} {xs : List Value} (h : Own lo hi T z w v n xs) (hw : hi ≤ w.heap.size) (hk : ∀ k, lo ≤ k → k < hi → w'.heap[k]? = w.heap[k]?) : Own lo hi T z w' v n xs := by
  refine ⟨⟨h.1.1, ?_⟩, h.2⟩
  rcases h.1.2 with h2 | ⟨g, cap, cur, h1, hg, hh, h3⟩
  · exact .inl h2
  · exact .inr ⟨g, cap, cur, h1, hg, (hk g hg (h.2 g (by rw [h1]; rfl))).trans hh, h3⟩
theorem Own.wide {lo hi lo' hi' : Nat} {T : TypeId} {z : Nat} {w : World} {v : Value} {n : Nat} {xs : List Value} (h : Own lo hi T z w v n xs) (h1 : lo' ≤ lo) (h2 : hi ≤ hi') : Own lo' hi' T z w v n xs :=
  ⟨own_lower h.1 h1, fun k hk => Nat.lt_of_lt_of_le (h.2 k hk) h2⟩
theorem Own.ofOwn {lo : Nat} {T : TypeId} {z : Nat} {w : World} {v : Value} {n : Nat} {xs : List Value} (h : w.ownsRow lo T z v n xs) : Own lo w.heap.size T z w v n xs := by
  refine ⟨h, fun k hk => (h.lt k hk).2⟩
theorem RBlk.owns {α : Type} {T : TypeId} {z : Nat} {f : α → Nat → Value} {w : World} {b base : Nat} {l : List α} (h : RBlk T z f w b l) (hb : base ≤ b) (hl : l.length ≤ 1048576) : w.ownsRow base T z (.slice (some ⟨b, 0, none⟩) l.length l.length) l.length (rcells z f l) := by
  obtain ⟨cur, hh, hF⟩ := h
  refine ⟨rcells_len z f l, .inr ⟨b, l.length, cur, rfl, hb, hh, Nat.le_refl _, by unfold maxLen; omega, hF.1, ?_⟩⟩
  apply List.ext_getElem?
  intro i
  by_cases hi : i < l.length * z
  · have hz : 0 < z := by rcases Nat.eq_zero_or_pos z with e | e; · subst e; simp at hi
                          · exact e
    have h1 : i = (i / z) * z + i % z := by rw [Nat.mul_comm]; exact (Nat.div_add_mod i z).symm
    have h2 : i / z < l.length := Nat.div_lt_of_lt_mul (by rw [Nat.mul_comm]; exact hi)
    have h3 : i % z < z := Nat.mod_lt _ hz
    rw [List.getElem?_take_of_lt hi]
    have e1 := hF.2 (i / z) h2 h2 (i % z) h3
    have e2 := rcells_at z f l (i / z) h2 (i % z) h3
    rw [← h1] at e1 e2
    rw [e2]
    simpa using e1
  · rw [List.getElem?_eq_none (by rw [List.length_take]; simp [hF.1]; omega), List.getElem?_eq_none (by rw [rcells_len]; omega)]

/-- A machine that is read in memory. -/
def MRow (w : World) (v : Value) (m : Mc) : Prop := ∃ af cf av cv ab cb, v = .agg #[.bool m.done, .int .i64 m.pl, .int .i64 m.env, .int .i64 m.val, .slice af m.fs.length cf, .slice av m.vs.length cv, .slice ab m.bs.length cb] ∧
  FmRow w af m.fs ∧ VlRow w av m.vs ∧ BdRow w ab m.bs ∧ m.fs.length ≤ 1048576 ∧ m.vs.length ≤ 1048576 ∧ m.bs.length ≤ 1048576 ∧ m.fs.length ≤ cf ∧ m.vs.length ≤ cv ∧ m.bs.length ≤ cb
theorem MRow.below {w w' : World} {v : Value} {m : Mc} (h : MRow w v m) (hb : Below w.heap.size w w') : MRow w' v m := by
  obtain ⟨af, cf, av, cv, ab, cb, h0, h1, h2, h3, h4⟩ := h
  exact ⟨af, cf, av, cv, ab, cb, h0, h1.below hb, h2.below hb, h3.below hb, h4⟩
/-- A machine whose rows are one's own. -/
def MOwn (lo hi : Nat) (w : World) (v : Value) (m : Mc) : Prop := ∃ sf sv sb, v = .agg #[.bool m.done, .int .i64 m.pl, .int .i64 m.env, .int .i64 m.val, sf, sv, sb] ∧
  Own lo hi 96 4 w sf m.fs.length (rcells 4 Fm.c m.fs) ∧ Own lo hi 74 4 w sv m.vs.length (rcells 4 Vl.c m.vs) ∧ Own lo hi 124 2 w sb m.bs.length (rcells 2 Bd.c m.bs) ∧ m.fs.length ≤ 1048576 ∧ m.vs.length ≤ 1048576 ∧ m.bs.length ≤ 1048576
theorem own_cap {w : World} {base n size c : Nat} {ad : Option Addr} {e : TypeId} {xs : List Value} (h : w.ownsRow base e size (.slice ad n c) n xs) : n ≤ c := by
  rcases h.2 with ⟨h1, h2⟩ | ⟨g, cap, cur, h1, _, _, h2, _⟩
  · omega
  · simp only [Value.slice.injEq] at h1; omega
theorem MOwn.row {lo hi : Nat} {w : World} {v : Value} {m : Mc} (h : MOwn lo hi w v m) : MRow w v m := by
  obtain ⟨sf, sv, sb, h0, h1, h2, h3, h4, h5, h6⟩ := h
  obtain ⟨af, cf, rfl⟩ := own_form h1.1
  obtain ⟨av, cv, rfl⟩ := own_form h2.1
  obtain ⟨ab, cb, rfl⟩ := own_form h3.1
  exact ⟨af, cf, av, cv, ab, cb, h0, RRow.ofOwn h1.1 rfl, RRow.ofOwn h2.1 rfl, RRow.ofOwn h3.1 rfl, h4, h5, h6, own_cap h1.1, own_cap h2.1, own_cap h3.1⟩
theorem MOwn.keep {lo hi : Nat} {w w' : World} {v : Value} {m : Mc} (h : MOwn lo hi w v m) (hw : hi ≤ w.heap.size) (hk : ∀ k, lo ≤ k → k < hi → w'.heap[k]? = w.heap[k]?) : MOwn lo hi w' v m := by
  obtain ⟨sf, sv, sb, h0, h1, h2, h3, h4⟩ := h
  exact ⟨sf, sv, sb, h0, h1.keep hw hk, h2.keep hw hk, h3.keep hw hk, h4⟩
theorem MOwn.below {lo hi : Nat} {w w' : World} {v : Value} {m : Mc} (h : MOwn lo hi w v m) (hw : hi ≤ w.heap.size) (hb : Below w.heap.size w w') : MOwn lo hi w' v m := h.keep hw (fun k _ hk => hb.block k (by omega))
theorem MOwn.wide {lo hi lo' hi' : Nat} {w : World} {v : Value} {m : Mc} (h : MOwn lo hi w v m) (a : lo' ≤ lo) (b : hi ≤ hi') : MOwn lo' hi' w v m := by
  obtain ⟨sf, sv, sb, h0, h1, h2, h3, h4⟩ := h
  exact ⟨sf, sv, sb, h0, h1.wide a b, h2.wide a b, h3.wide a b, h4⟩

/-- A machine that bears marks from k0 on. -/
def MMk (w : World) (v : Value) (k0 : Nat) (m : Mc) : Prop := ∃ d p e x sf sv sb, v = .agg #[.bool d, .int .i64 p, .int .i64 e, .int .i64 x, sf, sv, sb] ∧
  RMk Fm.mv w sf 96 4 k0 m.fs.length ∧ RMk Vl.mv w sv 74 4 (k0 + m.fs.length * 4) m.vs.length ∧ RMk Bd.mv w sb 124 2 (k0 + m.fs.length * 4 + m.vs.length * 4) m.bs.length
theorem MMk.below {w w' : World} {v : Value} {k0 : Nat} {m : Mc} (h : MMk w v k0 m) (hb : Below w.heap.size w w') : MMk w' v k0 m := by
  obtain ⟨d, p, e, x, sf, sv, sb, h0, h1, h2, h3⟩ := h
  exact ⟨d, p, e, x, sf, sv, sb, h0, h1.below hb, h2.below hb, h3.below hb⟩
def mN (m : Mc) : Nat := m.fs.length * 4 + m.vs.length * 4 + m.bs.length * 2

set_option maxHeartbeats 1000000 in
theorem szMachine_any (af av ab : Option Addr) (nf nv nb cf cv cb : Nat) (d : Bool) (p e x left : Int) (w : World) (hf : nf ≤ maxLen) (hv : nv ≤ maxLen) (hb : nb ≤ maxLen) (h0 : 0 ≤ left) (h1 : left ≤ 1048576) :
    Calls Try.prog 19 #[.agg #[.bool d, .int .i64 p, .int .i64 e, .int .i64 x, .slice af nf cf, .slice av nv cv, .slice ab nb cb], .int .i64 left] w fun e w' => ∃ r : Int, e = .returned (.int .i64 r) ∧ (r < 0 ∨ 0 ≤ r ∧ r ≤ 1048576 ∧ nf ≤ 1048576 ∧ nv ≤ 1048576 ∧ nb ≤ 1048576) ∧ Below w.heap.size w w' := by
  go_enter Try.func19, Try.ntmps19
  go_wp2_with fail
  refine (szFrameS_any _ _ _ _ _ hf h0 h1).mono ?_
  rintro e w1 ⟨r, rfl, hr, hw⟩
  obtain rfl := hw.symm
  by_cases hneg : r < 0
  · clear hr
    go_wp2_with fail
    go_ret
    exact ⟨_, rfl, .inl (by omega), (Below.refl _ _).alloc (Nat.le_refl _) _⟩
  obtain ⟨r0, r1, r2⟩ := hr.resolve_left hneg
  clear hr
  go_wp2_with fail
  refine (szValS_any _ _ _ _ _ hv r0 r1).mono ?_
  rintro e w1 ⟨r', rfl, hr, hw⟩
  obtain rfl := hw.symm
  by_cases hneg : r' < 0
  · clear hr
    go_wp2_with fail
    go_ret
    exact ⟨_, rfl, .inl (by omega), (Below.refl _ _).alloc (Nat.le_refl _) _⟩
  obtain ⟨r0', r1', r2'⟩ := hr.resolve_left hneg
  clear hr
  go_wp2_with fail
  refine (szBindS_any _ _ _ _ _ hb r0' r1').mono ?_
  rintro e w1 ⟨r'', rfl, hr, hw⟩
  obtain rfl := hw.symm
  by_cases hneg : r'' < 0
  · clear hr
    go_wp2_with fail
    go_ret
    exact ⟨_, rfl, .inl (by omega), (Below.refl _ _).alloc (Nat.le_refl _) _⟩
  obtain ⟨q0, q1, q2⟩ := hr.resolve_left hneg
  clear hr
  go_wp2_with fail
  go_ret
  exact ⟨_, rfl, .inr ⟨q0, q1, r2, r2', q2⟩, (Below.refl _ _).alloc (Nat.le_refl _) _⟩

theorem bcell {W w1 : World} (hb : Below W.heap.size W w1) : (∀ b o, b < W.heap.size → w1.cell? ⟨b, o, none⟩ = W.cell? ⟨b, o, none⟩) ∧ (∀ b o, b < W.heap.size → w1.frozen? ⟨b, o, none⟩ = W.frozen? ⟨b, o, none⟩) :=
  ⟨fun b o h => hb.cell (p := ⟨b, o, none⟩) h, fun b o h => hb.frozen (p := ⟨b, o, none⟩) h⟩

set_option maxHeartbeats 2000000 in
theorem toMachine_any (v : Value) (m : Mc) (w : World) (h : MRow w v m) :
    Calls Try.prog 21 #[v] w fun e w' => ∃ v', e = .returned v' ∧ MOwn w.heap.size w'.heap.size w' v' m ∧ Below w.heap.size w w' := by
  obtain ⟨af, cf, av, cv, ab, cb, rfl, h1, h2, h3, h4, h5, h6, -, -, -⟩ := h
  have H1 := hide h1
  have H2 := hide h2
  have H3 := hide h3
  clear h1 h2 h3
  obtain ⟨d, p, e, x, fs, vs, bs⟩ := m
  simp only at h4 h5 h6 H1 H2 H3 ⊢
  go_enter Try.func21, Try.ntmps21
  go_wp2_with fail
  refine (toFrameS_any _ _ _ _ h4 (RRow.below H1.out ((((Below.refl _ _).alloc (Nat.le_refl _) _).alloc (by simp) _).alloc (by simp; omega) _))).mono ?_
  rintro e w1 ⟨rfl, hr1, hb1⟩
  have hB1 : Below w.heap.size w w1 := ((((Below.refl _ _).alloc (Nat.le_refl _) _).alloc (by simp) _).alloc (by simp; omega) _).trans (hb1.mono (by simp; omega))
  have hX := (((Bx.new w _ _).alloc _).alloc _).below hb1 (by simp; omega)
  have hY := ((Bx.new (w.alloc _) _ _).alloc _).below hb1 (by simp)
  have hZ := (Bx.new ((w.alloc _).alloc _) _ _).below hb1 (by simp)
  simp at hr1 hX hY hZ
  have hs1 := hr1.lt
  have HX := hide hX
  have HY := hide hY
  have HZ := hide hZ
  have HR1 := hide hr1
  have hcx := hX.c
  have hcz := hZ.c
  have hfz := hZ.f
  clear hr1 hb1 hX hY hZ
  go_wp2_with fail
  refine (toValS_any _ _ _ _ h5 (RRow.below H2.out (hB1.setCell (p := ⟨w.heap.size + 1 + 1, 4, none⟩) (by simp; omega) _))).mono ?_
  rintro e w2 ⟨rfl, hr2, hb2⟩
  have hB2 : Below w.heap.size w w2 := (hB1.setCell (p := ⟨w.heap.size + 1 + 1, 4, none⟩) (by simp; omega) _).trans (hb2.mono (by simp; have := hB1.size; omega))
  have HX2 := hide ((HX.out.setne _ 4 _ (by omega)).below hb2 (by simp; omega))
  have HY2 := hide ((HY.out.setne _ 4 _ (by omega)).below hb2 (by simp; omega))
  have HZ2 := hide ((HZ.out.set 4 _).below hb2 (by simp; omega))
  have HF2 := hide ((HR1.out.setne _ 4 _ (by omega)).below hb2)
  simp at hr2
  have hs2 := hr2.lt
  have HR2 := hide hr2
  clear hr2 hb2 hcx hcz hfz HX HY HZ HR1
  have hcx := HX2.out.c
  have hcz := HZ2.out.c
  have hfz := HZ2.out.f
  go_wp2_with fail
  refine (toBindS_any _ _ _ _ h6 (RRow.below H3.out (hB2.setCell (p := ⟨w.heap.size + 1 + 1, 5, none⟩) (by simp; omega) _))).mono ?_
  rintro e w3 ⟨rfl, hr3, hb3⟩
  have hB3 : Below w.heap.size w w3 := (hB2.setCell (p := ⟨w.heap.size + 1 + 1, 5, none⟩) (by simp; omega) _).trans (hb3.mono (by simp; have := hB2.size; omega))
  have HY3 := hide ((HY2.out.setne _ 5 _ (by omega)).below hb3 (by simp; omega))
  have HZ3 := hide ((HZ2.out.set 5 _).below hb3 (by simp; omega))
  have HF3 := hide ((HF2.out.setne _ 5 _ (by omega)).below hb3)
  have HV3 := hide ((HR2.out.setne _ 5 _ (by omega)).below hb3)
  simp at hr3
  have hs3 := hr3.lt
  have HR3 := hide hr3
  clear hr3 hb3 hcx hcz hfz HX2 HY2 HZ2 HF2 HR2
  have hcy := HY3.out.c
  have hcz := HZ3.out.c
  have hfy := HY3.out.f
  have hfz := HZ3.out.f
  go_wp2_with fail
  refine bodyPost_ret (v := .agg #[.bool d, .int .i64 p, .int .i64 e, .int .i64 x, .slice (some ⟨w.heap.size + 1 + 1 + 1, 0, none⟩) fs.length fs.length, .slice (some ⟨w1.heap.size, 0, none⟩) vs.length vs.length, .slice (some ⟨w2.heap.size, 0, none⟩) bs.length bs.length]) (by simp [results, Try.results21, go_sem, hcy]) rfl ⟨_, rfl, ?_, ?_⟩
  · have q1 := ((((((((HF3.out.setne (w.heap.size + 1 + 1) 6 (.slice (some ⟨w2.heap.size, 0, none⟩) bs.length bs.length) (by omega)).setne (w.heap.size + 1) 0 (.bool d) (by omega)).setne (w.heap.size + 1) 1 (.int .i64 p) (by omega)).setne (w.heap.size + 1) 2 (.int .i64 e) (by omega)).setne (w.heap.size + 1) 3 (.int .i64 x) (by omega)).setne (w.heap.size + 1) 4 (.slice (some ⟨w.heap.size + 1 + 1 + 1, 0, none⟩) fs.length fs.length) (by omega)).setne (w.heap.size + 1) 5 (.slice (some ⟨w1.heap.size, 0, none⟩) vs.length vs.length) (by omega)).setne (w.heap.size + 1) 6 (.slice (some ⟨w2.heap.size, 0, none⟩) bs.length bs.length) (by omega))
    have q2 := ((((((((HV3.out.setne (w.heap.size + 1 + 1) 6 (.slice (some ⟨w2.heap.size, 0, none⟩) bs.length bs.length) (by omega)).setne (w.heap.size + 1) 0 (.bool d) (by omega)).setne (w.heap.size + 1) 1 (.int .i64 p) (by omega)).setne (w.heap.size + 1) 2 (.int .i64 e) (by omega)).setne (w.heap.size + 1) 3 (.int .i64 x) (by omega)).setne (w.heap.size + 1) 4 (.slice (some ⟨w.heap.size + 1 + 1 + 1, 0, none⟩) fs.length fs.length) (by omega)).setne (w.heap.size + 1) 5 (.slice (some ⟨w1.heap.size, 0, none⟩) vs.length vs.length) (by omega)).setne (w.heap.size + 1) 6 (.slice (some ⟨w2.heap.size, 0, none⟩) bs.length bs.length) (by omega))
    have q3 := ((((((((HR3.out.setne (w.heap.size + 1 + 1) 6 (.slice (some ⟨w2.heap.size, 0, none⟩) bs.length bs.length) (by omega)).setne (w.heap.size + 1) 0 (.bool d) (by omega)).setne (w.heap.size + 1) 1 (.int .i64 p) (by omega)).setne (w.heap.size + 1) 2 (.int .i64 e) (by omega)).setne (w.heap.size + 1) 3 (.int .i64 x) (by omega)).setne (w.heap.size + 1) 4 (.slice (some ⟨w.heap.size + 1 + 1 + 1, 0, none⟩) fs.length fs.length) (by omega)).setne (w.heap.size + 1) 5 (.slice (some ⟨w1.heap.size, 0, none⟩) vs.length vs.length) (by omega)).setne (w.heap.size + 1) 6 (.slice (some ⟨w2.heap.size, 0, none⟩) bs.length bs.length) (by omega))
    exact ⟨_, _, _, rfl, Own.ofOwn (q1.owns (by omega) h4), Own.ofOwn (q2.owns (by omega) h5), Own.ofOwn (q3.owns (by omega) h6), h4, h5, h6⟩
  · exact (((((((hB3.setCell (p := ⟨w.heap.size + 1 + 1, 6, none⟩) (by simp; omega) _).setCell (p := ⟨w.heap.size + 1, 0, none⟩) (by simp) _).setCell (p := ⟨w.heap.size + 1, 1, none⟩) (by simp) _).setCell (p := ⟨w.heap.size + 1, 2, none⟩) (by simp) _).setCell (p := ⟨w.heap.size + 1, 3, none⟩) (by simp) _).setCell (p := ⟨w.heap.size + 1, 4, none⟩) (by simp) _).setCell (p := ⟨w.heap.size + 1, 5, none⟩) (by simp) _).setCell (p := ⟨w.heap.size + 1, 6, none⟩) (by simp) _

set_option maxHeartbeats 2000000 in
theorem eqMachine_row (v1 v2 : Value) (m : Mc) (w : World) (h1 : MRow w v1 m) (h2 : MRow w v2 m) :
    Calls Try.prog 12 #[v1, v2] w fun e w' => e = .returned (.bool true) ∧ Below w.heap.size w w' := by
  obtain ⟨af, cf, av, cv, ab, cb, rfl, a1, a2, a3, h4, h5, h6, -, -, -⟩ := h1
  obtain ⟨af', cf', av', cv', ab', cb', rfl, b1, b2, b3, -, -, -, -, -, -⟩ := h2
  have A1 := hide a1
  have A2 := hide a2
  have A3 := hide a3
  have B1 := hide b1
  have B2 := hide b2
  have B3 := hide b3
  clear a1 a2 a3 b1 b2 b3
  obtain ⟨d, p, e, x, fs, vs, bs⟩ := m
  simp only at h4 h5 h6 A1 A2 A3 B1 B2 B3 ⊢
  go_enter Try.func12, Try.ntmps12
  go_wp2_with fail
  have hB0 : Below w.heap.size w ((w.alloc (.cells #[.bool d, .int .i64 p, .int .i64 e, .int .i64 x, .slice af fs.length cf, .slice av vs.length cv, .slice ab bs.length cb] 28)).alloc (.cells #[.bool d, .int .i64 p, .int .i64 e, .int .i64 x, .slice af' fs.length cf', .slice av' vs.length cv', .slice ab' bs.length cb'] 28)) := ((Below.refl _ _).alloc (Nat.le_refl _) _).alloc (by simp) _
  refine (eqFrameS_row _ _ _ _ _ _ h4 (RRow.below A1.out hB0) (RRow.below B1.out hB0)).mono ?_
  rintro e w1 ⟨rfl, hb1⟩
  have hB1 : Below w.heap.size w w1 := hB0.trans (hb1.mono (by simp; omega))
  have hX := ((Bx.new w _ _).alloc _).below hb1 (by simp; omega)
  have hY := (Bx.new (w.alloc _) _ _).below hb1 (by simp)
  simp at hX hY
  have HX := hide hX
  have HY := hide hY
  have hcx := hX.c
  have hcy := hY.c
  have hxl := hX.lt
  have hyl := hY.lt
  clear hb1 hX hY hB0
  go_wp2_with fail
  refine (eqValS_row _ _ _ _ _ _ h5 (RRow.below A2.out hB1) (RRow.below B2.out hB1)).mono ?_
  rintro e w2 ⟨rfl, hb2⟩
  have hB2 : Below w.heap.size w w2 := hB1.trans (hb2.mono (by omega))
  have HX2 := HX.out.below hb2 hxl
  have HY2 := HY.out.below hb2 hyl
  clear hcx hcy hb2
  have hcx := HX2.c
  have hcy := HY2.c
  clear HX2 HY2 HX HY
  go_wp2_with fail
  refine (eqBindS_row _ _ _ _ _ _ h6 (RRow.below A3.out hB2) (RRow.below B3.out hB2)).mono ?_
  rintro e w3 ⟨rfl, hb3⟩
  have hB3 : Below w.heap.size w w3 := hB2.trans (hb3.mono hB2.size)
  clear hcx hcy hb3
  go_wp2_with fail
  go_ret
  exact ⟨rfl, hB3⟩

theorem RMk.keep {mv : Nat → Nat → Value} {w w' : World} {v : Value} {T : TypeId} {z k0 n : Nat} (h : RMk mv w v T z k0 n) (hk : ∀ k, v.ownBlock = some k → k < w.heap.size → w'.heap[k]? = w.heap[k]?) : RMk mv w' v T z k0 n := by
  obtain ⟨a, c, h1, h2 | ⟨g, cur, h3, h4, h5⟩⟩ := h
  · exact ⟨a, c, h1, .inl h2⟩
  · exact ⟨a, c, h1, .inr ⟨g, cur, h3, (hk g (by rw [h1, h3]; rfl) (Array.getElem?_eq_some_iff.1 h4).1).trans h4, h5⟩⟩
/-- Rows of two kinds lie in two blocks. -/
theorem own_apart {w : World} {b1 b2 n1 n2 z1 z2 : Nat} {T1 T2 : TypeId} {v1 v2 : Value} {x1 x2 : List Value} (h1 : w.ownsRow b1 T1 z1 v1 n1 x1) (h2 : w.ownsRow b2 T2 z2 v2 n2 x2) (hT : T1 ≠ T2) : ∀ k, v1.ownBlock = some k → v2.ownBlock ≠ some k := by
  intro k e1 e2
  rcases h1.2 with ⟨h, -⟩ | ⟨g, cap, cur, h, -, hh, -⟩
  · rw [h] at e1; cases e1
  · rcases h2.2 with ⟨h', -⟩ | ⟨g', cap', cur', h', -, hh', -⟩
    · rw [h'] at e2; cases e2
    · rw [h] at e1; rw [h'] at e2
      simp only [Value.ownBlock, Option.some.injEq] at e1 e2
      subst e1 e2
      rw [hh] at hh'
      simp only [Option.some.injEq, Obj.cells.injEq] at hh'
      exact hT hh'.2.1

set_option maxHeartbeats 2000000 in
theorem markMachine_any (v : Value) (m : Mc) (lo hi k0 : Nat) (w : World) (hk0 : k0 ≤ 10000000) (hw : hi ≤ w.heap.size) (h : MOwn lo hi w v m) :
    Calls Try.prog 15 #[v, .int .i64 (k0 : Int)] w fun e w' => e = .returned (.int .i64 ((k0 + mN m : Nat) : Int)) ∧ MMk w' v k0 m ∧ Btw lo hi w w' := by
  obtain ⟨sf, sv, sb, rfl, a1, a2, a3, h4, h5, h6⟩ := h
  have n1 : ∀ k, sf.ownBlock = some k → lo ≤ k ∧ k < hi := fun k hk => ⟨(a1.1.lt k hk).1, a1.2 k hk⟩
  have n2 : ∀ k, sv.ownBlock = some k → lo ≤ k ∧ k < hi := fun k hk => ⟨(a2.1.lt k hk).1, a2.2 k hk⟩
  have n3 : ∀ k, sb.ownBlock = some k → lo ≤ k ∧ k < hi := fun k hk => ⟨(a3.1.lt k hk).1, a3.2 k hk⟩
  have d12 := own_apart a1.1 a2.1 (by decide)
  have d13 := own_apart a1.1 a3.1 (by decide)
  have d23 := own_apart a2.1 a3.1 (by decide)
  have A1 := hide a1.1
  have A2 := hide a2.1
  have A3 := hide a3.1
  obtain ⟨af, cf, rfl⟩ := own_form a1.1
  obtain ⟨av, cv, rfl⟩ := own_form a2.1
  obtain ⟨ab, cb, rfl⟩ := own_form a3.1
  have N1 := hide n1
  have N2 := hide n2
  have N3 := hide n3
  have D12 := hide d12
  have D13 := hide d13
  have D23 := hide d23
  clear a1 a2 a3 n1 n2 n3 d12 d13 d23
  obtain ⟨d, p, e, x, fs, vs, bs⟩ := m
  simp only at h4 h5 h6 A1 A2 A3 N1 N2 N3 D12 D13 D23 ⊢
  obtain ⟨nf, hnf⟩ : ∃ nf, nf = fs.length := ⟨_, rfl⟩
  obtain ⟨nv, hnv⟩ : ∃ nv, nv = vs.length := ⟨_, rfl⟩
  obtain ⟨nb, hnb⟩ : ∃ nb, nb = bs.length := ⟨_, rfl⟩
  simp only [mN, MMk, ← hnf, ← hnv, ← hnb] at h4 h5 h6 A1 A2 A3 N1 N2 N3 D12 D13 D23 ⊢
  clear hnf hnv hnb
  go_enter Try.func15, Try.ntmps15
  go_wp2_with fail
  refine (markFrameS_any _ lo _ k0 _ _ h4 (by omega) (own_keep A1.out (fun k _ hk => Below.heap_alloc _ _ _ hk))).mono ?_
  rintro e w1 ⟨rfl, hm1, hg1⟩
  have hT1 : Btw lo hi w w1 := (Btw.ofBelow ((Below.refl _ _).alloc (Nat.le_refl _) _)).trans (Btw.ofGrown hg1 N1.out)
  have hX := Bx.new w #[.bool d, .int .i64 p, .int .i64 e, .int .i64 x, .slice af nf cf, .slice av nv cv, .slice ab nb cb] 28
  have hX1 : Bx w1 w.heap.size #[.bool d, .int .i64 p, .int .i64 e, .int .i64 x, .slice af nf cf, .slice av nv cv, .slice ab nb cb] 28 := (hg1.block _ (by simp) (fun e => by have := N1.out _ e.symm; omega)).trans hX
  have A2' := hide (own_grown (own_keep (w' := w.alloc (.cells #[.bool d, .int .i64 p, .int .i64 e, .int .i64 x, .slice af nf cf, .slice av nv cv, .slice ab nb cb] 28)) A2.out (fun k _ hk => Below.heap_alloc _ _ _ hk)) hg1 (fun k hk e => D12.out k e hk))
  have A3' := hide (own_grown (own_keep (w' := w.alloc (.cells #[.bool d, .int .i64 p, .int .i64 e, .int .i64 x, .slice af nf cf, .slice av nv cv, .slice ab nb cb] 28)) A3.out (fun k _ hk => Below.heap_alloc _ _ _ hk)) hg1 (fun k hk e => D13.out k e hk))
  have HM1 := hide hm1
  have HX1 := hide hX1
  have hcx := hX1.c
  have hs1 : w.heap.size < w1.heap.size := hX1.lt
  clear hX hX1 hg1 hm1 A1 A2 A3
  obtain ⟨k1, hk1⟩ : ∃ k1, k1 = k0 + nf * 4 := ⟨_, rfl⟩
  rw [← hk1]
  have HK1 := hide hk1
  have hk1' : k1 ≤ 20000000 := by omega
  clear hk1
  go_wp2_with fail
  refine (markValS_any _ lo _ k1 _ _ h5 (by omega) A2'.out).mono ?_
  rintro e w2 ⟨rfl, hm2, hg2⟩
  have hT2 : Btw lo hi w w2 := hT1.trans (Btw.ofGrown hg2 N2.out)
  have hX2 : Bx w2 w.heap.size #[.bool d, .int .i64 p, .int .i64 e, .int .i64 x, .slice af nf cf, .slice av nv cv, .slice ab nb cb] 28 := (hg2.block _ (by omega) (fun e => by have := N2.out _ e.symm; omega)).trans HX1.out
  have A3'' := hide (own_grown A3'.out hg2 (fun k hk e => D23.out k e hk))
  have HM1' := hide (HM1.out.grown hg2 (fun k hk e => D12.out k hk e))
  have HM2 := hide hm2
  have HX2 := hide hX2
  clear hcx
  have hcx := hX2.c
  have hs2 : w.heap.size < w2.heap.size := hX2.lt
  clear hX2 hg2 hm2 A2' A3' HM1 HX1
  obtain ⟨k2, hk2⟩ : ∃ k2, k2 = k1 + nv * 4 := ⟨_, rfl⟩
  rw [← hk2]
  have HK2 := hide hk2
  have hk2' : k2 ≤ 30000000 := by omega
  clear hk2
  go_wp2_with fail
  refine (markBindS_any _ lo _ k2 _ _ h6 (by omega) A3''.out).mono ?_
  rintro e w3 ⟨rfl, hm3, hg3⟩
  have hT3 : Btw lo hi w w3 := hT2.trans (Btw.ofGrown hg3 N3.out)
  have HM1'' := hide (HM1'.out.grown hg3 (fun k hk e => D13.out k hk e))
  have HM2' := hide (HM2.out.grown hg3 (fun k hk e => D23.out k hk e))
  have HM3 := hide hm3
  clear hcx hg3 hm3 A3'' HM1' HM2 HX2
  obtain ⟨k3, hk3⟩ : ∃ k3, k3 = k2 + nb * 2 := ⟨_, rfl⟩
  rw [← hk3]
  have HK3 := hide hk3
  clear hk3
  go_wp2_with fail
  go_ret
  have e1 := HK1.out
  have e2 := HK2.out
  have e3 := HK3.out
  exact ⟨ret_int (by rw [show k3 = k0 + (nf * 4 + nv * 4 + nb * 2) by omega]), ⟨d, p, e, x, _, _, _, rfl, HM1''.out, e1 ▸ HM2'.out, (show k0 + nf * 4 + nv * 4 = k2 by omega) ▸ HM3.out⟩, hT3⟩

set_option maxHeartbeats 2000000 in
theorem heldMachine_any (v : Value) (m : Mc) (k0 : Nat) (w : World) (hk0 : k0 ≤ 10000000) (h4 : m.fs.length ≤ 1048576) (h5 : m.vs.length ≤ 1048576) (h6 : m.bs.length ≤ 1048576) (h : MMk w v k0 m) :
    Calls Try.prog 16 #[v, .int .i64 (k0 : Int)] w fun e w' => e = .returned (.int .i64 ((k0 + mN m : Nat) : Int)) ∧ Below w.heap.size w w' := by
  obtain ⟨d', p', e', x', fs, vs, bs⟩ := m
  obtain ⟨d, p, e, x, sf, sv, sb, rfl, a1, a2, a3⟩ := h
  obtain ⟨nf, hnf⟩ : ∃ nf, nf = fs.length := ⟨_, rfl⟩
  obtain ⟨nv, hnv⟩ : ∃ nv, nv = vs.length := ⟨_, rfl⟩
  obtain ⟨nb, hnb⟩ : ∃ nb, nb = bs.length := ⟨_, rfl⟩
  simp only [mN, ← hnf, ← hnv, ← hnb] at h4 h5 h6 a1 a2 a3 ⊢
  clear hnf hnv hnb
  obtain ⟨k1, hk1⟩ : ∃ k1, k1 = k0 + nf * 4 := ⟨_, rfl⟩
  obtain ⟨k2, hk2⟩ : ∃ k2, k2 = k1 + nv * 4 := ⟨_, rfl⟩
  obtain ⟨k3, hk3⟩ : ∃ k3, k3 = k2 + nb * 2 := ⟨_, rfl⟩
  rw [← hk1] at a2 a3
  rw [← hk2] at a3
  rw [show k0 + (nf * 4 + nv * 4 + nb * 2) = k3 by omega]
  have A1 := hide a1
  have A2 := hide a2
  have A3 := hide a3
  obtain ⟨af, cf, rfl, -⟩ := a1
  obtain ⟨av, cv, rfl, -⟩ := a2
  obtain ⟨ab, cb, rfl, -⟩ := a3
  have HK1 := hide hk1
  have HK2 := hide hk2
  have HK3 := hide hk3
  have b1 : k1 ≤ 20000000 := by omega
  have b2 : k2 ≤ 30000000 := by omega
  clear hk1 hk2 hk3
  go_enter Try.func16, Try.ntmps16
  go_wp2_with fail
  have hB0 : Below w.heap.size w (w.alloc (.cells #[.bool d, .int .i64 p, .int .i64 e, .int .i64 x, .slice af nf cf, .slice av nv cv, .slice ab nb cb] 28)) := (Below.refl _ _).alloc (Nat.le_refl _) _
  refine (heldFrameS_any _ nf k0 _ h4 (by omega) (A1.out.below hB0)).mono ?_
  rintro e w1 ⟨rfl, hb1⟩
  have hB1 : Below w.heap.size w w1 := hB0.trans (hb1.mono (by simp))
  have hX := (Bx.new w _ _).below hb1 (by simp)
  have HX := hide hX
  have hcx := hX.c
  have hxl := hX.lt
  clear hb1 hX hB0
  rw [← HK1.out]
  have q1 : ¬ ((k1 : Nat) : Int) < 0 := by omega
  go_wp2_with fail
  refine (heldValS_any _ nv k1 _ h5 (by omega) (A2.out.below hB1)).mono ?_
  rintro e w2 ⟨rfl, hb2⟩
  have hB2 : Below w.heap.size w w2 := hB1.trans (hb2.mono hB1.size)
  have HX2 := HX.out.below hb2 hxl
  clear hcx hb2
  have hcx := HX2.c
  clear HX2 HX
  rw [← HK2.out]
  have q2 : ¬ ((k2 : Nat) : Int) < 0 := by omega
  go_wp2_with fail
  refine (heldBindS_any _ nb k2 _ h6 (by omega) (A3.out.below hB2)).mono ?_
  rintro e w3 ⟨rfl, hb3⟩
  have hB3 : Below w.heap.size w w3 := hB2.trans (hb3.mono hB2.size)
  clear hcx hb3
  rw [← HK3.out]
  have q3 : ¬ ((k3 : Nat) : Int) < 0 := by omega
  go_wp2_with fail
  go_ret
  exact ⟨rfl, hB3⟩
end Go.Proofs.Ytdajalchdbgooaa.W

/-
  Whether a row of cells is a good term without free variables: the contract of isClosed. Conditions: at most 1048576 cells.
-/
namespace Go.Proofs.Ytdajalchdbgooaa.W
open Go.ChangeShapes Go.WideShapes Go.ChangeAt Go.RowKit
set_option linter.unusedVariables false

/-- Is it a good term without free variables? -/
def closed (l : List Cc) : Bool := (closedT l).isSome
set_option maxHeartbeats 1000000 in
theorem isClosed_any (ad : Option Addr) (c : Nat) (l : List Cc) (w : World) (hl : l.length ≤ 1048576) (hcap : l.length ≤ c) (h : CRow w ad l) :
    Calls Try.prog 31 #[.slice ad l.length c] w fun e w' => e = .returned (.bool (closed l)) ∧ Below w.heap.size w w' := by
  cases ht : treeT l with
  | none =>
    have HC := hide (implFreeIn_none ad c l w hl h ht)
    have hcl : closed l = false := by unfold closed closedT; rw [ht]; rfl
    rw [hcl]
    clear h ht hcl
    go_enter Try.func31, Try.ntmps31
    go_wp2_with fail
    refine HC.out.mono ?_
    rintro e w1 ⟨rfl, hb1⟩
    go_wp2_with fail
    go_ret
    exact ⟨rfl, hb1⟩
  | some a =>
    obtain ⟨t1, t2, t3, t4, -⟩ := treeT_flat ht
    obtain ⟨x, k, rfl⟩ := F.len_1 t3
    have HC := hide (implFreeIn_some ad c l _ w hl hcap h ht x k rfl)
    rw [marked_bits x k t2] at HC
    have hcl : closed l = decide ((fr1 0 x k []).length = 0) := by
      unfold closed closedT
      rw [ht]
      dsimp only
      by_cases hf : fr1 0 x k [] = []
      · rw [if_pos (show freT (.cons x k .nil) = [] from hf), hf]; rfl
      · rw [if_neg (show ¬ freT (.cons x k .nil) = [] from hf), decide_eq_false (fun e => hf (List.eq_nil_of_length_eq_zero e))]; rfl
    rw [hcl]
    obtain ⟨NL, hNL⟩ : ∃ NL, NL = (fr1 0 x k []).length := ⟨_, rfl⟩
    rw [← hNL] at HC ⊢
    clear h ht hcl t1 t2 t3 t4 hNL
    by_cases h0 : NL = 0
    · subst h0
      go_enter Try.func31, Try.ntmps31
      go_wp2_with fail
      refine HC.out.mono ?_
      rintro e w1 ⟨s', rfl, ho, hb1⟩
      obtain ⟨sa, sc, rfl⟩ := own_form ho
      clear ho
      go_wp2_with fail
      go_ret
      exact ⟨rfl, hb1⟩
    · have h0' : ¬ (NL : Int) = 0 := by omega
      rw [decide_eq_false h0]
      go_enter Try.func31, Try.ntmps31
      go_wp2_with fail
      refine HC.out.mono ?_
      rintro e w1 ⟨s', rfl, ho, hb1⟩
      obtain ⟨sa, sc, rfl⟩ := own_form ho
      clear ho
      go_wp2_with fail
      go_ret
      exact ⟨ret_bool (by simpa using h0'), hb1⟩
end Go.Proofs.Ytdajalchdbgooaa.W

/-
  Contracts of l6Of (the specification's code of a closed term) and of isClosed, StartMachine of both sides. Conditions: at most 1048576 cells.
-/
namespace Go.Proofs.Ytdajalchdbgooaa.W
open Go.ChangeShapes Go.WideShapes Go.ChangeAt Go.RowKit
set_option linter.unusedVariables false

theorem bsc {B : Nat} {a w : World} (h : Below B a w) (b i : Nat) (v : Value) (hb : B ≤ b) : Below B a (w.setCell ⟨b, i, none⟩ v) := h.setCell (p := ⟨b, i, none⟩) hb v
theorem bsc0 {B : Nat} {a w : World} (h : Below B a w) (i : Nat) (v : Value) : Below B a (w.setCell ⟨B, i, none⟩ v) := bsc h B i v (Nat.le_refl _)
/-- A code that is read in memory. -/
structure CD (w : World) (cb : Nat) (tv : Value) (n : Nat) (a : F) : Prop where
  ex : ∃ kb vb, Bx w cb #[tv, .slice (some ⟨kb, 0, none⟩) n n, .slice (some ⟨vb, 0, none⟩) n n] 116 ∧ kb < w.heap.size ∧ vb < w.heap.size ∧ (∀ i, i < n → w.cell? ⟨vb, i, none⟩ = some (.int .i64 (tV (ndT a) i))) ∧ ∀ i, i < n → ∃ s, w.cell? ⟨kb, i, none⟩ = some s ∧ IS w s (tK (ndT a) i)
theorem CD.lt {w : World} {cb n : Nat} {tv : Value} {a : F} (h : CD w cb tv n a) : cb < w.heap.size := by
  obtain ⟨kb, vb, h1, -⟩ := h.ex
  exact h1.lt
theorem CD.below {w w' : World} {cb n : Nat} {tv : Value} {a : F} (h : CD w cb tv n a) (hb : Below w.heap.size w w') : CD w' cb tv n a := by
  obtain ⟨kb, vb, h1, h2, h3, h4, h5⟩ := h.ex
  refine ⟨kb, vb, h1.below hb h1.lt, Nat.lt_of_lt_of_le h2 hb.size, Nat.lt_of_lt_of_le h3 hb.size, fun i hi => (hb.cell (p := ⟨vb, i, none⟩) h3).trans (h4 i hi), fun i hi => ?_⟩
  obtain ⟨s, e1, e2⟩ := h5 i hi
  exact ⟨s, (hb.cell (p := ⟨kb, i, none⟩) h2).trans e1, e2.below hb⟩
theorem WS.cd {w : World} {cb kb vb base n : Nat} {tv : Value} {a : F} (h : WS w cb kb vb base n tv (tV (ndT a)) (tK (ndT a))) : CD w cb tv n a := by
  obtain ⟨h1, ⟨vc, h2, h3, h4⟩, ⟨kc, h5, h6, h7, h8⟩, b1, b2, b3, d1, d2, d3, hs⟩ := h
  refine ⟨kb, vb, h1, by omega, by omega, fun i hi => (cell_of_blk h2 i).trans (h4 i hi), fun i hi => ?_⟩
  obtain ⟨s, e1, e2⟩ := h7 i hi
  exact ⟨s, (cell_of_blk h5 i).trans e1, IS.ofOwn e2⟩

theorem infoIntS : (Try.prog.info? 90).map (fun i => (i.zero, i.size, i.bytes)) = some (some (.slice none 0 0), 1, 24) := by kernel_rfl
theorem mk_ints (n : Nat) (hn : n ≤ 1048576) (w : World) :
    (Instr.makeSlice 90 (.int .i64 (n : Int)) (.int .i64 (n : Int))).run Try.prog w = .ok (.slice (some ⟨w.heap.size, 0, none⟩) n n) (w.alloc (.cells (madeCells #[.int .i64 0] n) 3)) := by
  obtain ⟨i, hi, hzz⟩ := Option.map_eq_some_iff.1 infoInt
  simp only [Prod.mk.injEq] at hzz
  obtain ⟨hz, hs, hb⟩ := hzz
  have := run_make (P := Try.prog) w 90 3 i _ Try.underlying90 hi hz .i64 .i64 n n (by omega) (Int.le_refl _) (by rw [hb]; omega) (by omega)
  rw [hs, show (Value.int .i64 0).cells = #[.int .i64 0] from by simp [Value.cells]] at this
  simpa using this
theorem mk_intss (n : Nat) (hn : n ≤ 1048576) (w : World) :
    (Instr.makeSlice 114 (.int .i64 (n : Int)) (.int .i64 (n : Int))).run Try.prog w = .ok (.slice (some ⟨w.heap.size, 0, none⟩) n n) (w.alloc (.cells (madeCells #[.slice none 0 0] n) 90)) := by
  obtain ⟨i, hi, hzz⟩ := Option.map_eq_some_iff.1 infoIntS
  simp only [Prod.mk.injEq] at hzz
  obtain ⟨hz, hs, hb⟩ := hzz
  have := run_make (P := Try.prog) w 114 90 i _ Try.underlying114 hi hz .i64 .i64 n n (by omega) (Int.le_refl _) (by rw [hb]; omega) (by omega)
  rw [hs, show (Value.slice none 0 0).cells = #[.slice none 0 0] from by simp [Value.cells]] at this
  simpa using this
theorem made_get (v : Value) (n i : Nat) (h : i < n) : (madeCells #[v] n)[i]? = some v := by
  unfold madeCells
  simp [h, Nat.mod_one]
theorem made_size (v : Value) (n : Nat) : (madeCells #[v] n).size = n := by simp [madeCells]

set_option maxRecDepth 20000 in
set_option maxHeartbeats 1000000 in
theorem l6Of_none (ad : Option Addr) (c : Nat) (l : List Cc) (w : World) (hl : l.length ≤ 1048576) (h : CRow w ad l) (hc : closedT l = none) :
    Calls Try.prog 28 #[.slice ad l.length c] w fun e w' => e = .returned (.tuple #[.pointer none, .bool false]) ∧ Below w.heap.size w w' := by
  have HC := hide (l3Tree_any ad c l w hl h)
  clear h
  cases hT : treeT l with
  | none =>
    rw [hT] at HC
    clear hT
    go_enter Try.func28, Try.ntmps28
    go_wp2_with fail
    refine Calls.mono HC.out ?_
    rintro e w1 ⟨hb1, ho⟩
    obtain ⟨k, n, sad, sn, sc, rfl⟩ := ho
    go_wp2_with fail
    exact bodyPost_ret (v := .tuple #[.pointer none, .bool false]) (by simp [results, Try.results28, go_sem]) rfl ⟨rfl, hb1.alloc hb1.size _⟩
  | some t =>
    have hne : freT t ≠ [] := by
      intro e
      unfold closedT at hc
      rw [hT] at hc
      simp only at hc
      rw [if_pos e] at hc
      cases hc
    rw [hT] at HC
    have HTT := hide (treeT_flat hT)
    clear hT hc
    go_enter Try.func28, Try.ntmps28
    go_wp2_with fail
    refine Calls.mono HC.out ?_
    rintro e w1 ⟨hb1, ho⟩
    obtain ⟨x, k, s, rfl, rfl, hK⟩ := ho
    obtain ⟨t1, t2, t3, t4, t5⟩ := HTT.out
    obtain ⟨sad, sc, rfl⟩ := hK.form
    obtain ⟨g1, l1, o1, -⟩ := ok_cons t2
    have hn := good_n g1
    have hkf : k.flat.length ≤ 600 := by rw [t1] at t4; simp [F.flat] at t4; omega
    have HK := hide hK
    have HF := hide (l3Free_any k x (.slice sad k.len sc) (.slice none 0 0) 0 [] (fun g => w.heap.size ≤ g))
    have HO := hide o1
    have HL := hide l1
    rw [show ((0 : Nat) : Int) = 0 from rfl] at HF
    obtain ⟨KL, hKL⟩ : ∃ KL, KL = k.len := ⟨_, rfl⟩
    rw [← hKL] at HF HK HL ⊢
    clear HTT t1 t2 t3 t4 t5 HC hK g1 l1 o1 hKL
    go_wp2_with fail
    refine Calls.mono (HF.out _ hn.1 hn.2 HL.out HO.out (by omega) (by simp; omega) (HK.out.below ((Below.refl _ _).alloc (Nat.le_refl _) _)) (.inl ⟨rfl, rfl⟩)) ?_
    rintro e w2 ⟨s2, rfl, hs2, hb2⟩
    have hB2 : Below w.heap.size w w2 := (hb1.alloc hb1.size _).trans (hb2.mono (by have := hb1.size; simp; omega))
    obtain ⟨pad, pc, rfl⟩ := hs2.form
    have hpos : 0 < (fr1 0 x k []).length := by
      have : fr1 0 x k [] ≠ [] := hne
      cases h : fr1 0 x k [] with
      | nil => exact absurd h this
      | cons _ _ => simp
    obtain ⟨NL, hNL⟩ : ∃ NL, NL = (fr1 0 x k []).length := ⟨_, rfl⟩
    rw [← hNL] at hpos ⊢
    have hpos' : (0 : Int) < (NL : Int) := by omega
    clear hs2 hb2 hNL
    go_wp2_with fail
    exact bodyPost_ret (v := .tuple #[.pointer none, .bool false]) (by simp [results, Try.results28, go_sem]) rfl ⟨rfl, hB2⟩

set_option maxRecDepth 20000 in
set_option maxHeartbeats 1000000 in
theorem l6Of_some (ad : Option Addr) (c : Nat) (l : List Cc) (a : F) (w : World) (h : CRow w ad l) (hc : closedT l = some a) :
    Calls Try.prog 28 #[.slice ad l.length c] w fun e w' => ∃ cb, e = .returned (.tuple #[.pointer (some ⟨cb, 0, none⟩), .bool true]) ∧ CD w' cb (.slice ad l.length c) l.length a ∧ w.heap.size ≤ cb ∧ Below w.heap.size w w' := by
  obtain ⟨hCl, hT, hfr⟩ := closedT_some hc
  have hle := hCl.le
  have HC := hide (l3Tree_any ad c l w (by omega) h)
  have HR := hide h
  clear h hc
  rw [hT] at HC
  have HTT := hide (treeT_flat hT)
  have mk1 := mk_ints l.length (by omega)
  have mk2 := mk_intss l.length (by omega)
  clear hT
  go_enter Try.func28, Try.ntmps28
  go_wp2_with fail
  refine Calls.mono HC.out ?_
  rintro e w1 ⟨hb1, ho⟩
  obtain ⟨x, k, s, rfl, rfl, hK⟩ := ho
  obtain ⟨t1, t2, t3, t4, t5⟩ := HTT.out
  obtain ⟨sad, sc, rfl⟩ := hK.form
  obtain ⟨g1, l1, o1, -⟩ := ok_cons t2
  have hn := good_n g1
  have hkf : k.flat.length ≤ 600 := by rw [t1] at t4; simp [F.flat] at t4; omega
  have hkl : 1 + k.flat.length = l.length := by rw [t1]; simp [F.flat]; omega
  have HK := hide hK
  have HF := hide (l3Free_any k x (.slice sad k.len sc) (.slice none 0 0) 0 [] (fun g => w.heap.size ≤ g))
  have HO := hide o1
  have HL := hide l1
  rw [show ((0 : Nat) : Int) = 0 from rfl] at HF
  obtain ⟨KL, hKL⟩ : ∃ KL, KL = k.len := ⟨_, rfl⟩
  rw [← hKL] at HF HK HL ⊢
  clear HTT t1 t2 t3 t4 t5 HC hK g1 l1 o1 hKL
  go_wp2_with fail
  refine Calls.mono (HF.out _ hn.1 hn.2 HL.out HO.out (by omega) (by simp; omega) (HK.out.below ((Below.refl _ _).alloc (Nat.le_refl _) _)) (.inl ⟨rfl, rfl⟩)) ?_
  rintro e w2 ⟨s2, rfl, hs2, hb2⟩
  have hB2 : Below w.heap.size w w2 := (hb1.alloc hb1.size _).trans (hb2.mono (by have := hb1.size; simp; omega))
  obtain ⟨pad, pc, rfl⟩ := hs2.form
  have hfr' : fr1 0 x k [] = [] := hfr
  rw [hfr']
  clear hs2 hb2
  have HCl := hide hCl
  have HW : Hid (∀ (w3 : World) (cb kb vb : Nat), Below w.heap.size w w3 → w.heap.size ≤ cb → w.heap.size ≤ kb → w.heap.size ≤ vb → cb < w3.heap.size → kb < w3.heap.size → vb < w3.heap.size → cb ≠ kb → cb ≠ vb → kb ≠ vb → Bx w3 cb #[.slice ad l.length c, .slice (some ⟨kb, 0, none⟩) l.length l.length, .slice (some ⟨vb, 0, none⟩) l.length l.length] 116 → Bx w3 kb (madeCells #[.slice none 0 0] l.length) 90 → Bx w3 vb (madeCells #[.int .i64 0] l.length) 3 →
      Calls Try.prog 66 #[.pointer (some ⟨cb, 0, none⟩), .int .i64 0, .int .i64 0] w3 fun en w' => ∃ r, en = .returned r ∧ CD w' cb (.slice ad l.length c) l.length (.cons x k .nil) ∧ Below w.heap.size w w') := hide (by
    intro w3 cb kb vb hB a1 a2 a3 b1 b2 b3 d1 d2 d3 hX hKB hVB
    have hn0 : (ndT (.cons x k .nil))[0]? = some (x, 0, k) := by simp [ndT, nd, binds_0']
    have hws : WS w3 cb kb vb w3.heap.size l.length (.slice ad l.length c) (fun _ => 0) (fun _ => []) :=
      ⟨hX, ⟨_, hVB, made_size _ _, fun i hi => made_get _ _ _ hi⟩, ⟨_, hKB, made_size _ _, fun i hi => ⟨_, made_get _ _ _ hi, World.ownsRow_nil _ _ _ _⟩, fun i j s s' g hi hj _ hg => by
        have hi' := (Array.getElem?_eq_some_iff.1 hi).1
        rw [made_size] at hi'
        rw [made_get _ _ _ hi'] at hi
        obtain rfl : Value.slice none 0 0 = s := by simpa using hi
        cases hg⟩, b1, b2, b3, d1, d2, d3, Nat.le_refl _⟩
    refine (l6Walk_any w ad c l (.cons x k .nil) cb kb vb w3.heap.size HCl.out HR.out a1 a2 a3 k.flat.length 0 0 x k w3 _ _ hn0 (Nat.le_refl _) hws hB (fun _ _ _ => rfl)).mono ?_
    rintro e w4 ⟨rfl, hW4, hB4⟩
    refine ⟨_, rfl, ?_, hB4⟩
    obtain ⟨h1, ⟨vc, h2, h3, h4⟩, ⟨kc, h5, h6, h7, h8⟩, b1, b2, b3, d1, d2, d3, hs⟩ := hW4
    refine WS.cd ⟨h1, ⟨vc, h2, h3, fun i hi => ?_⟩, ⟨kc, h5, h6, fun i hi => ?_, h8⟩, b1, b2, b3, d1, d2, d3, hs⟩
    · have := h4 i hi
      unfold upd at this
      rw [if_pos (by omega)] at this
      exact this
    · have := h7 i hi
      unfold upd at this
      rw [if_pos (by omega)] at this
      exact this)
  go_wp2_with fail
  have hsz2 := hB2.size
  go_region_with (fail)
  all_goals
    go_wp2_with fail
    first
      | (refine (HW.out _ (w2.heap.size + 1 + 1) w2.heap.size (w2.heap.size + 1) ?b1 (by omega) (by omega) (by omega) (by simp) (by simp; omega) (by simp) (by omega) (by omega) (by omega) ?x1 ?k1 ?v1).mono ?_
         case b1 => exact belowDrew (((hB2.alloc (by omega) _).alloc (by simp; omega) _).alloc (by simp; omega) _)
         case x1 => exact Bx.drew (by have := Bx.new ((w2.alloc (.cells (madeCells #[.slice none 0 0] l.length) 90)).alloc (.cells (madeCells #[.int .i64 0] l.length) 3)) #[.slice ad l.length c, .slice (some ⟨w2.heap.size, 0, none⟩) l.length l.length, .slice (some ⟨w2.heap.size + 1, 0, none⟩) l.length l.length] 116; simpa using this)
         case k1 => exact Bx.drew (((Bx.new w2 _ _).alloc _).alloc _)
         case v1 => exact Bx.drew ((by have := Bx.new (w2.alloc (.cells (madeCells #[.slice none 0 0] l.length) 90)) (madeCells #[.int .i64 0] l.length) 3; simpa using this : Bx ((w2.alloc (.cells (madeCells #[.slice none 0 0] l.length) 90)).alloc (.cells (madeCells #[.int .i64 0] l.length) 3)) (w2.heap.size + 1) _ _).alloc _))
      | (refine (HW.out _ (w2.heap.size + 1 + 1) (w2.heap.size + 1) w2.heap.size ?b1 (by omega) (by omega) (by omega) (by simp) (by simp) (by simp; omega) (by omega) (by omega) (by omega) ?x1 ?k1 ?v1).mono ?_
         case b1 => exact belowDrew (((hB2.alloc (by omega) _).alloc (by simp; omega) _).alloc (by simp; omega) _)
         case x1 => exact Bx.drew (by have := Bx.new ((w2.alloc (.cells (madeCells #[.int .i64 0] l.length) 3)).alloc (.cells (madeCells #[.slice none 0 0] l.length) 90)) #[.slice ad l.length c, .slice (some ⟨w2.heap.size + 1, 0, none⟩) l.length l.length, .slice (some ⟨w2.heap.size, 0, none⟩) l.length l.length] 116; simpa using this)
         case v1 => exact Bx.drew (((Bx.new w2 _ _).alloc _).alloc _)
         case k1 => exact Bx.drew ((by have := Bx.new (w2.alloc (.cells (madeCells #[.int .i64 0] l.length) 3)) (madeCells #[.slice none 0 0] l.length) 90; simpa using this : Bx ((w2.alloc (.cells (madeCells #[.int .i64 0] l.length) 3)).alloc (.cells (madeCells #[.slice none 0 0] l.length) 90)) (w2.heap.size + 1) _ _).alloc _))
    rintro e w4 ⟨r, rfl, hcd, hB4⟩
    clear mk1 mk2
    go_wp2_with fail
    exact bodyPost_ret (v := .tuple #[.pointer (some ⟨w2.heap.size + 1 + 1, 0, none⟩), .bool true]) (by simp [results, Try.results28, go_sem]) rfl ⟨_, rfl, hcd, by omega, hB4⟩

/-- The machine at the beginning, and no machine. -/
def startM : Mc := ⟨false, 0, -1, -1, [], [], []⟩
def zeroM : Mc := ⟨false, 0, 0, 0, [], [], []⟩
theorem MOwn.empty (lo hi : Nat) (w : World) (d : Bool) (p e x : Int) : MOwn lo hi w (.agg #[.bool d, .int .i64 p, .int .i64 e, .int .i64 x, .slice none 0 0, .slice none 0 0, .slice none 0 0]) ⟨d, p, e, x, [], [], []⟩ :=
  ⟨_, _, _, rfl, ⟨World.ownsRow_nil _ _ _ _, fun k hk => by cases hk⟩, ⟨World.ownsRow_nil _ _ _ _, fun k hk => by cases hk⟩, ⟨World.ownsRow_nil _ _ _ _, fun k hk => by cases hk⟩, by simp, by simp, by simp⟩

set_option maxHeartbeats 1000000 in
theorem l6Start_any (w : World) :
    Calls Try.prog 29 #[] w fun e w' => e = .returned (.agg #[.bool false, .int .i64 0, .int .i64 (-1), .int .i64 (-1), .slice none 0 0, .slice none 0 0, .slice none 0 0]) ∧ Below w.heap.size w w' := by
  go_enter Try.func29, Try.ntmps29
  go_wp2_with fail
  exact bodyPost_ret (v := .agg #[.bool false, .int .i64 0, .int .i64 (-1), .int .i64 (-1), .slice none 0 0, .slice none 0 0, .slice none 0 0]) (by simp [results, Try.results29, go_sem]) rfl ⟨rfl, (Below.refl _ _).alloc (Nat.le_refl _) _⟩

def stM (l : List Cc) : Mc := if closed l = true then startM else zeroM

set_option maxHeartbeats 1000000 in
theorem specStart_any (ad : Option Addr) (c : Nat) (l : List Cc) (w : World) (hl : l.length ≤ 1048576) (h : CRow w ad l) :
    Calls Try.prog 9 #[.slice ad l.length c] w fun e w' => ∃ v, e = .returned (.tuple #[v, .bool (closed l)]) ∧ MRow w' v (stM l) ∧ Below w.heap.size w w' := by
  cases hc : closedT l with
  | none =>
    have hcl : closed l = false := by unfold closed; rw [hc]; rfl
    have HC := hide (fun (w' : World) (hb : Below w.heap.size w w') => l6Of_none ad c l w' hl (h.below hb) hc)
    unfold stM
    rw [hcl]
    clear h hc hcl
    go_enter Try.func9, Try.ntmps9
    go_wp2_with fail
    refine (HC.out _ ((Below.refl _ _).alloc (Nat.le_refl _) _)).mono ?_
    rintro e w1 ⟨rfl, hb1⟩
    have hB1 : Below w.heap.size w w1 := ((Below.refl _ _).alloc (Nat.le_refl _) _).trans (hb1.mono (by simp))
    have hX := (Bx.new w _ _).below hb1 (by simp)
    have hcx := hX.c
    have hfx := hX.f
    have hxl := hX.lt
    clear hb1 hX
    go_wp2_with fail
    refine bodyPost_ret (v := .tuple #[.agg #[.bool false, .int .i64 0, .int .i64 0, .int .i64 0, .slice none 0 0, .slice none 0 0, .slice none 0 0], .bool false]) (by simp [results, Try.results9, go_sem, hcx]) rfl ⟨_, rfl, (MOwn.empty 0 0 _ false 0 0 0).row, ?_⟩
    (repeat (with_reducible refine bsc0 ?_ _ _))
    exact hB1
  | some a =>
    have hcl : closed l = true := by unfold closed; rw [hc]; rfl
    have HC := hide (fun (w' : World) (hb : Below w.heap.size w w') => l6Of_some ad c l a w' (h.below hb) hc)
    unfold stM
    rw [hcl]
    clear h hc hcl
    go_enter Try.func9, Try.ntmps9
    go_wp2_with fail
    refine (HC.out _ ((Below.refl _ _).alloc (Nat.le_refl _) _)).mono ?_
    rintro e w1 ⟨cb, rfl, hcd, -, hb1⟩
    have hB1 : Below w.heap.size w w1 := ((Below.refl _ _).alloc (Nat.le_refl _) _).trans (hb1.mono (by simp))
    have hX := (Bx.new w _ _).below hb1 (by simp)
    have HX := hide hX
    have hxl := hX.lt
    clear hb1 hX hcd
    go_wp2_with fail
    refine (l6Start_any _).mono ?_
    rintro e w2 ⟨rfl, hb2⟩
    have hB2 : Below w.heap.size w w2 := hB1.trans (hb2.mono hB1.size)
    have hX2 := HX.out.below hb2 hxl
    have hcx := hX2.c
    have hfx := hX2.f
    clear hb2 hX2 HX
    go_wp2_with fail
    refine bodyPost_ret (v := .tuple #[.agg #[.bool false, .int .i64 0, .int .i64 (-1), .int .i64 (-1), .slice none 0 0, .slice none 0 0, .slice none 0 0], .bool true]) (by simp [results, Try.results9, go_sem, hcx]) rfl ⟨_, rfl, (MOwn.empty 0 0 _ false 0 (-1) (-1)).row, ?_⟩
    (repeat (with_reducible refine bsc0 ?_ _ _))
    exact hB2

set_option maxHeartbeats 1000000 in
theorem implStart_any (ad : Option Addr) (c : Nat) (l : List Cc) (w : World) (hl : l.length ≤ 1048576) (hcap : l.length ≤ c) (h : CRow w ad l) :
    Calls Try.prog 11 #[.slice ad l.length c] w fun e w' => e = .returned (.tuple #[(.agg #[.bool false, .int .i64 0, .int .i64 (if closed l = true then -1 else 0), .int .i64 (if closed l = true then -1 else 0), .slice none 0 0, .slice none 0 0, .slice none 0 0]), .bool (closed l)]) ∧ Below w.heap.size w w' := by
  have HC := hide (fun (w' : World) (hb : Below w.heap.size w w') => isClosed_any ad c l w' hl hcap (h.below hb))
  clear h
  cases hc : closed l with
  | false =>
    rw [hc] at HC
    clear hc
    go_enter Try.func11, Try.ntmps11
    go_wp2_with fail
    refine (HC.out _ ((Below.refl _ _).alloc (Nat.le_refl _) _)).mono ?_
    rintro e w1 ⟨rfl, hb1⟩
    have hB1 : Below w.heap.size w w1 := ((Below.refl _ _).alloc (Nat.le_refl _) _).trans (hb1.mono (by simp))
    have hX := (Bx.new w _ _).below hb1 (by simp)
    have hcx := hX.c
    have hfx := hX.f
    have hxl := hX.lt
    clear hb1 hX
    go_wp2_with fail
    refine bodyPost_ret (v := .tuple #[.agg #[.bool false, .int .i64 0, .int .i64 0, .int .i64 0, .slice none 0 0, .slice none 0 0, .slice none 0 0], .bool false]) (by simp [results, Try.results11, go_sem, hcx]) rfl ⟨rfl, ?_⟩
    (repeat (with_reducible refine bsc0 ?_ _ _))
    exact hB1
  | true =>
    rw [hc] at HC
    clear hc
    go_enter Try.func11, Try.ntmps11
    go_wp2_with fail
    refine (HC.out _ ((Below.refl _ _).alloc (Nat.le_refl _) _)).mono ?_
    rintro e w1 ⟨rfl, hb1⟩
    have hB1 : Below w.heap.size w w1 := ((Below.refl _ _).alloc (Nat.le_refl _) _).trans (hb1.mono (by simp))
    have hX := (Bx.new w _ _).below hb1 (by simp)
    have hcx := hX.c
    have hfx := hX.f
    have hxl := hX.lt
    clear hb1 hX
    go_wp2_with fail
    refine bodyPost_ret (v := .tuple #[.agg #[.bool false, .int .i64 0, .int .i64 (-1), .int .i64 (-1), .slice none 0 0, .slice none 0 0, .slice none 0 0], .bool true]) (by simp [results, Try.results11, go_sem, hcx]) rfl ⟨rfl, ?_⟩
    (repeat (with_reducible refine bsc0 ?_ _ _))
    exact hB1
theorem implStart_own (ad : Option Addr) (c : Nat) (l : List Cc) (w : World) (hl : l.length ≤ 1048576) (hcap : l.length ≤ c) (h : CRow w ad l) :
    Calls Try.prog 11 #[.slice ad l.length c] w fun e w' => ∃ v, e = .returned (.tuple #[v, .bool (closed l)]) ∧ MOwn w.heap.size w'.heap.size w' v (stM l) ∧ Below w.heap.size w w' := by
  refine (implStart_any ad c l w hl hcap h).mono fun e w' ⟨he, hb⟩ => ⟨_, he, ?_, hb⟩
  unfold stM
  cases closed l with
  | false => exact MOwn.empty _ _ _ _ _ _ _
  | true => exact MOwn.empty _ _ _ _ _ _ _
end Go.Proofs.Ytdajalchdbgooaa.W

/-
  Some texts of this proof in one: RwV, RwB, MaL.
-/
import Derived.Test.YtnmkbpflbfhpnaaGreatJ16
import Derived.Test.YtnmkbpflbfhpnaaGreatJ18
/-
  Slices of Val, wherever they lie: contracts of the laws' functions over them (sizes, copies, equal rows, marks). Conditions: at most 1048576 elements where a row is made. Written by wip/build/mk_row.py.
-/
namespace Go.Proofs.YtnmkbpflbfhpnaaGreat.W
open Go.ChangeShapes Go.WideShapes Go.ChangeAt Go.RowKit
set_option linter.unusedVariables false

structure Vl where
  fn : Bool
  num : Int
  pl : Int
  env : Int
def Vl.c (x : Vl) : Nat → Value
  | 0 => .bool x.fn
  | 1 => .int .i64 x.num
  | 2 => .int .i64 x.pl
  | _ => .int .i64 x.env
abbrev Vl.v (x : Vl) : Value := .agg #[.bool x.fn, .int .i64 x.num, .int .i64 x.pl, .int .i64 x.env]
abbrev VlRow := RRow 4 Vl.c
def Vl.mv : Nat → Nat → Value
  | 0 => mB
  | 1 => mI
  | 2 => mI
  | _ => mI

theorem VlRow.tok {w w' : World} {ad : Option Addr} {l : List Vl} (h : VlRow w ad l) (hb : Below w.heap.size w w') {i : Nat} (hi : i < l.length) :
    ∃ b o, ad = some ⟨b, o, none⟩ ∧ b < w.heap.size ∧ w'.cell? ⟨b, o + i * 4, none⟩ = some (.bool l[i].fn) ∧ w'.cell? ⟨b, o + i * 4 + 1, none⟩ = some (.int .i64 l[i].num) ∧ w'.cell? ⟨b, o + i * 4 + 2, none⟩ = some (.int .i64 l[i].pl) ∧ w'.cell? ⟨b, o + i * 4 + 3, none⟩ = some (.int .i64 l[i].env) := by
  obtain ⟨b, o, h1, h2, h3⟩ := h.at hb hi
  exact ⟨b, o, h1, h2, h3 0 (by omega), h3 1 (by omega), h3 2 (by omega), h3 3 (by omega)⟩

theorem Vl.one (l : List Vl) : ∀ u ∈ rcells 4 Vl.c l, u.oneCell' = true := by
  induction l with
  | nil => intro u hu; simp [rcells] at hu
  | cons x l ih =>
    intro u hu
    simp only [rcells, List.mem_append, List.mem_map, List.mem_range] at hu
    rcases hu with ⟨r, hr, rfl⟩ | hu
    · match r, hr with
      | 0, _ => rfl
      | 1, _ => rfl
      | 2, _ => rfl
      | 3, _ => rfl
    · exact ih u hu

theorem Vl.fill {cur : Array Value} {l : List Vl} {j : Nat} (h : RFill 4 Vl.c cur l j) (hj : j < l.length) :
    RFill 4 Vl.c ((((cur.setIfInBounds (j * 4) (.bool l[j].fn)).setIfInBounds (j * 4 + 1) (.int .i64 l[j].num)).setIfInBounds (j * 4 + 2) (.int .i64 l[j].pl)).setIfInBounds (j * 4 + 3) (.int .i64 l[j].env)) l (j + 1) := by
  have hs := h.1
  refine ⟨by simp [hs], fun i hi hij r hr => ?_⟩
  simp only [Array.getElem?_setIfInBounds, Array.size_setIfInBounds]
  by_cases e : i = j
  · subst e
    match r, hr with
    | 0, _ => rw [if_neg (by omega), if_neg (by omega), if_neg (by omega), if_pos (by omega), if_pos (by omega)]; rfl
    | 1, _ => rw [if_neg (by omega), if_neg (by omega), if_pos rfl, if_pos (by omega)]; rfl
    | 2, _ => rw [if_neg (by omega), if_pos rfl, if_pos (by omega)]; rfl
    | 3, _ => rw [if_pos rfl, if_pos (by omega)]; rfl
  · rw [if_neg (by omega), if_neg (by omega), if_neg (by omega), if_neg (by omega)]
    exact h.2 i hi (by omega) r hr

theorem infoVl : (Tryz.prog.info? 69).map (fun i => (i.zero, i.size, i.bytes)) = some (some (.agg #[.bool false, .int .i64 0, .int .i64 0, .int .i64 0]), 4, 32) := by kernel_rfl
theorem mk_VlS (n : Nat) (hn : n ≤ 1048576) (w : World) :
    (Instr.makeSlice 58 (.int .i64 (n : Int)) (.int .i64 (n : Int))).run Tryz.prog w = .ok (.slice (some ⟨w.heap.size, 0, none⟩) n n) (w.alloc (.cells (madeCells #[.bool false, .int .i64 0, .int .i64 0, .int .i64 0] (n * 4)) 69)) := by
  obtain ⟨i, hi, hzz⟩ := Option.map_eq_some_iff.1 infoVl
  simp only [Prod.mk.injEq] at hzz
  obtain ⟨hz, hs, hb⟩ := hzz
  have := run_make (P := Tryz.prog) w 58 69 i _ Tryz.underlying58 hi hz .i64 .i64 n n (by omega) (Int.le_refl _) (by rw [hb]; omega) (by omega)
  rw [hs, show (Value.agg #[.bool false, .int .i64 0, .int .i64 0, .int .i64 0]).cells = #[.bool false, .int .i64 0, .int .i64 0, .int .i64 0] from by simp [Value.cells]] at this
  simpa using this

abbrev VlBlk := RBlk 69 4 Vl.c

theorem Vl.marks (cur : Array Value) (k0 j n : Nat) (x0 x1 x2 x3 : Value) (hj : j < n) (hs : n * 4 ≤ cur.size) (h : ∀ i, i < j → ∀ r, r < 4 → cur[i * 4 + r]? = some (Vl.mv r (k0 + i * 4 + r)))
    (h0 : x0 = Vl.mv 0 (k0 + j * 4 + 0)) (h1 : x1 = Vl.mv 1 (k0 + j * 4 + 1)) (h2 : x2 = Vl.mv 2 (k0 + j * 4 + 2)) (h3 : x3 = Vl.mv 3 (k0 + j * 4 + 3)) :
    ∀ i, i < j + 1 → ∀ r, r < 4 → (((((cur.setIfInBounds (j * 4) (x0)).setIfInBounds (j * 4 + 1) (x1)).setIfInBounds (j * 4 + 2) (x2)).setIfInBounds (j * 4 + 3) (x3)))[i * 4 + r]? = some (Vl.mv r (k0 + i * 4 + r)) := by
  intro i hi r hr
  simp only [Array.getElem?_setIfInBounds, Array.size_setIfInBounds]
  by_cases e : i = j
  · subst e
    match r, hr with
    | 0, _ => rw [if_neg (by omega), if_neg (by omega), if_neg (by omega), if_pos (by omega), if_pos (by omega), h0]
    | 1, _ => rw [if_neg (by omega), if_neg (by omega), if_pos rfl, if_pos (by omega), h1]
    | 2, _ => rw [if_neg (by omega), if_pos rfl, if_pos (by omega), h2]
    | 3, _ => rw [if_pos rfl, if_pos (by omega), h3]
  · rw [if_neg (by omega), if_neg (by omega), if_neg (by omega), if_neg (by omega)]
    exact h i (by omega) r hr

end Go.Proofs.YtnmkbpflbfhpnaaGreat.W

/-
  Slices of Bind, wherever they lie: contracts of the laws' functions over them (sizes, copies, equal rows, marks). Conditions: at most 1048576 elements where a row is made. Written by wip/build/mk_row.py.
-/
namespace Go.Proofs.YtnmkbpflbfhpnaaGreat.W
open Go.ChangeShapes Go.WideShapes Go.ChangeAt Go.RowKit
set_option linter.unusedVariables false

structure Bd where
  val : Int
  up : Int
def Bd.c (x : Bd) : Nat → Value
  | 0 => .int .i64 x.val
  | _ => .int .i64 x.up
abbrev Bd.v (x : Bd) : Value := .agg #[.int .i64 x.val, .int .i64 x.up]
abbrev BdRow := RRow 2 Bd.c
def Bd.mv : Nat → Nat → Value
  | 0 => mI
  | _ => mI

theorem BdRow.tok {w w' : World} {ad : Option Addr} {l : List Bd} (h : BdRow w ad l) (hb : Below w.heap.size w w') {i : Nat} (hi : i < l.length) :
    ∃ b o, ad = some ⟨b, o, none⟩ ∧ b < w.heap.size ∧ w'.cell? ⟨b, o + i * 2, none⟩ = some (.int .i64 l[i].val) ∧ w'.cell? ⟨b, o + i * 2 + 1, none⟩ = some (.int .i64 l[i].up) := by
  obtain ⟨b, o, h1, h2, h3⟩ := h.at hb hi
  exact ⟨b, o, h1, h2, h3 0 (by omega), h3 1 (by omega)⟩

theorem Bd.one (l : List Bd) : ∀ u ∈ rcells 2 Bd.c l, u.oneCell' = true := by
  induction l with
  | nil => intro u hu; simp [rcells] at hu
  | cons x l ih =>
    intro u hu
    simp only [rcells, List.mem_append, List.mem_map, List.mem_range] at hu
    rcases hu with ⟨r, hr, rfl⟩ | hu
    · match r, hr with
      | 0, _ => rfl
      | 1, _ => rfl
    · exact ih u hu

theorem Bd.fill {cur : Array Value} {l : List Bd} {j : Nat} (h : RFill 2 Bd.c cur l j) (hj : j < l.length) :
    RFill 2 Bd.c ((cur.setIfInBounds (j * 2) (.int .i64 l[j].val)).setIfInBounds (j * 2 + 1) (.int .i64 l[j].up)) l (j + 1) := by
  have hs := h.1
  refine ⟨by simp [hs], fun i hi hij r hr => ?_⟩
  simp only [Array.getElem?_setIfInBounds, Array.size_setIfInBounds]
  by_cases e : i = j
  · subst e
    match r, hr with
    | 0, _ => rw [if_neg (by omega), if_pos (by omega), if_pos (by omega)]; rfl
    | 1, _ => rw [if_pos rfl, if_pos (by omega)]; rfl
  · rw [if_neg (by omega), if_neg (by omega)]
    exact h.2 i hi (by omega) r hr

theorem infoBd : (Tryz.prog.info? 162).map (fun i => (i.zero, i.size, i.bytes)) = some (some (.agg #[.int .i64 0, .int .i64 0]), 2, 16) := by kernel_rfl
theorem mk_BdS (n : Nat) (hn : n ≤ 1048576) (w : World) :
    (Instr.makeSlice 59 (.int .i64 (n : Int)) (.int .i64 (n : Int))).run Tryz.prog w = .ok (.slice (some ⟨w.heap.size, 0, none⟩) n n) (w.alloc (.cells (madeCells #[.int .i64 0, .int .i64 0] (n * 2)) 162)) := by
  obtain ⟨i, hi, hzz⟩ := Option.map_eq_some_iff.1 infoBd
  simp only [Prod.mk.injEq] at hzz
  obtain ⟨hz, hs, hb⟩ := hzz
  have := run_make (P := Tryz.prog) w 59 162 i _ Tryz.underlying59 hi hz .i64 .i64 n n (by omega) (Int.le_refl _) (by rw [hb]; omega) (by omega)
  rw [hs, show (Value.agg #[.int .i64 0, .int .i64 0]).cells = #[.int .i64 0, .int .i64 0] from by simp [Value.cells]] at this
  simpa using this

abbrev BdBlk := RBlk 162 2 Bd.c

theorem Bd.marks (cur : Array Value) (k0 j n : Nat) (x0 x1 : Value) (hj : j < n) (hs : n * 2 ≤ cur.size) (h : ∀ i, i < j → ∀ r, r < 2 → cur[i * 2 + r]? = some (Bd.mv r (k0 + i * 2 + r)))
    (h0 : x0 = Bd.mv 0 (k0 + j * 2 + 0)) (h1 : x1 = Bd.mv 1 (k0 + j * 2 + 1)) :
    ∀ i, i < j + 1 → ∀ r, r < 2 → (((cur.setIfInBounds (j * 2) (x0)).setIfInBounds (j * 2 + 1) (x1)))[i * 2 + r]? = some (Bd.mv r (k0 + i * 2 + r)) := by
  intro i hi r hr
  simp only [Array.getElem?_setIfInBounds, Array.size_setIfInBounds]
  by_cases e : i = j
  · subst e
    match r, hr with
    | 0, _ => rw [if_neg (by omega), if_pos (by omega), if_pos (by omega), h0]
    | 1, _ => rw [if_pos rfl, if_pos (by omega), h1]
  · rw [if_neg (by omega), if_neg (by omega)]
    exact h i (by omega) r hr

end Go.Proofs.YtnmkbpflbfhpnaaGreat.W

/-
  Machines in memory: what is read, what is one's own, what bears marks; contracts of the laws' functions over machines. Conditions: at most 1048576 elements a row.
-/
namespace Go.Proofs.YtnmkbpflbfhpnaaGreat.W
open Go.ChangeShapes Go.WideShapes Go.ChangeAt Go.RowKit
set_option linter.unusedVariables false

structure Mc where
  done : Bool
  pl : Int
  env : Int
  val : Int
  fs : List Fm
  vs : List Vl
  bs : List Bd

/-- But for blocks from lo up to hi all is as it was; there may be new blocks. -/
structure Btw (lo hi : Nat) (w w' : World) : Prop where
  os : w'.os = w.os
  tape : w'.tape = w.tape
  output : w'.output = w.output
  size : w.heap.size ≤ w'.heap.size
  block : ∀ k, k < w.heap.size → (k < lo ∨ hi ≤ k) → w'.heap[k]? = w.heap[k]?
theorem Btw.refl (lo hi : Nat) (w : World) : Btw lo hi w w := ⟨rfl, rfl, rfl, Nat.le_refl _, fun _ _ _ => rfl⟩
theorem Btw.trans {lo hi : Nat} {x y z : World} (h : Btw lo hi x y) (k : Btw lo hi y z) : Btw lo hi x z :=
  ⟨k.os.trans h.os, k.tape.trans h.tape, k.output.trans h.output, Nat.le_trans h.size k.size, fun i hi hn => (k.block i (Nat.lt_of_lt_of_le hi h.size) hn).trans (h.block i hi hn)⟩
theorem Btw.ofBelow {lo hi : Nat} {x y : World} (h : Below x.heap.size x y) : Btw lo hi x y := ⟨h.os, h.tape, h.output, h.size, fun k hk _ => h.block k hk⟩
theorem Btw.ofGrown {lo hi : Nat} {x y : World} {row : Option Nat} (h : x.grownBy y row) (hr : ∀ k, row = some k → lo ≤ k ∧ k < hi) : Btw lo hi x y :=
  ⟨h.os, h.tape, h.output, h.size, fun k hk hn => h.block k hk (fun e => by have := hr k e.symm; omega)⟩
theorem Btw.below {lo hi : Nat} {x y : World} (h : Btw lo hi x y) (hl : lo ≤ x.heap.size) : Below lo x y := ⟨h.os, h.tape, h.output, h.size, fun k hk => h.block k (by omega) (.inl hk)⟩

/-- Blocks of one's own, from lo up to hi. -/
def Own (lo hi : Nat) (T : TypeId) (z : Nat) (w : World) (v : Value) (n : Nat) (xs : List Value) : Prop := w.ownsRow lo T z v n xs ∧ ∀ k, v.ownBlock = some k → k < hi
theorem Own.keep {lo hi : Nat} {T : TypeId} {z : Nat} {w w' : World} {v : Value} {n : Nat} {xs : List Value} (h : Own lo hi T z w v n xs) (hw : hi ≤ w.heap.size) (hk : ∀ k, lo ≤ k → k < hi → w'.heap[k]? = w.heap[k]?) : Own lo hi T z w' v n xs := by
  refine ⟨⟨h.1.1, ?_⟩, h.2⟩
  rcases h.1.2 with h2 | ⟨g, cap, cur, h1, hg, hh, h3⟩
  · exact .inl h2
  · exact .inr ⟨g, cap, cur, h1, hg, (hk g hg (h.2 g (by rw [h1]; rfl))).trans hh, h3⟩
theorem Own.wide {lo hi lo' hi' : Nat} {T : TypeId} {z : Nat} {w : World} {v : Value} {n : Nat} {xs : List Value} (h : Own lo hi T z w v n xs) (h1 : lo' ≤ lo) (h2 : hi ≤ hi') : Own lo' hi' T z w v n xs :=
  ⟨own_lower h.1 h1, fun k hk => Nat.lt_of_lt_of_le (h.2 k hk) h2⟩
theorem Own.ofOwn {lo : Nat} {T : TypeId} {z : Nat} {w : World} {v : Value} {n : Nat} {xs : List Value} (h : w.ownsRow lo T z v n xs) : Own lo w.heap.size T z w v n xs := by
  refine ⟨h, fun k hk => (h.lt k hk).2⟩
theorem RBlk.owns {α : Type} {T : TypeId} {z : Nat} {f : α → Nat → Value} {w : World} {b base : Nat} {l : List α} (h : RBlk T z f w b l) (hb : base ≤ b) (hl : l.length ≤ 1048576) : w.ownsRow base T z (.slice (some ⟨b, 0, none⟩) l.length l.length) l.length (rcells z f l) := by
  obtain ⟨cur, hh, hF⟩ := h
  refine ⟨rcells_len z f l, .inr ⟨b, l.length, cur, rfl, hb, hh, Nat.le_refl _, by unfold maxLen; omega, hF.1, ?_⟩⟩
  apply List.ext_getElem?
  intro i
  by_cases hi : i < l.length * z
  · have hz : 0 < z := by rcases Nat.eq_zero_or_pos z with e | e; · subst e; simp at hi
                          · exact e
    have h1 : i = (i / z) * z + i % z := by rw [Nat.mul_comm]; exact (Nat.div_add_mod i z).symm
    have h2 : i / z < l.length := Nat.div_lt_of_lt_mul (by rw [Nat.mul_comm]; exact hi)
    have h3 : i % z < z := Nat.mod_lt _ hz
    rw [List.getElem?_take_of_lt hi]
    have e1 := hF.2 (i / z) h2 h2 (i % z) h3
    have e2 := rcells_at z f l (i / z) h2 (i % z) h3
    rw [← h1] at e1 e2
    rw [e2]
    simpa using e1
  · rw [List.getElem?_eq_none (by rw [List.length_take]; simp [hF.1]; omega), List.getElem?_eq_none (by rw [rcells_len]; omega)]

/-- A machine that is read in memory. -/
def MRow (w : World) (v : Value) (m : Mc) : Prop := ∃ af cf av cv ab cb, v = .agg #[.bool m.done, .int .i64 m.pl, .int .i64 m.env, .int .i64 m.val, .slice af m.fs.length cf, .slice av m.vs.length cv, .slice ab m.bs.length cb] ∧
  FmRow w af m.fs ∧ VlRow w av m.vs ∧ BdRow w ab m.bs ∧ m.fs.length ≤ 1048576 ∧ m.vs.length ≤ 1048576 ∧ m.bs.length ≤ 1048576 ∧ m.fs.length ≤ cf ∧ m.vs.length ≤ cv ∧ m.bs.length ≤ cb
theorem MRow.below {w w' : World} {v : Value} {m : Mc} (h : MRow w v m) (hb : Below w.heap.size w w') : MRow w' v m := by
  obtain ⟨af, cf, av, cv, ab, cb, h0, h1, h2, h3, h4⟩ := h
  exact ⟨af, cf, av, cv, ab, cb, h0, h1.below hb, h2.below hb, h3.below hb, h4⟩
/-- A machine whose rows are one's own. -/
def MOwn (lo hi : Nat) (w : World) (v : Value) (m : Mc) : Prop := ∃ sf sv sb, v = .agg #[.bool m.done, .int .i64 m.pl, .int .i64 m.env, .int .i64 m.val, sf, sv, sb] ∧
  Own lo hi 141 4 w sf m.fs.length (rcells 4 Fm.c m.fs) ∧ Own lo hi 69 4 w sv m.vs.length (rcells 4 Vl.c m.vs) ∧ Own lo hi 162 2 w sb m.bs.length (rcells 2 Bd.c m.bs) ∧ m.fs.length ≤ 1048576 ∧ m.vs.length ≤ 1048576 ∧ m.bs.length ≤ 1048576
theorem own_cap {w : World} {base n size c : Nat} {ad : Option Addr} {e : TypeId} {xs : List Value} (h : w.ownsRow base e size (.slice ad n c) n xs) : n ≤ c := by
  rcases h.2 with ⟨h1, h2⟩ | ⟨g, cap, cur, h1, _, _, h2, _⟩
  · omega
  · simp only [Value.slice.injEq] at h1; omega
theorem MOwn.row {lo hi : Nat} {w : World} {v : Value} {m : Mc} (h : MOwn lo hi w v m) : MRow w v m := by
  obtain ⟨sf, sv, sb, h0, h1, h2, h3, h4, h5, h6⟩ := h
  obtain ⟨af, cf, rfl⟩ := own_form h1.1
  obtain ⟨av, cv, rfl⟩ := own_form h2.1
  obtain ⟨ab, cb, rfl⟩ := own_form h3.1
  exact ⟨af, cf, av, cv, ab, cb, h0, RRow.ofOwn h1.1 rfl, RRow.ofOwn h2.1 rfl, RRow.ofOwn h3.1 rfl, h4, h5, h6, own_cap h1.1, own_cap h2.1, own_cap h3.1⟩
theorem MOwn.keep {lo hi : Nat} {w w' : World} {v : Value} {m : Mc} (h : MOwn lo hi w v m) (hw : hi ≤ w.heap.size) (hk : ∀ k, lo ≤ k → k < hi → w'.heap[k]? = w.heap[k]?) : MOwn lo hi w' v m := by
  obtain ⟨sf, sv, sb, h0, h1, h2, h3, h4⟩ := h
  exact ⟨sf, sv, sb, h0, h1.keep hw hk, h2.keep hw hk, h3.keep hw hk, h4⟩
theorem MOwn.below {lo hi : Nat} {w w' : World} {v : Value} {m : Mc} (h : MOwn lo hi w v m) (hw : hi ≤ w.heap.size) (hb : Below w.heap.size w w') : MOwn lo hi w' v m := h.keep hw (fun k _ hk => hb.block k (by omega))
theorem MOwn.wide {lo hi lo' hi' : Nat} {w : World} {v : Value} {m : Mc} (h : MOwn lo hi w v m) (a : lo' ≤ lo) (b : hi ≤ hi') : MOwn lo' hi' w v m := by
  obtain ⟨sf, sv, sb, h0, h1, h2, h3, h4⟩ := h
  exact ⟨sf, sv, sb, h0, h1.wide a b, h2.wide a b, h3.wide a b, h4⟩

/-- A machine that bears marks from k0 on. -/
def MMk (w : World) (v : Value) (k0 : Nat) (m : Mc) : Prop := ∃ d p e x sf sv sb, v = .agg #[.bool d, .int .i64 p, .int .i64 e, .int .i64 x, sf, sv, sb] ∧
  RMk Fm.mv w sf 141 4 k0 m.fs.length ∧ RMk Vl.mv w sv 69 4 (k0 + m.fs.length * 4) m.vs.length ∧ RMk Bd.mv w sb 162 2 (k0 + m.fs.length * 4 + m.vs.length * 4) m.bs.length
theorem MMk.below {w w' : World} {v : Value} {k0 : Nat} {m : Mc} (h : MMk w v k0 m) (hb : Below w.heap.size w w') : MMk w' v k0 m := by
  obtain ⟨d, p, e, x, sf, sv, sb, h0, h1, h2, h3⟩ := h
  exact ⟨d, p, e, x, sf, sv, sb, h0, h1.below hb, h2.below hb, h3.below hb⟩
def mN (m : Mc) : Nat := m.fs.length * 4 + m.vs.length * 4 + m.bs.length * 2

theorem bcell {W w1 : World} (hb : Below W.heap.size W w1) : (∀ b o, b < W.heap.size → w1.cell? ⟨b, o, none⟩ = W.cell? ⟨b, o, none⟩) ∧ (∀ b o, b < W.heap.size → w1.frozen? ⟨b, o, none⟩ = W.frozen? ⟨b, o, none⟩) :=
  ⟨fun b o h => hb.cell (p := ⟨b, o, none⟩) h, fun b o h => hb.frozen (p := ⟨b, o, none⟩) h⟩

theorem RMk.keep {mv : Nat → Nat → Value} {w w' : World} {v : Value} {T : TypeId} {z k0 n : Nat} (h : RMk mv w v T z k0 n) (hk : ∀ k, v.ownBlock = some k → k < w.heap.size → w'.heap[k]? = w.heap[k]?) : RMk mv w' v T z k0 n := by
  obtain ⟨a, c, h1, h2 | ⟨g, cur, h3, h4, h5⟩⟩ := h
  · exact ⟨a, c, h1, .inl h2⟩
  · exact ⟨a, c, h1, .inr ⟨g, cur, h3, (hk g (by rw [h1, h3]; rfl) (Array.getElem?_eq_some_iff.1 h4).1).trans h4, h5⟩⟩
/-- Rows of two kinds lie in two blocks. -/
theorem own_apart {w : World} {b1 b2 n1 n2 z1 z2 : Nat} {T1 T2 : TypeId} {v1 v2 : Value} {x1 x2 : List Value} (h1 : w.ownsRow b1 T1 z1 v1 n1 x1) (h2 : w.ownsRow b2 T2 z2 v2 n2 x2) (hT : T1 ≠ T2) : ∀ k, v1.ownBlock = some k → v2.ownBlock ≠ some k := by
  intro k e1 e2
  rcases h1.2 with ⟨h, -⟩ | ⟨g, cap, cur, h, -, hh, -⟩
  · rw [h] at e1; cases e1
  · rcases h2.2 with ⟨h', -⟩ | ⟨g', cap', cur', h', -, hh', -⟩
    · rw [h'] at e2; cases e2
    · rw [h] at e1; rw [h'] at e2
      simp only [Value.ownBlock, Option.some.injEq] at e1 e2
      subst e1 e2
      rw [hh] at hh'
      simp only [Option.some.injEq, Obj.cells.injEq] at hh'
      exact hT hh'.2.1
end Go.Proofs.YtnmkbpflbfhpnaaGreat.W

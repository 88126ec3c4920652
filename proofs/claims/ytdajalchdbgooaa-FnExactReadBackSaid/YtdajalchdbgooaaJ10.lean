/-
  Some texts of this proof in one: MaR0, MaR3, RbI.
-/
import Derived.Test.YtdajalchdbgooaaJ08
import Derived.Test.YtdajalchdbgooaaJ09
import Derived.Deep.RegionHeld3
import Derived.Deep.RegionLaw
import Derived.Deep.AppendLies
import Derived.Deep.CutRange
/-
  A running machine of the program in memory: what is kept where fields are written and memory is made. No program here.
-/
namespace Go.Proofs.Ytdajalchdbgooaa.W
open Go.ChangeShapes Go.WideShapes Go.ChangeAt Go.RowKit
set_option linter.unusedVariables false

/-- A running machine in memory. -/
def RB (w : World) (rb lo : Nat) (tv : Value) (m : Mc) : Prop := ∃ sf sv sb, Bx w rb #[tv, .bool m.done, .int .i64 m.pl, .int .i64 m.env, .int .i64 m.val, sf, sv, sb] 77 ∧
  w.ownsRow lo 96 4 sf m.fs.length (rcells 4 Fm.c m.fs) ∧ w.ownsRow lo 74 4 sv m.vs.length (rcells 4 Vl.c m.vs) ∧ w.ownsRow lo 124 2 sb m.bs.length (rcells 2 Bd.c m.bs) ∧ lo ≤ rb
theorem own_bx {w : World} {rb lo n z : Nat} {cs : Array Value} {T T' : TypeId} {v : Value} {xs : List Value} (h : Bx w rb cs T) (ho : w.ownsRow lo T' z v n xs) (hT : T ≠ T') : v.ownBlock ≠ some rb := by
  intro e
  rcases ho.2 with ⟨h1, -⟩ | ⟨g, cap, cur, h1, -, hh, -⟩
  · rw [h1] at e; cases e
  · rw [h1] at e
    simp only [Value.ownBlock, Option.some.injEq] at e
    subst e
    unfold Bx at h
    rw [h] at hh
    simp only [Option.some.injEq, Obj.cells.injEq] at hh
    exact hT hh.2.1
theorem RB.lt {w : World} {rb lo : Nat} {tv : Value} {m : Mc} (h : RB w rb lo tv m) : rb < w.heap.size ∧ lo ≤ rb := by
  obtain ⟨sf, sv, sb, h1, -, -, -, h5⟩ := h
  exact ⟨h1.lt, h5⟩
/-- Only memory was made. -/
theorem RB.below {w w' : World} {rb lo : Nat} {tv : Value} {m : Mc} (h : RB w rb lo tv m) (hb : Below w.heap.size w w') : RB w' rb lo tv m := by
  obtain ⟨sf, sv, sb, h1, h2, h3, h4, h5⟩ := h
  exact ⟨sf, sv, sb, h1.below hb h1.lt, own_keep h2 (fun k _ hk => hb.block k hk), own_keep h3 (fun k _ hk => hb.block k hk), own_keep h4 (fun k _ hk => hb.block k hk), h5⟩
/-- Fields were written. -/
theorem RB.write {w w' : World} {rb lo : Nat} {tv : Value} {m : Mc} {d : Bool} {p e x : Int} (h : RB w rb lo tv m) (ho : Oth rb w w') (hx : ∀ sf sv sb, Bx w rb #[tv, .bool m.done, .int .i64 m.pl, .int .i64 m.env, .int .i64 m.val, sf, sv, sb] 77 → Bx w' rb #[tv, .bool d, .int .i64 p, .int .i64 e, .int .i64 x, sf, sv, sb] 77) : RB w' rb lo tv { m with done := d, pl := p, env := e, val := x } := by
  obtain ⟨sf, sv, sb, h1, h2, h3, h4, h5⟩ := h
  refine ⟨sf, sv, sb, hx _ _ _ h1, own_same h2 (fun k hk _ hl => ho.block k hl (fun e => own_bx h1 h2 (by decide) (e ▸ hk))), own_same h3 (fun k hk _ hl => ho.block k hl (fun e => own_bx h1 h3 (by decide) (e ▸ hk))), own_same h4 (fun k hk _ hl => ho.block k hl (fun e => own_bx h1 h4 (by decide) (e ▸ hk))), h5⟩
theorem oth_set {b : Nat} {x y : World} (h : Oth b x y) (i : Nat) (v : Value) : Oth b x (y.setCell ⟨b, i, none⟩ v) := h.setCell i v
theorem oth_alloc {b : Nat} {x y : World} (h : Oth b x y) (hb : b < x.heap.size) (o : Obj) : Oth b x (y.alloc o) := h.trans (Oth.ofBelow ((Below.refl _ _).alloc (Nat.le_refl _) _))
theorem oth_drew {b : Nat} {x y : World} (h : Oth b x y) : Oth b x y.drew := ⟨h.os, h.tape, h.output, h.size, h.block⟩

theorem rcells_drop {α : Type} (z : Nat) (f : α → Nat → Value) (l : List α) : rcells z f l.dropLast = (rcells z f l).take ((l.length - 1) * z) := by
  rcases List.eq_nil_or_concat l with rfl | ⟨a, x, rfl⟩
  · simp [rcells]
  · rw [List.concat_eq_append, List.dropLast_concat, rcells_app, List.length_append, List.take_append_of_le_length (by rw [rcells_len]; simp), List.take_of_length_le (by rw [rcells_len]; simp)]
theorem own_cut {α : Type} {w : World} {lo n z c : Nat} {f : α → Nat → Value} {T : TypeId} {ad : Option Addr} {l : List α} (h : w.ownsRow lo T z (.slice ad n c) n (rcells z f l)) (hn : n = l.length) (hp : 0 < n) : w.ownsRow lo T z (.slice ad (n - 1) c) (n - 1) (rcells z f l.dropLast) := by
  subst hn
  refine ⟨by rw [rcells_len]; simp, ?_⟩
  rcases h.2 with ⟨h1, h2⟩ | ⟨g, cap, cur, h1, hg, hh, h2, h3, h4, h5⟩
  · omega
  · simp only [Value.slice.injEq] at h1
    obtain ⟨rfl, -, rfl⟩ := h1
    refine .inr ⟨g, c, cur, rfl, hg, hh, by omega, h3, h4, ?_⟩
    rw [rcells_drop, ← h5, List.take_take]
    congr 1
    exact (Nat.min_eq_left (Nat.mul_le_mul_right _ (by omega))).symm

theorem RB.slots {w : World} {rb lo : Nat} {tv : Value} {m : Mc} (h : RB w rb lo tv m) : ∃ af cf av cv ab cb, Bx w rb #[tv, .bool m.done, .int .i64 m.pl, .int .i64 m.env, .int .i64 m.val, .slice af m.fs.length cf, .slice av m.vs.length cv, .slice ab m.bs.length cb] 77 ∧
    w.ownsRow lo 96 4 (.slice af m.fs.length cf) m.fs.length (rcells 4 Fm.c m.fs) ∧ w.ownsRow lo 74 4 (.slice av m.vs.length cv) m.vs.length (rcells 4 Vl.c m.vs) ∧ w.ownsRow lo 124 2 (.slice ab m.bs.length cb) m.bs.length (rcells 2 Bd.c m.bs) ∧ m.fs.length ≤ cf ∧ m.vs.length ≤ cv ∧ m.bs.length ≤ cb ∧ cf ≤ maxLen := by
  obtain ⟨sf, sv, sb, h1, h2, h3, h4, h5⟩ := h
  obtain ⟨af, cf, rfl⟩ := own_form h2
  obtain ⟨av, cv, rfl⟩ := own_form h3
  obtain ⟨ab, cb, rfl⟩ := own_form h4
  refine ⟨af, cf, av, cv, ab, cb, h1, h2, h3, h4, own_cap h2, own_cap h3, own_cap h4, ?_⟩
  rcases h2.2 with ⟨e, -⟩ | ⟨g, cap, cur, e, -, -, -, e2, -⟩
  · simp only [Value.slice.injEq] at e; unfold maxLen; omega
  · simp only [Value.slice.injEq] at e; omega

end Go.Proofs.Ytdajalchdbgooaa.W

/-
  Contracts of cell, partNo, cameTo and boundTo. Conditions: places, bindings and values that are there.
-/
namespace Go.Proofs.Ytdajalchdbgooaa.W
open Go.ChangeShapes Go.WideShapes Go.ChangeAt Go.RowKit
set_option linter.unusedVariables false

theorem fieldCell : ∀ (a b : Int) (w : World), (Instr.field 59 (.agg #[.int .i64 a, .int .i64 b]) 0).run Try.prog w = .ok (.int .i64 a) w := fun _ _ _ => by kernel_rfl
theorem fieldVal : ∀ (d : Bool) (a b c : Int) (w : World), (Instr.field 74 (.agg #[.bool d, .int .i64 a, .int .i64 b, .int .i64 c]) 0).run Try.prog w = .ok (.bool d) w := fun _ _ _ _ _ => by kernel_rfl

set_option maxHeartbeats 1000000 in
theorem taskCell_any (ad : Option Addr) (c : Nat) (l : List Cc) (p : Nat) (e : Int) (w : World) (h : CRow w ad l) (hp : p < l.length) (hl : l.length ≤ 1048576) :
    Calls Try.prog 100 #[.agg #[.slice ad l.length c, .int .i64 (p : Int), .int .i64 e]] w fun r w' => r = .returned (.agg #[.int .i64 l[p].k, .int .i64 l[p].n]) ∧ Below w.heap.size w w' := by
  obtain ⟨b, o, rfl, hb, q0, q1⟩ := h.tok (Below.refl _ _) hp
  have hp' : (p : Int) < (l.length : Int) := by omega
  have hp0 : (0 : Int) ≤ (p : Int) := by omega
  obtain ⟨x, hx⟩ : ∃ x, x = l[p] := ⟨_, rfl⟩
  rw [← hx] at q0 q1 ⊢
  clear hx h
  have a0 : ((w.alloc (.cells #[.slice (some ⟨b, o, none⟩) l.length c, .int .i64 (p : Int), .int .i64 e] 163)).alloc (.cells #[.int .i64 0, .int .i64 0] 59)).cell? ⟨b, o + p * 2, none⟩ = some (.int .i64 x.k) := by rw [World.cell?_alloc_some _ _ _ (by rw [World.cell?_alloc_some _ _ _ (by rw [q0]; rfl), q0]; rfl), World.cell?_alloc_some _ _ _ (by rw [q0]; rfl)]; exact q0
  have a1 : ((w.alloc (.cells #[.slice (some ⟨b, o, none⟩) l.length c, .int .i64 (p : Int), .int .i64 e] 163)).alloc (.cells #[.int .i64 0, .int .i64 0] 59)).cell? ⟨b, o + p * 2 + 1, none⟩ = some (.int .i64 x.n) := by rw [World.cell?_alloc_some _ _ _ (by rw [World.cell?_alloc_some _ _ _ (by rw [q1]; rfl), q1]; rfl), World.cell?_alloc_some _ _ _ (by rw [q1]; rfl)]; exact q1
  go_enter Try.func100, Try.ntmps100
  go_wp2_with fail
  exact bodyPost_ret (v := .agg #[.int .i64 x.k, .int .i64 x.n]) (by simp [results, Try.results100, go_sem]) rfl ⟨rfl, ((Below.refl _ _).alloc (Nat.le_refl _) _).alloc (by simp) _⟩

set_option maxHeartbeats 1000000 in
theorem cameTo_any (d : Bool) (p e : Int) (x : Nat) (sf sb : Value) (av : Option Addr) (cv : Nat) (vs : List Vl) (w : World) (h : VlRow w av vs) (hx : x < vs.length) (hl : vs.length ≤ 1048576) :
    Calls Try.prog 46 #[.agg #[.bool d, .int .i64 p, .int .i64 e, .int .i64 (x : Int), sf, .slice av vs.length cv, sb]] w fun r w' => r = .returned vs[x].v ∧ Below w.heap.size w w' := by
  obtain ⟨b, o, rfl, hb, q0, q1, q2, q3⟩ := VlRow.tok h (Below.refl _ _) hx
  have hp' : (x : Int) < (vs.length : Int) := by omega
  have hp0 : (0 : Int) ≤ (x : Int) := by omega
  obtain ⟨y, hy⟩ : ∃ y, y = vs[x] := ⟨_, rfl⟩
  rw [← hy] at q0 q1 q2 q3 ⊢
  clear hy h
  have aa : ∀ i v (o1 o2 : Obj), w.cell? ⟨b, i, none⟩ = some v → ((w.alloc o1).alloc o2).cell? ⟨b, i, none⟩ = some v := fun i v o1 o2 hv => by rw [World.cell?_alloc_some _ _ _ (by rw [World.cell?_alloc_some _ _ _ (by rw [hv]; rfl), hv]; rfl), World.cell?_alloc_some _ _ _ (by rw [hv]; rfl)]; exact hv
  have a0 := fun o1 o2 => aa _ _ o1 o2 q0
  have a1 := fun o1 o2 => aa _ _ o1 o2 q1
  have a2 := fun o1 o2 => aa _ _ o1 o2 q2
  have a3 := fun o1 o2 => aa _ _ o1 o2 q3
  clear aa
  go_enter Try.func46, Try.ntmps46
  go_wp2_with fail
  exact bodyPost_ret (v := y.v) (by simp [results, Try.results46, go_sem]) rfl ⟨rfl, ((Below.refl _ _).alloc (Nat.le_refl _) _).alloc (by simp) _⟩

set_option maxHeartbeats 1000000 in
theorem boundTo_any (d : Bool) (p e x : Int) (sf sv : Value) (ab : Option Addr) (cb nv : Nat) (bs : List Bd) (env : Int) (n : Nat) (w : World) (h : BdRow w ab bs) (hb : bsOk nv bs = true) (he : -1 ≤ env ∧ env < bs.length) (hn : (n : Int) < (bw bs env).1) (hl : bs.length ≤ 1048576) :
    Calls Try.prog 92 #[.agg #[.bool d, .int .i64 p, .int .i64 e, .int .i64 x, sf, sv, .slice ab bs.length cb], .int .i64 env, .int .i64 (n : Int)] w fun r w' => r = .returned (.int .i64 (lkB bs n env)) ∧ Below w.heap.size w w' := by
  have HR := hide h
  have HB := hide hb
  have HN : Hid (n ≤ 1048576) := hide (by have := bw_bound hb (env.toNat + 1) env he.1 (by omega) he.2; omega)
  have hn6 := HN.out
  clear h hb HN
  go_enter Try.func92, Try.ntmps92
  go_wp2_with fail
  have hX := Bx.new w #[.bool d, .int .i64 p, .int .i64 e, .int .i64 x, sf, sv, .slice ab bs.length cb] 28
  have hB0 : Below w.heap.size w (w.alloc (.cells #[.bool d, .int .i64 p, .int .i64 e, .int .i64 x, sf, sv, .slice ab bs.length cb] 28)) := (Below.refl _ _).alloc (Nat.le_refl _) _
  obtain ⟨w0, hw0⟩ : ∃ w0, w0 = w.alloc (.cells #[.bool d, .int .i64 p, .int .i64 e, .int .i64 x, sf, sv, .slice ab bs.length cb] 28) := ⟨_, rfl⟩
  rw [← hw0] at hX hB0 ⊢
  have hcx := hX.c
  clear hw0 hX
  go_loopw [1, 8] (fun ev i w' => ∃ (j : Nat) (en : Int), j ≤ n ∧ i = .int .i64 (j : Int) ∧ ev = .int .i64 en ∧ -1 ≤ en ∧ en < bs.length ∧ ((n - j : Nat) : Int) < (bw bs en).1 ∧ lkB bs (n - j) en = lkB bs n env ∧ w' = w0) (fun _ i _ => n - (intOf i).toNat)
  case atStart => exact ⟨0, env, by omega, rfl, rfl, he.1, he.2, by simpa using hn, by simp, rfl⟩
  case round =>
    obtain ⟨j, en, hj, rfl, rfl, e1, e2, e3, e4, rfl⟩ := hrel
    have e5 := (lkB_ok HB.out (n - j) en e2 e3).2.2
    obtain ⟨k, rfl⟩ := Int.eq_ofNat_of_zero_le e5
    have hk : k < bs.length := by omega
    have hk' : (k : Int) < (bs.length : Int) := by omega
    obtain ⟨b, o, rfl, hb, q0, q1⟩ := BdRow.tok HR.out hB0 hk
    have E4 := hide e4
    have E3 := hide e3
    have hbk := bsOk_at HB.out hk
    have HS := hide (bw_step HB.out hk)
    have HL0 : Hid (lkB bs 0 (k : Int) = bs[k].val) := hide (by unfold lkB; rw [Int.toNat_natCast, List.getElem?_eq_getElem hk])
    have HL1 : Hid (∀ i, lkB bs (i + 1) (k : Int) = lkB bs i bs[k].up) := hide (fun i => by rw [lkB, Int.toNat_natCast, List.getElem?_eq_getElem hk])
    obtain ⟨y, hy⟩ : ∃ y, y = bs[k] := ⟨_, rfl⟩
    rw [← hy] at q0 q1 hbk HS HL0 HL1
    clear hy e4 e3
    by_cases hlt : j < n
    · have hlt' : (j : Int) < (n : Int) := by omega
      clear q0
      go_wp2_with fail
      have h3 := E3.out
      rw [HS.out] at h3
      simp only at h3
      refine ⟨⟨j + 1, y.up, by omega, by go_num, rfl, by omega, by omega, by omega, ?_, trivial⟩, by simp [intOf]; omega⟩
      rw [← E4.out, show n - j = (n - (j + 1)) + 1 by omega, HL1.out]
    · obtain rfl : j = n := by omega
      clear q1
      go_wp2_with fail
      go_ret
      have h4 := E4.out
      rw [Nat.sub_self, HL0.out] at h4
      exact ⟨ret_int h4, hB0⟩
end Go.Proofs.Ytdajalchdbgooaa.W

/-
  Values read back by the program: contracts of valuePart and its function literal. Conditions: a good machine.
-/
namespace Go.Proofs.Ytdajalchdbgooaa.W
open Go.ChangeShapes Go.WideShapes Go.ChangeAt Go.RowKit
set_option linter.unusedVariables false

/-- The blocks of a world stand in another one. -/
def Hp (w w' : World) : Prop := w.heap.size ≤ w'.heap.size ∧ ∀ k, k < w.heap.size → w'.heap[k]? = w.heap[k]?
theorem Hp.cell {w w' : World} (h : Hp w w') {b o : Nat} {v : Value} (hc : w.cell? ⟨b, o, none⟩ = some v) : w'.cell? ⟨b, o, none⟩ = some v :=
  (World.cell?_of_block (a := ⟨b, o, none⟩) (h.2 b (World.block_lt_of_cell? w _ hc))).trans hc
theorem Hp.crow {w w' : World} (h : Hp w w') {b o : Nat} {l : List Cc} (hr : CRowAt w b o l) : CRowAt w' b o l :=
  ⟨Nat.lt_of_lt_of_le hr.1 h.1, fun i hi => ⟨h.cell (hr.2 i hi).1, h.cell (hr.2 i hi).2⟩⟩
theorem Hp.row {α : Type} {z : Nat} {f : α → Nat → Value} {w w' : World} (h : Hp w w') {ad : Option Addr} {l : List α} (hr : RRow z f w ad l) : RRow z f w' ad l := by
  rcases hr with hr | ⟨b, o, h1, h2, h3⟩
  · exact .inl hr
  · exact .inr ⟨b, o, h1, Nat.lt_of_lt_of_le h2 h.1, fun i hi r hr => h.cell (h3 i hi r hr)⟩

/-- The machine that is read back, as it stands ahead of the reading, and where it lies. -/
structure RdB where
  wB : World
  d : Bool
  p : Int
  e : Int
  x : Int
  af : Option Addr
  nf : Nat
  cf : Nat
  av : Option Addr
  cv : Nat
  ab : Option Addr
  cb : Nat
  tb : Nat
  tof : Nat
  c : Nat
  l : List Cc
  a : F
  m : Mc
structure RdB.ok (B : RdB) : Prop where
  cl : Cl B.l B.a
  gm : GM B.a B.l B.m
  vr : VlRow B.wB B.av B.m.vs
  br : BdRow B.wB B.ab B.m.bs
  cr : CRowAt B.wB B.tb B.tof B.l
  hc : B.l.length ≤ B.c
def RdB.cells (B : RdB) (s : Int) : Array Value := #[.bool B.d, .int .i64 B.p, .int .i64 B.e, .int .i64 B.x, .slice B.af B.nf B.cf, .slice B.av B.m.vs.length B.cv, .slice B.ab B.m.bs.length B.cb, .slice (some ⟨B.tb, B.tof, none⟩) B.l.length B.c, .int .i64 s]
/-- What is read back lies at the block behind that world, with so many counted. -/
def RdB.core (B : RdB) (s : Int) (w : World) : Prop := Bx w B.wB.heap.size (B.cells s) 107 ∧ Hp B.wB w
theorem RdB.core.keep {B : RdB} {s : Int} {w w' : World} (h : B.core s w) (hk : ∀ k, k < w.heap.size → w'.heap[k]? = w.heap[k]?) (hs : w.heap.size ≤ w'.heap.size) : B.core s w' :=
  ⟨(hk _ h.1.lt).trans h.1, Nat.le_trans h.2.1 hs, fun k hk' => (hk k (Nat.lt_of_lt_of_le hk' h.2.1)).trans (h.2.2 k hk')⟩
theorem RdB.core.below {B : RdB} {s : Int} {w w' : World} (h : B.core s w) (hb : Below w.heap.size w w') : B.core s w' := h.keep (fun k hk => hb.block k hk) hb.size
theorem RdB.core.inv {B : RdB} {s : Int} {w : World} (h : B.core s w) : Inv B.wB.heap.size (B.core s) w := fun w' h1 h2 => h.keep h2 h1
theorem RdB.core.set {B : RdB} {s : Int} {w : World} (h : B.core s w) (s' : Int) : B.core s' (w.setCell ⟨B.wB.heap.size, 8, none⟩ (.int .i64 s')) := by
  refine ⟨?_, by simp [World.setCell]; exact h.2.1, fun k hk => ?_⟩
  · have := h.1.set 8 (.int .i64 s')
    simpa [RdB.cells] using this
  · rw [Below.heap_setCell _ _ _ _ (show k ≠ B.wB.heap.size by omega)]; exact h.2.2 k hk

def VPGoal (B : RdB) (f : Nat) : Prop := ∀ (j : Nat) (s : Int) (w : World), j < f → j < B.m.vs.length → B.core s w →
    Calls Try.prog 62 #[.pointer (some ⟨B.wB.heap.size, 0, none⟩), .int .i64 (j : Int)] w fun e w' => e = .returned (pvT (rbW B.l B.m.vs B.m.bs f (j : Int) s).1) ∧ B.core (rbW B.l B.m.vs B.m.bs f (j : Int) s).2 w' ∧ Oth B.wB.heap.size w w'

theorem rbW_len (l : List Cc) (vs : List Vl) (bs : List Bd) : ∀ (f : Nat) (j s : Int), (rbW l vs bs f j s).1.len = 1
  | 0, j, s => rfl
  | f + 1, j, s => by
    rw [rbW]
    split
    · rfl
    · split
      · split
        · rename_i t _ ht
          split
          · rfl
          · rw [wv_len (fun s n d => by unfold rbGw; split; rfl; exact rbW_len l vs bs f _ _)]
            exact (rt_flat ht).2.2
        · rfl
      · rfl
theorem ent_vp1 : ∀ args w, (callFunc 91 args).run Try.prog w = .ok (.enter 91 args) w := fun args w => by kernel_rfl

/-- What the function literal wants in memory. -/
def RdB.lit (B : RdB) (bb bv : Nat) (v : Vl) (s : Int) (w : World) : Prop := B.core s w ∧ Bx w bb #[.pointer (some ⟨B.wB.heap.size, 0, none⟩)] 146 ∧ Bx w bv #[.bool v.fn, .int .i64 v.num, .int .i64 v.pl, .int .i64 v.env] 74
theorem RdB.lit.keep {B : RdB} {bb bv : Nat} {v : Vl} {s : Int} {w w' : World} (h : B.lit bb bv v s w) (hk : ∀ k, k < w.heap.size → w'.heap[k]? = w.heap[k]?) (hs : w.heap.size ≤ w'.heap.size) : B.lit bb bv v s w' :=
  ⟨h.1.keep hk hs, (hk _ h.2.1.lt).trans h.2.1, (hk _ h.2.2.lt).trans h.2.2⟩
theorem RdB.lit.inv {B : RdB} {bb bv : Nat} {v : Vl} {s : Int} {w : World} (h : B.lit bb bv v s w) : Inv B.wB.heap.size (B.lit bb bv v s) w := fun w' h1 h2 => h.keep h2 h1

set_option maxRecDepth 20000 in
set_option maxHeartbeats 4000000 in
theorem vp1_chg (B : RdB) (hok : B.ok) (f : Nat) (ih : VPGoal B f) (bb bv j : Nat) (v : Vl) (hjv : j < B.m.vs.length) (hj : j ≤ f) (hv : B.m.vs[j] = v) (hf : v.fn = true) (hbb : bb ≠ B.wB.heap.size) (hbv : bv ≠ B.wB.heap.size) :
    ChgD (fun n d => n - (d : Int) < (bw B.m.bs v.env).1) 91 #[.pointer (some ⟨bb, 0, none⟩), .pointer (some ⟨bv, 0, none⟩)] B.wB.heap.size (B.lit bb bv v) (rbGw (rbW B.l B.m.vs B.m.bs f) B.m.bs v.env) (rbUw (rbW B.l B.m.vs B.m.bs f) B.m.bs v.env) := by
  intro s n d w h0 h9 hd hD hcb hinv
  have hL := hinv.get
  show Calls _ _ #[.agg #[.int .i64 n], .int .i64 (d : Int), .pointer (some ⟨bb, 0, none⟩), .pointer (some ⟨bv, 0, none⟩)] _ _
  by_cases hn : n < (d : Int)
  · have eg : rbGw (rbW B.l B.m.vs B.m.bs f) B.m.bs v.env s n d = .cons ⟨1, n⟩ .nil .nil := by unfold rbGw; rw [if_pos hn]
    have eu : rbUw (rbW B.l B.m.vs B.m.bs f) B.m.bs v.env s n d = s := by unfold rbUw; rw [if_pos hn]
    rw [eg, eu]
    have HL := hide hL
    clear hinv hL ih hok
    go_enter Try.func91, Try.ntmps91
    go_wp2_with fail
    go_ret
    have hb := (Below.refl w.heap.size w).alloc (Nat.le_refl _) (.cells #[.int .i64 n] 154)
    exact ⟨rfl, (HL.out.keep (fun k hk => hb.block k hk) hb.size).inv, Oth.ofBelow hb⟩
  · obtain ⟨q, hq⟩ : ∃ q : Nat, q = (n - (d : Int)).toNat := ⟨_, rfl⟩
    have hqi : n - (d : Int) = (q : Int) := by omega
    have eg : rbGw (rbW B.l B.m.vs B.m.bs f) B.m.bs v.env s n d = (rbW B.l B.m.vs B.m.bs f (lkB B.m.bs q v.env) (wrap64 (s - 1))).1 := by unfold rbGw; rw [if_neg hn, hq]
    have eu : rbUw (rbW B.l B.m.vs B.m.bs f) B.m.bs v.env s n d = (rbW B.l B.m.vs B.m.bs f (lkB B.m.bs q v.env) (wrap64 (s - 1))).2 := by unfold rbUw; rw [if_neg hn, hq]
    rw [eg, eu]
    subst hv
    obtain ⟨x, k, r, hr, hx, hgx, hkx, hox, hfb, pl0, pl1, he, hw0, hlt, hle, hsz⟩ := val_part hok.cl hok.gm hjv hf
    have hbs := hok.gm.bs
    have q1 := lkB_ok hbs q B.m.vs[j].env he.2 (by omega)
    have q2 := lkB_le hbs q B.m.vs[j].env he.2 (by omega)
    obtain ⟨y, hy⟩ := Int.eq_ofNat_of_zero_le q1.1
    have hyf : y < f := by omega
    have hyv : y < B.m.vs.length := by omega
    have HBT := hide (fun (w' : World) (hr : BdRow w' B.ab B.m.bs) => boundTo_any B.d B.p B.e B.x (.slice B.af B.nf B.cf) (.slice B.av B.m.vs.length B.cv) B.ab B.cb B.m.vs.length B.m.bs B.m.vs[j].env q w' hr hbs he (by omega) (by have := hok.gm.nb; omega))
    rw [hy] at HBT
    have HV := hide (fun (s : Int) (w : World) (h : B.core s w) => ih y s w hyf hyv h)
    have HE := hide (fun (s : Int) => rbW_len B.l B.m.vs B.m.bs f (y : Int) s)
    rw [hy]
    have HBr := hide hok.br
    obtain ⟨env, henv⟩ : ∃ env, env = B.m.vs[j].env := ⟨_, rfl⟩
    have hD1 : IntKind.i64.wrap (n - (d : Int)) = (q : Int) := by rw [IntWalk.i64_in _ ⟨by omega, by omega⟩]; exact hqi
    have HL := hide hL
    rw [← henv] at HBT
    unfold RdB.lit at HL
    rw [← henv] at HL
    have HEn : Hid (B.m.vs[j].env = env) := hide henv.symm
    clear eg eu hr hx hgx hkx hox hfb pl0 pl1 he hw0 hlt hle hsz hbs q1 q2 hy hyf hyv hq hinv hL ih hok hD henv hf hqi
    obtain ⟨WS, hWS⟩ : ∃ WS, WS = wrap64 (s - 1) := ⟨_, rfl⟩
    rw [← hWS]
    go_enter Try.func91, Try.ntmps91
    have hc8 := HL.out.1.1.c
    have hf8 := HL.out.1.1.f
    have hcb0 := HL.out.2.1.c
    have hbvl := HL.out.2.2.lt
    have hbbl := HL.out.2.1.lt
    simp only [RdB.cells] at hc8
    go_wp2_with fail
    rw [← hWS]
    obtain ⟨w0, hw0⟩ : ∃ w0, w0 = (w.setCell ⟨B.wB.heap.size, 8, none⟩ (.int .i64 WS)).alloc (.cells #[.int .i64 n] 154) := ⟨_, rfl⟩
    rw [← hw0]
    have hszs : (w.setCell ⟨B.wB.heap.size, 8, none⟩ (.int .i64 WS)).heap.size = w.heap.size := by simp [World.setCell]
    have hcore0 : B.core WS w0 := by rw [hw0]; exact (HL.out.1.set WS).below ((Below.refl _ _).alloc (Nat.le_refl _) _)
    have hx0 : Bx w0 w.heap.size #[.int .i64 n] 154 := by
      have := Bx.new (w.setCell ⟨B.wB.heap.size, 8, none⟩ (.int .i64 WS)) #[.int .i64 n] 154
      rw [hszs] at this
      rw [hw0]
      exact this
    have hb0 : Bx w0 bb #[.pointer (some ⟨B.wB.heap.size, 0, none⟩)] 146 := by rw [hw0]; exact (HL.out.2.1.setne _ _ _ hbb).alloc _
    have hv0 : Bx w0 bv #[.bool B.m.vs[j].fn, .int .i64 B.m.vs[j].num, .int .i64 B.m.vs[j].pl, .int .i64 env] 74 := by rw [hw0]; exact (HL.out.2.2.setne _ _ _ hbv).alloc _
    have hot : Oth B.wB.heap.size w w0 := by
      rw [hw0]
      exact ((Oth.refl _ _).setCell 8 _).trans (Oth.ofBelow ((Below.refl _ _).alloc (Nat.le_refl _) _))
    have HSS : Hid (∀ (w' : World) (s' : Int), Bx w' bb #[.pointer (some ⟨B.wB.heap.size, 0, none⟩)] 146 → Bx w' bv #[.bool B.m.vs[j].fn, .int .i64 B.m.vs[j].num, .int .i64 B.m.vs[j].pl, .int .i64 env] 74 → Bx w' w.heap.size #[.int .i64 n] 154 → Bx w' B.wB.heap.size (B.cells s') 107 → w'.cell? ⟨bb, 0, none⟩ = some (.pointer (some ⟨B.wB.heap.size, 0, none⟩)) ∧ w'.cell? ⟨B.wB.heap.size, 0, none⟩ = some (.bool B.d) ∧ w'.cell? ⟨B.wB.heap.size, 1, none⟩ = some (.int .i64 B.p) ∧ w'.cell? ⟨B.wB.heap.size, 2, none⟩ = some (.int .i64 B.e) ∧ w'.cell? ⟨B.wB.heap.size, 3, none⟩ = some (.int .i64 B.x) ∧ w'.cell? ⟨B.wB.heap.size, 4, none⟩ = some (.slice B.af B.nf B.cf) ∧ w'.cell? ⟨B.wB.heap.size, 5, none⟩ = some (.slice B.av B.m.vs.length B.cv) ∧ w'.cell? ⟨B.wB.heap.size, 6, none⟩ = some (.slice B.ab B.m.bs.length B.cb) ∧ w'.cell? ⟨bv, 3, none⟩ = some (.int .i64 env) ∧ w'.cell? ⟨w.heap.size, 0, none⟩ = some (.int .i64 n)) := hide (fun w' s' k1 k2 k3 k4 => ⟨(k1.c 0).trans rfl, (k4.c 0).trans rfl, (k4.c 1).trans rfl, (k4.c 2).trans rfl, (k4.c 3).trans rfl, (k4.c 4).trans rfl, (k4.c 5).trans rfl, (k4.c 6).trans rfl, (k2.c 3).trans rfl, (k3.c 0).trans rfl⟩)
    have HC0 := hide hcore0
    have HD0 := hide hcore0.1
    have HX0 := hide hx0
    have HB0 := hide hb0
    have HV0 := hide hv0
    have HO0 := hide hot
    have HR0 : Hid (BdRow w0.drew B.ab B.m.bs) := hide (hcore0.2.row HBr.out)
    have hcw : B.wB.heap.size ≠ w.heap.size := by omega
    obtain ⟨u0, u1, u2, u3, u4, u5, u6, u7, u8, u9⟩ := HSS.out w0.drew WS hb0.drew hv0.drew hx0.drew hcore0.1.drew
    clear hw0 hszs hcore0 hx0 hb0 hv0 hot hc8 hf8 hcb0
    go_region_held3 (fun w' => w'.cell? ⟨bb, 0, none⟩ = some (.pointer (some ⟨B.wB.heap.size, 0, none⟩)) ∧ w'.cell? ⟨B.wB.heap.size, 0, none⟩ = some (.bool B.d) ∧ w'.cell? ⟨B.wB.heap.size, 1, none⟩ = some (.int .i64 B.p) ∧ w'.cell? ⟨B.wB.heap.size, 2, none⟩ = some (.int .i64 B.e) ∧ w'.cell? ⟨B.wB.heap.size, 3, none⟩ = some (.int .i64 B.x) ∧ w'.cell? ⟨B.wB.heap.size, 4, none⟩ = some (.slice B.af B.nf B.cf) ∧ w'.cell? ⟨B.wB.heap.size, 5, none⟩ = some (.slice B.av B.m.vs.length B.cv) ∧ w'.cell? ⟨B.wB.heap.size, 6, none⟩ = some (.slice B.ab B.m.bs.length B.cb) ∧ w'.cell? ⟨bv, 3, none⟩ = some (.int .i64 env) ∧ w'.cell? ⟨w.heap.size, 0, none⟩ = some (.int .i64 n)) (first | (with_reducible exact HSS.out _ _ HB0.out.drew HV0.out.drew HX0.out.drew HD0.out.drew) | (with_reducible exact HSS.out _ _ HB1.out HV1.out HX1.out HD1.out) | (with_reducible exact HSS.out _ _ HB2.out HV2.out HX2.out HD2.out))
      (first
        | ((with_reducible refine Calls.mono (HBT.out _ HR0.out) ?_); rintro e W1 ⟨rfl, hx⟩; have HC1 := hide ((show B.core WS W1 from HC0.out.below ⟨hx.os, hx.tape, hx.output, hx.size, hx.block⟩)); have HD1 := hide HC1.out.1; have HB1 := hide (HB0.out.drew.below hx HB0.out.lt); have HV1 := hide (HV0.out.drew.below hx HV0.out.lt); have HX1 := hide (HX0.out.drew.below hx HX0.out.lt); have HO1 := hide (HO0.out.trans (show Oth B.wB.heap.size w0 W1 from ⟨hx.os, hx.tape, hx.output, hx.size, fun k hk _ => hx.block k hk⟩)); clear hx)
        | ((with_reducible refine Calls.mono (HV.out WS _ HC1.out) ?_); obtain ⟨T, u, hT⟩ := pvT_iface (HE.out WS); rintro e W2 ⟨he, hc2, ho2⟩; have he2 := he.trans (congrArg Ending.returned hT); subst he2; have HT := hide hT; have HC2 := hide hc2; have HD2 := hide HC2.out.1; have HB2 : Hid (Bx W2 bb _ _) := hide ((ho2.block bb HB1.out.lt hbb).trans HB1.out); have HV2 : Hid (Bx W2 bv _ _) := hide ((ho2.block bv HV1.out.lt hbv).trans HV1.out); have HX2 : Hid (Bx W2 w.heap.size _ _) := hide ((ho2.block w.heap.size HX1.out.lt (Ne.symm hcw)).trans HX1.out); have HO2 := hide (HO1.out.trans ho2); clear hc2 ho2 he hT))
    go_wp2_with fail
    go_ret
    have hlit : B.lit bb bv B.m.vs[j] (rbW B.l B.m.vs B.m.bs f (y : Int) WS).2 W2 := ⟨HC2.out, HB2.out, by rw [HEn.out]; exact HV2.out⟩
    exact ⟨by rw [HT.out]; rfl, hlit.inv, HO2.out⟩

end Go.Proofs.Ytdajalchdbgooaa.W

/-
  slices.Clone and slices.Insert at the front of a row of one's own, at patterns' cells; putAhead. Conditions: at most 1000 cells. Written by wip/build/mk_msg.py.
-/
import Derived.Test.YtfepljcblajfpabMsE
import Derived.Lib.AppendZerosOnto
import Derived.Lib.Overlaps
import Derived.Lib.SliceRun
import Derived.Laws.Externs
namespace Go.Proofs.Ytfepljcblajfpab.W
open Go.ChangeShapes Go.WideShapes Go.ChangeAt Go.RowKit
set_option linter.unusedVariables false
set_option linter.unusedSimpArgs false

set_option maxRecDepth 20000 in
set_option maxHeartbeats 2000000 in
theorem clonePt_any (v : Value) (l : List Pt) (w : World) (hl : l.length ≤ 1048576) (h : PV w v l) :
    Calls Try.prog 43 #[v] w fun e w' => ∃ v', e = .returned v' ∧ w'.ownsRow w.heap.size 67 2 v' l.length (rcells 2 Pt.c l) ∧ Below w.heap.size w w' := by
  obtain ⟨i0, hi0, z0, z1, z2⟩ := infoPartsT infoPt
  have HI := hide hi0
  obtain ⟨ad, c, rfl, hr, hc⟩ := h
  have HR := hide hr
  cases ad with
  | none =>
    have hl0 : l = [] := by
      rcases hr with h1 | ⟨b, o, h1, -⟩
      · exact h1
      · cases h1
    subst hl0
    clear hi0 hr
    have hnil : ∀ w, (binOp .eql 28 (.slice none 0 c) (.slice none 0 0)).run Try.prog w = .ok (.bool true) w := fun w => by rw [Lib.run_eql_slice_nil w 28 67 _ _ _ _ _ Try.underlying28]; rfl
    simp only [List.length_nil]
    go_enter Try.func43, Try.ntmps43
    go_wp2_with fail
    go_ret
    exact ⟨_, rfl, World.ownsRow_nil _ _ _ _, Below.refl _ _⟩
  | some a =>
    obtain ⟨b, o, sp⟩ := a
    have hnil : ∀ w, (binOp .eql 28 (.slice (some ⟨b, o, sp⟩) l.length c) (.slice none 0 0)).run Try.prog w = .ok (.bool false) w := fun w => by rw [Lib.run_eql_slice_nil w 28 67 _ _ _ _ _ Try.underlying28]; rfl
    have HO0 : Hid ((w.alloc (.cells #[] 67)).ownsRow w.heap.size 67 2 (.slice (some ⟨w.heap.size, 0, none⟩) 0 0) 0 []) := hide ⟨rfl, .inr ⟨w.heap.size, 0, #[], rfl, Nat.le_refl _, heap_alloc_new w _, Nat.le_refl _, by omega, rfl, rfl⟩⟩
    have hb0 : Below w.heap.size w (w.alloc (.cells #[] 67)) := (Below.refl _ _).alloc (Nat.le_refl _) _
    by_cases hl0 : l = []
    · subst hl0
      have hrun : (Builtin.append_ #[28, 28] 28 #[.slice (some ⟨w.heap.size, 0, none⟩) 0 0, .slice (some ⟨b, o, sp⟩) 0 c]).run Try.prog (w.alloc (.cells #[] 67)) = .ok (.slice (some ⟨w.heap.size, 0, none⟩) 0 0) (w.alloc (.cells #[] 67)) := by
        simp [Builtin.append_, run_underlying Try.underlying28, sizeOf, typeInfo, hi0, z1, Builtin.lenOf, Builtin.firstCells, loadCells, loadCellsFrom, storeCells]
      simp only [List.length_nil] at hnil ⊢
      clear hi0 hr HR
      go_enter Try.func43, Try.ntmps43
      go_wp2_with (at_builtin; refine Lib.wpList_append_run _ rfl _ _ _ _ rfl _ _ rfl rfl _ _ hrun ?_)
      go_ret
      exact ⟨_, rfl, HO0.out, hb0⟩
    · obtain ⟨b', o', e1, -⟩ : ∃ b' o', (some ⟨b, o, sp⟩ : Option Addr) = some ⟨b', o', none⟩ ∧ True := by
        rcases hr with h | ⟨b', o', h, -⟩
        · exact absurd h hl0
        · exact ⟨b', o', h, trivial⟩
      simp only [Option.some.injEq, Addr.mk.injEq] at e1
      obtain ⟨rfl, rfl, rfl⟩ := e1
      have HNw := hide (PtRow.news (RRow.below HR.out hb0))
      have M1 : Hid (0 + l.length ≤ maxLen) := hide (by unfold maxLen; omega)
      have hbB : w.heap.size ≤ (w.alloc (.cells #[] 67)).heap.size := by simp
      have HCl := hide (rcells_len 2 Pt.c l)
      clear hi0 hr
      go_enter Try.func43, Try.ntmps43
      go_wp2_with (at_builtin; refine wpList_append_own _ rfl _ _ 28 rfl w.heap.size 67 i0 (.agg #[.int .i64 0, .int .i64 0]) 2 16 Try.underlying28 HI.out z0 z1 z2 rfl (by decide) _ 0 [] rfl HO0.out ⟨b, o, none⟩ l.length c (rcells 2 Pt.c l) rfl HCl.out HNw.out (Pt.one l) M1.out (by omega) hbB ?_)
      intro v1 w1 ho1 hg1 _
      have hB1 : Below w.heap.size w w1 := Below.grown hb0 hg1 (by simp) (fun k hk => by simp only [Value.ownBlock, Option.some.injEq] at hk; omega)
      obtain ⟨ad1, c1, rfl⟩ := own_form ho1
      have HO1 := hide ho1
      clear ho1 hg1 hnil
      go_wp2_with fail
      go_ret
      exact ⟨_, rfl, HO1.out, hB1⟩

theorem rc1 (x : Pt) (l : List Pt) : rcells 2 Pt.c (x :: l) = [.int .i64 x.kd, .int .i64 x.con] ++ rcells 2 Pt.c l := rfl
theorem shape_of_blk {w : World} {b : Nat} {cs : Array Value} {t : TypeId} (h : w.heap[b]? = some (.cells cs t (0, 0))) : w.shape? b = some (t, cs.size) := by simp [World.shape?, h]
theorem zeroPt (w : World) : (Go.sizeOf 67).run Try.prog w = .ok 2 w := by kernel_rfl

/-- What slices.Insert at the front of a row of one's own leaves. -/
def InOut (w : World) (base : Nat) (v : Value) (x : Pt) (l : List Pt) (e : Ending) (w' : World) : Prop :=
  ∃ v', e = .returned v' ∧ w'.ownsRow base 67 2 v' (l.length + 1) (rcells 2 Pt.c (x :: l)) ∧ w.grownBy w' v.ownBlock

set_option maxRecDepth 20000 in
set_option maxHeartbeats 4000000 in
theorem insert_nil (v : Value) (base xb : Nat) (x : Pt) (w : World) (hb : base ≤ w.heap.size) (h : w.ownsRow base 67 2 v 0 []) (hx : Bx w xb #[.int .i64 x.kd, .int .i64 x.con] 67) :
    Calls Try.prog 58 #[v, .int .i64 0, .slice (some ⟨xb, 0, none⟩) 1 1] w (InOut w base v x []) := by
  obtain ⟨i0, hi0, z0, z1, z2⟩ := infoPartsT infoPt
  have HI := hide hi0
  have HO := hide h
  obtain ⟨ad, c, rfl⟩ := own_form h
  have hnews : ∀ j u, ([.int .i64 x.kd, .int .i64 x.con] : List Value)[j]? = some u → w.cell? ((⟨xb, 0, none⟩ : Addr).add j) = some u := by
    intro j u hu
    rw [Addr.add_lit, Nat.zero_add, hx.c, ← hu]; simp
  have HN := hide hnews
  clear hi0 h hx hnews
  have k1 : (0 : Int) ≤ (c : Int) := by omega
  go_enter Try.func58, Try.ntmps58
  go_wp2_with (at_builtin; refine wpList_append_own _ rfl _ _ 28 rfl base 67 i0 (.agg #[.int .i64 0, .int .i64 0]) 2 16 Try.underlying28 HI.out z0 z1 z2 rfl (by decide) _ 0 [] rfl HO.out ⟨xb, 0, none⟩ 1 1 [.int .i64 x.kd, .int .i64 x.con] rfl rfl HN.out (by simp [Value.oneCell']) (by unfold maxLen; omega) (by omega) hb ?_)
  intro v1 w1 ho1 hg1 _
  obtain ⟨ad1, c1, rfl⟩ := own_form ho1
  have HO1 := hide ho1
  have HG := hide hg1
  clear ho1 hg1
  go_wp2_with fail
  go_ret
  exact ⟨_, rfl, by rw [rc1]; have := HO1.out; simpa [rcells] using this, HG.out⟩

theorem splice_front (cl A B : List Value) (h2 : 2 ≤ cl.length) (hA : A.length = 2) : (cl.take 2 ++ (B ++ cl.drop (2 + B.length))).take 0 ++ (A ++ (cl.take 2 ++ (B ++ cl.drop (2 + B.length))).drop (0 + A.length)) = A ++ (B ++ cl.drop (2 + B.length)) := by
  rw [List.take_zero, List.nil_append, Nat.zero_add, hA, List.drop_left' (by simp; omega)]
theorem cur_cells {w : World} {g n : Nat} {cur : Array Value} {l : List Pt} (hh : w.heap[g]? = some (.cells cur 67 (0, 0))) (hn : n = l.length) (ht : cur.toList.take (n * 2) = rcells 2 Pt.c l) : ∀ j u, (rcells 2 Pt.c l)[j]? = some u → w.cell? ((⟨g, 0, none⟩ : Addr).add j) = some u := by
  intro j u hu
  have hj : j < n * 2 := by
    have := (List.getElem?_eq_some_iff.1 hu).1
    rw [rcells_len] at this
    omega
  rw [Addr.add_lit, Nat.zero_add, cell_of_blk hh]
  rw [← ht, List.getElem?_take_of_lt hj] at hu
  simpa using hu


set_option maxRecDepth 20000 in
set_option maxHeartbeats 8000000 in
theorem insert_grow (base g cap xb : Nat) (cur : Array Value) (x : Pt) (l : List Pt) (w : World) (hb : base ≤ w.heap.size) (h0 : l ≠ []) (hl : l.length ≤ 100000) (hcl0 : l.length ≤ cap) (hroom : cap < l.length + 1) (hh : w.heap[g]? = some (.cells cur 67 (0, 0))) (ht : cur.toList.take (l.length * 2) = rcells 2 Pt.c l) (hx : Bx w xb #[.int .i64 x.kd, .int .i64 x.con] 67) :
    Calls Try.prog 58 #[.slice (some ⟨g, 0, none⟩) l.length cap, .int .i64 0, .slice (some ⟨xb, 0, none⟩) 1 1] w (InOut w base (.slice (some ⟨g, 0, none⟩) l.length cap) x l) := by
  obtain ⟨i0, hi0, z0, z1, z2⟩ := infoPartsT infoPt
  have hpos : 0 < l.length := List.length_pos_iff.2 h0
  obtain ⟨n, hn⟩ : ∃ n, n = l.length := ⟨_, rfl⟩
  rw [← hn] at ht hroom hl hpos hcl0 ⊢
  have hgl : g < w.heap.size := (Array.getElem?_eq_some_iff.1 hh).1
  have hnews := cur_cells hh hn ht
  have hrz := Lib.run_append_grow_zeros w 28 3 28 67 i0 _ .i64 .i64 Try.underlying28 Try.underlying3 hi0 z0 (some ⟨g, 0, none⟩) 0 cap [] (by simp [Builtin.firstCells, loadCells, loadCellsFrom]) (n + 1) (by omega) (by rw [z1]; decide) (by omega) (by omega) (by rw [z2]; omega) (by rw [z2]; exact growslice_fits (by omega) (by omega))
  obtain ⟨capn, hcapn⟩ : ∃ capn, capn = grownCap w (0 + (n + 1)) cap 67 := ⟨_, rfl⟩
  have hcge : n + 1 ≤ capn := by rw [hcapn]; have := grownCap_ge w (0 + (n + 1)) cap 67; omega
  have hcle : capn ≤ maxLen := by rw [hcapn]; exact grownCap_le_maxLen w (0 + (n + 1)) cap 67 (by unfold maxLen; omega)
  rw [← hcapn] at hrz
  obtain ⟨cl, hcl⟩ : ∃ cl : List Value, cl = (([] : List Value).toArray ++ Builtin.zeroCells (Value.agg #[.int .i64 0, .int .i64 0]).cells (n + 1) ++ Builtin.zeroCells (Value.agg #[.int .i64 0, .int .i64 0]).cells (capn - (0 + (n + 1)))).toList := ⟨_, rfl⟩
  have hcll : cl.length = capn * 2 := by
    rw [hcl]
    simp [Builtin.zeroCells, Value.cells]
    omega
  have hW : (w.drew.alloc (.cells (([] : List Value).toArray ++ Builtin.zeroCells (Value.agg #[.int .i64 0, .int .i64 0]).cells (n + 1) ++ Builtin.zeroCells (Value.agg #[.int .i64 0, .int .i64 0]).cells (capn - (0 + (n + 1)))) 67)) = w.drew.alloc (.cells cl.toArray 67) := by rw [hcl]
  rw [hW] at hrz
  obtain ⟨w0, hw0⟩ : ∃ w0, w0 = w.drew.alloc (.cells cl.toArray 67) := ⟨_, rfl⟩
  have hk0 : w0.heap[w.heap.size]? = some (.cells cl.toArray 67 (0, 0)) := by rw [hw0]; exact heap_alloc_new w.drew _
  have hB0 : ∀ k, k < w.heap.size → w0.heap[k]? = w.heap[k]? := fun k hk => by rw [hw0, heap_alloc_old _ _ (by simpa using hk)]; rfl
  have hsz0 : w0.heap.size = w.heap.size + 1 := by rw [hw0]; simp
  have hoth0 : w0.os = w.os ∧ w0.tape = w.tape ∧ w0.output = w.output := by rw [hw0]; exact ⟨rfl, rfl, rfl⟩
  have hx0 : Bx w0 xb #[.int .i64 x.kd, .int .i64 x.con] 67 := (hB0 xb hx.lt).trans hx
  rw [← hw0] at hrz
  obtain ⟨S, hS⟩ : ∃ S, S = w.heap.size := ⟨_, rfl⟩
  rw [← hS] at hrz hk0 hB0 hsz0 hb hgl
  have hxS : xb < S := by rw [hS]; exact hx.lt
  obtain ⟨w1, hr1, hk1, ho1⟩ := copy_run_z (P := Try.prog) (w := w0) 2 28 28 3 67 Try.underlying28 sizePt (some ⟨S, 0, none⟩) (some ⟨xb, 0, none⟩) (n + 1) capn 1 1 S 0 cl 67 hk0 [.int .i64 x.kd, .int .i64 x.con] (by simp [Nat.min_def]) (fun _ => ⟨rfl, _, rfl, fun j u hu => by rw [Addr.add_lit, Nat.zero_add, hx0.c, ← hu]; simp⟩) (by simp; omega) (by simp [Value.oneCell'])
  have hg1 : w1.heap[g]? = w.heap[g]? := (ho1.block g (by omega) (by omega)).trans (hB0 g hgl)
  obtain ⟨w2, hr2, hk2, ho2⟩ := copy_run_z (P := Try.prog) (w := w1.drew) 2 28 28 3 67 Try.underlying28 sizePt (some ⟨S, 2, none⟩) (some ⟨g, 0, none⟩) n (capn - 1) n cap S 2 _ 67 hk1 (rcells 2 Pt.c l) (by rw [rcells_len, ← hn]; simp) (fun _ => ⟨rfl, _, rfl, cur_cells (hg1.trans hh) hn ht⟩) (by simp [rcells_len, ← hn]; omega) (Pt.one _)
  rw [List.take_zero, List.nil_append, show 0 + ([.int .i64 x.kd, .int .i64 x.con] : List Value).length = 2 from rfl, List.take_left' (by rfl), ← List.append_assoc, ← rc1] at hk2
  have hfin : InOut w base (.slice (some ⟨g, 0, none⟩) n cap) x l (.returned (.slice (some ⟨S, 0, none⟩) (n + 1) capn)) w2 := by
    refine ⟨_, rfl, ⟨by simp [rcells_len], .inr ⟨S, capn, _, by rw [hn], hb, hk2, by omega, hcle, ?_, ?_⟩⟩, ?_⟩
    · simp [rcells_len, ← hn, hcll]; omega
    · rw [List.toList_toArray]
      exact List.take_left' (by simp [rcells_len])
    · refine ⟨ho2.os.trans (ho1.os.trans hoth0.1), ho2.tape.trans (ho1.tape.trans hoth0.2.1), ho2.output.trans (ho1.output.trans hoth0.2.2), by have := ho1.size; have := ho2.size; have h3 : w1.drew.heap.size = w1.heap.size := rfl; omega, fun k hk hkn => ?_⟩
      have hk1' : k < w0.heap.size := by omega
      exact (ho2.block k (Nat.lt_of_lt_of_le hk1' ho1.size) (by omega)).trans ((ho1.block k hk1' (by omega)).trans (hB0 k (by omega)))
  have hw1 : IntKind.i64.wrap 1 = 1 := by decide
  have hw2 : IntKind.i64.wrap ((n : Int) + 1) = (n : Int) + 1 := by rw [IntKind.wrap_i64]; omega
  have HFin := hide hfin
  have HR1 := hide hr1
  have HR2 := hide hr2
  have HRz : Hid ((Builtin.append_ #[28, 3] 28 #[.slice (some ⟨g, 0, none⟩) 0 cap, .int .i64 ((n : Int) + 1)]).run Try.prog w = .ok (.slice (some ⟨S, 0, none⟩) (n + 1) capn) w0) := hide (by have h := hrz; rw [Nat.zero_add] at h; exact h)
  have k1 : (0 : Int) ≤ (n : Int) := by omega
  have k2 : (n : Int) ≤ (cap : Int) := by omega
  have k4 : (cap : Int) < (n : Int) + 1 := by omega
  have k5 : (1 : Int) ≤ (n : Int) + 1 := by omega
  have k6 : ¬ capn = 1 := by omega
  have k7 : ¬ cap = 0 := by omega
  have k7n : ¬ capn = 0 := by omega
  have k8 : ¬ (0 : Int) = (n : Int) := by omega
  have k9 : ¬ n = 0 := by omega
  have kb : ((0 : Int) == (n : Int)) = false := by simp; omega
  have k10 : (0 : Int) ≤ (cap : Int) := by omega
  have k12 : (0 : Int) ≤ (n : Int) + 1 := by omega
  have k13 : (0 : Int) ≤ (capn : Int) := by omega
  have k14 : (n : Int) + 1 ≤ (capn : Int) := by omega
  clear hfin hr2 hnews hk0 hk1 hk2 ho1 ho2 hx0 hx hh ht hcl hcll hn hrz hW hw0 hi0 hcapn hg1 hB0 hoth0 hsz0 hS
  go_enter Try.func58, Try.ntmps58
  go_wp2_with (at_builtin; refine Lib.wpList_append_run _ rfl _ _ _ _ rfl _ _ rfl rfl _ _ HRz.out ?_)
  refine wp_region_noPanic ?_
  refine wp_region_held_drew (S := fun _ => True) (by kernel_rfl) trivial (fun hHeld => ?_)
  refine wpAnyH_take (i := 0) (oi := _) (v := ?_) rfl (by kernel_rfl) (by kernel_rfl) (by kernel_rfl) (fun _ _ _ h => h) (Or.inl ⟨by rfl, ?_⟩) (by assumption) ?_
  rotate_left 1
  · (intro w hSw; (try dsimp only at hSw); (first | (go_simp; done) | (go_simp; with_reducible rfl)))
  try simp only [Act.put, List.getElem_toArray, List.getElem_cons_zero, List.getElem_cons_succ, List.setIfInBounds_toArray, List.set_cons_zero, List.set_cons_succ]
  refine wpAnyH_take (i := 1) (oi := _) (v := ?_) rfl (by kernel_rfl) (by kernel_rfl) (by kernel_rfl) (fun _ _ _ h => h) (Or.inl ⟨by rfl, ?_⟩) (by assumption) ?_
  rotate_left 1
  · (intro w hSw; (try dsimp only at hSw); (first | (go_simp; done) | (go_simp; with_reducible rfl)))
  try simp only [Act.put, List.getElem_toArray, List.getElem_cons_zero, List.getElem_cons_succ, List.setIfInBounds_toArray, List.set_cons_zero, List.set_cons_succ]
  refine wpAnyH_take (i := 2) (oi := _) (v := ?_) rfl (by kernel_rfl) (by kernel_rfl) (by kernel_rfl) (fun _ _ _ h => h) (Or.inl ⟨by rfl, ?_⟩) (by assumption) ?_
  rotate_left 1
  · (intro w hSw; (try dsimp only at hSw); (first | (go_simp; done) | (go_simp; with_reducible rfl)))
  try simp only [Act.put, List.getElem_toArray, List.getElem_cons_zero, List.getElem_cons_succ, List.setIfInBounds_toArray, List.set_cons_zero, List.set_cons_succ]
  refine wpAnyH_take (i := 3) (oi := _) (v := ?_) rfl (by kernel_rfl) (by kernel_rfl) (by kernel_rfl) (fun _ _ _ h => h) (Or.inl ⟨by rfl, ?_⟩) (by assumption) ?_
  rotate_left 1
  · (intro w hSw; (try dsimp only at hSw); (first | (go_simp; done) | (go_simp; with_reducible rfl)))
  try simp only [Act.put, List.getElem_toArray, List.getElem_cons_zero, List.getElem_cons_succ, List.setIfInBounds_toArray, List.set_cons_zero, List.set_cons_succ]
  refine wpAnyH_take (i := 4) (oi := _) (v := ?_) rfl (by kernel_rfl) (by kernel_rfl) (by kernel_rfl) (fun _ _ _ h => h) (Or.inl ⟨by rfl, ?_⟩) (by assumption) ?_
  rotate_left 1
  · (intro w hSw; (try dsimp only at hSw); (first | (go_simp; done) | (go_simp; with_reducible rfl)))
  try simp only [Act.put, List.getElem_toArray, List.getElem_cons_zero, List.getElem_cons_succ, List.setIfInBounds_toArray, List.set_cons_zero, List.set_cons_succ]
  refine wpAnyH_take (i := 5) (oi := _) (v := ?_) rfl (by kernel_rfl) (by kernel_rfl) (by kernel_rfl) (fun _ _ _ h => h) (Or.inl ⟨by rfl, ?_⟩) (by assumption) ?_
  rotate_left 1
  · (intro w hSw; (try dsimp only at hSw); (first | (go_simp; done) | (go_simp; with_reducible rfl)))
  try simp only [Act.put, List.getElem_toArray, List.getElem_cons_zero, List.getElem_cons_succ, List.setIfInBounds_toArray, List.set_cons_zero, List.set_cons_succ]
  refine wpAnyH_take (i := 6) (oi := _) (v := ?_) rfl (by kernel_rfl) (by kernel_rfl) (by kernel_rfl) (fun _ _ _ h => h) (Or.inl ⟨by rfl, ?_⟩) (by assumption) ?_
  rotate_left 1
  · (intro w hSw; (try dsimp only at hSw); (first | (go_simp; done) | (go_simp; with_reducible rfl)))
  try simp only [Act.put, List.getElem_toArray, List.getElem_cons_zero, List.getElem_cons_succ, List.setIfInBounds_toArray, List.set_cons_zero, List.set_cons_succ]
  refine wpAnyH_take (i := 7) (oi := _) (v := ?_) rfl (by kernel_rfl) (by kernel_rfl) (by kernel_rfl) (fun _ _ _ h => h) (Or.inl ⟨by rfl, ?_⟩) (by assumption) ?_
  rotate_left 1
  · (intro w hSw; (try dsimp only at hSw); (first | (go_simp; done) | (go_simp; with_reducible rfl)))
  try simp only [Act.put, List.getElem_toArray, List.getElem_cons_zero, List.getElem_cons_succ, List.setIfInBounds_toArray, List.set_cons_zero, List.set_cons_succ]
  refine wpAnyH_ready (rs := [8]) (by kernel_rfl) (by simp) ?_
  refine AllReadyH.cons (o := _) rfl (fun K hK => ?_) AllReadyH.nil
  refine step_copy_z rfl _ _ 28 28 rfl rfl rfl HR2.out ?_
  refine hK.out _ _ trivial (fun hHeld => ?_)
  clear hK K
  try simp only [Act.put, List.getElem_toArray, List.getElem_cons_zero, List.getElem_cons_succ, List.setIfInBounds_toArray, List.set_cons_zero, List.set_cons_succ]
  refine wpAnyH_done (by kernel_rfl) ?_ _
  refine NoPanic.normal ?_
  go_wp2_with fail
  go_ret
  exact HFin.out

set_option maxRecDepth 20000 in
set_option maxHeartbeats 8000000 in
theorem insert_room (base g cap xb : Nat) (cur : Array Value) (x : Pt) (l : List Pt) (w : World) (hb : base ≤ g) (h0 : l ≠ []) (hl : l.length ≤ 100000) (hroom : l.length + 1 ≤ cap) (hcap : cap ≤ maxLen) (hh : w.heap[g]? = some (.cells cur 67 (0, 0))) (hsz : cur.size = cap * 2) (ht : cur.toList.take (l.length * 2) = rcells 2 Pt.c l) (hx : Bx w xb #[.int .i64 x.kd, .int .i64 x.con] 67) (hne : xb ≠ g) :
    Calls Try.prog 58 #[.slice (some ⟨g, 0, none⟩) l.length cap, .int .i64 0, .slice (some ⟨xb, 0, none⟩) 1 1] w (InOut w base (.slice (some ⟨g, 0, none⟩) l.length cap) x l) := by
  have hpos : 0 < l.length := List.length_pos_iff.2 h0
  obtain ⟨cl, hcl⟩ : ∃ cl, cl = cur.toList := ⟨_, rfl⟩
  have hcur : cur = cl.toArray := by rw [hcl]
  have hcll : cl.length = cap * 2 := by rw [hcl]; simpa using hsz
  rw [← hcl] at ht
  have hov : ∀ lb cb, (callFunc 62 #[.slice (some ⟨xb, 0, none⟩) 1 1, .slice (some ⟨g, 2, none⟩) lb cb]).run Try.prog w = .ok (.value (.bool false)) w := fun lb cb => by
    rw [run_callFunc_extern Try.func62 (by kernel_rfl) (by kernel_rfl) (by kernel_rfl) (e := Extern.SlicesOverlaps.overlaps #[28, 28] #[4]) (by kernel_rfl),
      Lib.run_overlaps_apart w 28 4 67 Try.underlying28 2 zeroPt ⟨xb, 0, none⟩ ⟨g, 2, none⟩ 1 1 lb cb hne 67 67 2 cur.size (shape_of_blk hx) (shape_of_blk hh) (by omega) (hx.f 0) (hx.f 2)]
    rfl
  obtain ⟨n, hn⟩ : ∃ n, n = l.length := ⟨_, rfl⟩
  rw [← hn] at ht hroom hl hpos ⊢
  have hnews := cur_cells hh hn (by rw [← hcl]; exact ht)
  obtain ⟨w1, hr1, hk1, ho1⟩ := copy_run_z (P := Try.prog) (w := w.drew) 2 28 28 3 67 Try.underlying28 sizePt (some ⟨g, 2, none⟩) (some ⟨g, 0, none⟩) n (cap - 1) (n + 1) cap g 2 cl 67 (by rw [← hcur]; exact hh) (rcells 2 Pt.c l) (by rw [rcells_len, ← hn]; simp [Nat.min_def]) (fun _ => ⟨rfl, _, rfl, hnews⟩) (by rw [rcells_len, ← hn, hcll]; omega) (Pt.one _)
  have hxw1 : Bx w1 xb #[.int .i64 x.kd, .int .i64 x.con] 67 := (ho1.block xb hx.lt hne).trans hx
  obtain ⟨w2, hr2, hk2, ho2⟩ := copy_run_z (P := Try.prog) (w := w1) 2 28 28 3 67 Try.underlying28 sizePt (some ⟨g, 0, none⟩) (some ⟨xb, 0, none⟩) (n + 1) cap 1 1 g 0 _ 67 hk1 [.int .i64 x.kd, .int .i64 x.con] (by simp [Nat.min_def]) (fun _ => ⟨rfl, _, rfl, fun j u hu => by rw [Addr.add_lit, Nat.zero_add, hxw1.c, ← hu]; simp⟩) (by simp [rcells_len, ← hn, hcll]; omega) (by simp [Value.oneCell'])
  rw [splice_front cl _ _ (by omega) rfl] at hk2
  have hfin : InOut w base (.slice (some ⟨g, 0, none⟩) n cap) x l (.returned (.slice (some ⟨g, 0, none⟩) (n + 1) cap)) w2 := by
    refine ⟨_, rfl, ⟨by simp [rcells_len], .inr ⟨g, cap, _, by rw [hn], hb, hk2, by omega, hcap, ?_, ?_⟩⟩, ?_⟩
    · simp [rcells_len, ← hn, hcll]; omega
    · rw [rc1, List.toList_toArray, ← List.append_assoc]
      exact List.take_left' (by simp [rcells_len]; omega)
    · exact ⟨ho2.os.trans ho1.os, ho2.tape.trans ho1.tape, ho2.output.trans ho1.output, Nat.le_trans ho1.size ho2.size, fun k hk hkn => (ho2.block k (Nat.lt_of_lt_of_le hk ho1.size) (fun e => hkn (by rw [e]; rfl))).trans (ho1.block k hk (fun e => hkn (by rw [e]; rfl)))⟩
  have hw1 : IntKind.i64.wrap 1 = 1 := by decide
  have hw2 : IntKind.i64.wrap ((n : Int) + 1) = (n : Int) + 1 := by rw [IntKind.wrap_i64]; omega
  have HFin := hide hfin
  have HR1 := hide hr1
  have HR2 := hide hr2
  have k1 : (0 : Int) ≤ (n : Int) := by omega
  have k2 : (n : Int) ≤ (cap : Int) := by omega
  have k3 : (n : Int) + 1 ≤ (cap : Int) := by omega
  have k4 : ¬ (cap : Int) < (n : Int) + 1 := by omega
  have k5 : (1 : Int) ≤ (n : Int) + 1 := by omega
  have k6 : ¬ cap = 1 := by omega
  have k7 : ¬ cap = 0 := by omega
  have k8 : ¬ (0 : Int) = (n : Int) := by omega
  have k9 : ¬ n = 0 := by omega
  have kb : ((0 : Int) == (n : Int)) = false := by simp; omega
  have k10 : (0 : Int) ≤ (cap : Int) := by omega
  have k11 : (1 : Int) ≤ (cap : Int) := by omega
  have k12 : (0 : Int) ≤ (n : Int) + 1 := by omega
  clear hfin hr1 hnews hk1 hk2 ho1 ho2 hxw1 hx hh ht hcur hcl hcll hsz hn
  go_enter Try.func58, Try.ntmps58
  go_wp2_with (simp only [hov])
  refine wp_region_noPanic ?_
  refine wp_region_held_drew (S := fun _ => True) (by kernel_rfl) trivial (fun hHeld => ?_)
  refine wpAnyH_take (i := 0) (oi := _) (v := ?_) rfl (by kernel_rfl) (by kernel_rfl) (by kernel_rfl) (fun _ _ _ h => h) (Or.inl ⟨by rfl, ?_⟩) (by assumption) ?_
  rotate_left 1
  · (intro w hSw; (try dsimp only at hSw); (first | (go_simp; done) | (go_simp; with_reducible rfl)))
  try simp only [Act.put, List.getElem_toArray, List.getElem_cons_zero, List.getElem_cons_succ, List.setIfInBounds_toArray, List.set_cons_zero, List.set_cons_succ]
  refine wpAnyH_take (i := 1) (oi := _) (v := ?_) rfl (by kernel_rfl) (by kernel_rfl) (by kernel_rfl) (fun _ _ _ h => h) (Or.inl ⟨by rfl, ?_⟩) (by assumption) ?_
  rotate_left 1
  · (intro w hSw; (try dsimp only at hSw); (first | (go_simp; done) | (go_simp; with_reducible rfl)))
  try simp only [Act.put, List.getElem_toArray, List.getElem_cons_zero, List.getElem_cons_succ, List.setIfInBounds_toArray, List.set_cons_zero, List.set_cons_succ]
  refine wpAnyH_take (i := 2) (oi := _) (v := ?_) rfl (by kernel_rfl) (by kernel_rfl) (by kernel_rfl) (fun _ _ _ h => h) (Or.inl ⟨by rfl, ?_⟩) (by assumption) ?_
  rotate_left 1
  · (intro w hSw; (try dsimp only at hSw); (first | (go_simp; done) | (go_simp; with_reducible rfl)))
  try simp only [Act.put, List.getElem_toArray, List.getElem_cons_zero, List.getElem_cons_succ, List.setIfInBounds_toArray, List.set_cons_zero, List.set_cons_succ]
  refine wpAnyH_take (i := 3) (oi := _) (v := ?_) rfl (by kernel_rfl) (by kernel_rfl) (by kernel_rfl) (fun _ _ _ h => h) (Or.inl ⟨by rfl, ?_⟩) (by assumption) ?_
  rotate_left 1
  · (intro w hSw; (try dsimp only at hSw); (first | (go_simp; done) | (go_simp; with_reducible rfl)))
  try simp only [Act.put, List.getElem_toArray, List.getElem_cons_zero, List.getElem_cons_succ, List.setIfInBounds_toArray, List.set_cons_zero, List.set_cons_succ]
  refine wpAnyH_take (i := 4) (oi := _) (v := ?_) rfl (by kernel_rfl) (by kernel_rfl) (by kernel_rfl) (fun _ _ _ h => h) (Or.inl ⟨by rfl, ?_⟩) (by assumption) ?_
  rotate_left 1
  · (intro w hSw; (try dsimp only at hSw); (first | (go_simp; done) | (go_simp; with_reducible rfl)))
  try simp only [Act.put, List.getElem_toArray, List.getElem_cons_zero, List.getElem_cons_succ, List.setIfInBounds_toArray, List.set_cons_zero, List.set_cons_succ]
  refine wpAnyH_take (i := 5) (oi := _) (v := ?_) rfl (by kernel_rfl) (by kernel_rfl) (by kernel_rfl) (fun _ _ _ h => h) (Or.inl ⟨by rfl, ?_⟩) (by assumption) ?_
  rotate_left 1
  · (intro w hSw; (try dsimp only at hSw); (first | (go_simp; done) | (go_simp; with_reducible rfl)))
  try simp only [Act.put, List.getElem_toArray, List.getElem_cons_zero, List.getElem_cons_succ, List.setIfInBounds_toArray, List.set_cons_zero, List.set_cons_succ]
  refine wpAnyH_take (i := 6) (oi := _) (v := ?_) rfl (by kernel_rfl) (by kernel_rfl) (by kernel_rfl) (fun _ _ _ h => h) (Or.inl ⟨by rfl, ?_⟩) (by assumption) ?_
  rotate_left 1
  · (intro w hSw; (try dsimp only at hSw); (first | (go_simp; done) | (go_simp; with_reducible rfl)))
  try simp only [Act.put, List.getElem_toArray, List.getElem_cons_zero, List.getElem_cons_succ, List.setIfInBounds_toArray, List.set_cons_zero, List.set_cons_succ]
  refine wpAnyH_take (i := 7) (oi := _) (v := ?_) rfl (by kernel_rfl) (by kernel_rfl) (by kernel_rfl) (fun _ _ _ h => h) (Or.inl ⟨by rfl, ?_⟩) (by assumption) ?_
  rotate_left 1
  · (intro w hSw; (try dsimp only at hSw); (first | (go_simp; done) | (go_simp; with_reducible rfl)))
  try simp only [Act.put, List.getElem_toArray, List.getElem_cons_zero, List.getElem_cons_succ, List.setIfInBounds_toArray, List.set_cons_zero, List.set_cons_succ]
  refine wpAnyH_ready (rs := [8]) (by kernel_rfl) (by simp) ?_
  refine AllReadyH.cons (o := _) rfl (fun K hK => ?_) AllReadyH.nil
  refine step_copy_z rfl _ _ 28 28 rfl rfl rfl HR1.out ?_
  refine hK.out _ _ trivial (fun hHeld => ?_)
  clear hK K
  try simp only [Act.put, List.getElem_toArray, List.getElem_cons_zero, List.getElem_cons_succ, List.setIfInBounds_toArray, List.set_cons_zero, List.set_cons_succ]
  refine wpAnyH_done (by kernel_rfl) ?_ _
  refine NoPanic.normal ?_
  go_wp2_with fail
  go_ret
  exact HFin.out

end Go.Proofs.Ytfepljcblajfpab.W

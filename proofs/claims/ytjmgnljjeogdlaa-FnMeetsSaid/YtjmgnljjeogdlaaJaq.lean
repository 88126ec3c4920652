/-
  Some texts of this proof in one: TeRf, TeRg, CeK, TeOo.
-/
import Derived.Test.YtjmgnljjeogdlaaJal
import Derived.RangeFuncNested
import Derived.RangeFuncBound
import Derived.RangeFuncCalls
import Derived.RangeFuncLeaves
import Derived.RangeFuncFrom
import Derived.RangeFuncBox
import Derived.Shelf.Abstract
import Derived.Shelf.RegionOpen
import Derived.WalkKit
import Derived.OwnWalkIn
import Derived.TacticsInMore
import Derived.LoopNIn
import Derived.LoopIn
import Derived.Test.YtjmgnljjeogdlaaJap
import Derived.Test.YtjmgnljjeogdlaaJad
import Derived.Test.YtjmgnljjeogdlaaTeC
/-
  The program's iterator over the places of redexes, the first place, and IsNormal: contracts of redexesIn, firstRedex, IsNormal. Conditions: good terms of at most 1048576 cells.
-/
namespace Go.Proofs.Ytjmgnljjeogdlaa.W
open Go.ChangeShapes Go.WideShapes Go.ChangeAt Go.RowKit Go.Shelf
set_option linter.unusedVariables false
attribute [local go_sem] Oper.semAt_some

set_option maxHeartbeats 1000000 in
theorem redexesIn_any (a : Option Addr) (len cap : Nat) (w : World) :
    Calls Try.prog 42 #[.slice a len cap] w fun e w' => e = .returned (.func (.func 72) #[] #[.pointer (some ⟨w.heap.size, 0, none⟩)]) ∧ w' = w.alloc (.cells #[.slice a len cap] 23) := by
  go_enter Try.func42, Try.ntmps42
  go_wp2_with fail
  go_ret
  exact ⟨rfl, rfl⟩

theorem cellN (W : World) (v : Value) (t : TypeId) : (W.alloc (.cells #[v] t)).cell? ⟨W.heap.size, 0, none⟩ = some v ∧ (W.alloc (.cells #[v] t)).frozen? ⟨W.heap.size, 0, none⟩ = false :=
  ⟨(cell_of_blk (heap_alloc_new W _) 0).trans rfl, unfrozen_of_blk (heap_alloc_new W _) 0⟩
theorem cellA {W : World} {a : Addr} {v : Value} (o : Obj) (h : W.cell? a = some v) : (W.alloc o).cell? a = some v := cell_kept h (World.grownBy_alloc W o none) (fun r e => by cases e)
theorem frozenA {W : World} {a : Addr} {v : Value} (o : Obj) (h : W.cell? a = some v) (hf : W.frozen? a = false) : (W.alloc o).frozen? a = false := (frozen_kept h (World.grownBy_alloc W o none) (fun r e => by cases e)).trans hf
theorem grown_of {W W' : World} (h : Below W.heap.size W W') : W.grownBy W' none := ⟨h.os, h.tape, h.output, h.size, fun i hi _ => h.block i hi⟩
/-- What a round keeps that goes on: what lay below n0, and the iterator's own variable. -/
def KpB (n0 Bs : Nat) (W W' : World) : Prop := Below n0 W W' ∧ W'.heap[Bs]? = W.heap[Bs]?

set_option maxRecDepth 100000 in
set_option maxHeartbeats 2000000 in
/-- The iterator's own function: for every loop body that keeps what lay below n0. -/
theorem redexes1_in (n : Nat) (hn : 1 ≤ n) (y Bs n0 b o cap : Nat) (l : List Cc) (hl : l.length ≤ 1048576) (hcap : l.length ≤ cap) (hO : ∀ i, i < l.length → RedOK (l.drop i)) (hb : b < n0) (J Jx : List Nat → World → Prop)
    (hY : ∀ pre (x : Nat) W, J pre W → pre.length < l.length → YieldAt Fence.wide (n - 1) Try.prog y #[.int .i64 (x : Int)] W fun e W' =>
      (e = .returned (.bool true) ∧ J (pre ++ [x]) W' ∧ KpB n0 Bs W W') ∨ (e = .returned (.bool false) ∧ Jx (pre ++ [x]) W'))
    (W : World) (hn0 : n0 ≤ W.heap.size) (hJ : AbidesFrom W.heap.size J) (hBs : W.cell? ⟨Bs, 0, none⟩ = some (.slice (some ⟨b, o, none⟩) l.length cap)) (hBlt : Bs < W.heap.size) (hc : CRowAt W b o l) (h0 : J [] W) :
    CallsIn Fence.wide n Try.prog 72 #[.func (.yield y) #[] #[], .pointer (some ⟨Bs, 0, none⟩)] W fun e W' => (∃ v, e = .returned v) ∧
      ((∃ ys, ys = plUp l l.length ∧ J ys W') ∨ (∃ pre, (∃ k, k ≤ l.length ∧ pre = plUp l k) ∧ Jx pre W')) := by
  have HY := hide hY
  have HO := hide hO
  have HC := hide hc
  have HJ := hide hJ
  clear hY hO hc hJ
  obtain ⟨L, hL⟩ : ∃ L, L = l.length := ⟨_, rfl⟩
  have HL := hide hL
  rw [← hL] at hl hcap hBs HY HO ⊢
  clear hL
  refine callsIn_of_wp Try.func72 rfl trivial ?_ rfl
  simp only [Try.ntmps72, List.size_toArray, List.length_cons, List.length_nil, Nat.reduceAdd, Nat.reduceSub, Array.replicate_succ, Array.replicate_zero, List.push_toArray, List.append_toArray, List.nil_append, List.cons_append]
  gi_wp2
  gi_loopw [6] (fun i wr => ∃ k : Nat, k ≤ L ∧ i = .int .i64 k ∧ J (plUp l k) wr ∧ Below n0 W wr ∧ wr.heap[Bs]? = W.heap[Bs]?)
    (fun i _ => L - (intOf i).toNat)
  case atStart => exact ⟨0, Nat.zero_le _, rfl, h0, Below.refl _ _, rfl⟩
  case round =>
    obtain ⟨k, hk, rfl, hJs, hnx, hbs⟩ := hrel
    by_cases hlt : k < L
    · have hlt' : (k : Int) < (L : Int) := by omega
      have hk0 : (0 : Int) ≤ (k : Int) := by omega
      have hkL : (k : Int) ≤ (L : Int) := by omega
      have hkc : (k : Int) ≤ (cap : Int) := by omega
      have cB : wr.cell? ⟨Bs, 0, none⟩ = some (.slice (some ⟨b, o, none⟩) L cap) := (World.cell?_of_block (w := W) hbs).trans hBs
      have hsz := hnx.size
      have hbr : CRowAt wr b o l := ⟨Nat.lt_of_lt_of_le HC.out.1 hsz, fun i hi => ⟨(hnx.cell (p := ⟨b, o + i * 2, none⟩) hb).trans (HC.out.2 i hi).1, (hnx.cell (p := ⟨b, o + i * 2 + 1, none⟩) hb).trans (HC.out.2 i hi).2⟩⟩
      have hdl : (l.drop k).length = L - k := by rw [List.length_drop, HL.out]
      have hI := isRedex_any (some ⟨b, o + k * 2, none⟩) (cap - k) (l.drop k) wr (by omega) (HO.out k hlt) (.inr ⟨_, _, rfl, hbr.drop k⟩)
      rw [hdl] at hI
      have HI := hide hI
      have HJs := hide hJs
      clear hI hdl hbr hJs
      gi_wp2_with fail
      refine ⟨trivial, (callsIn_wide.2 HI.out).mono ?_⟩
      rintro e wr1 ⟨rfl, hb1⟩
      have hJ1 : J (plUp l k) wr1 := HJ.out _ wr wr1 none HJs.out (grown_of hb1) (fun r e => by cases e)
      have hn1 : Below n0 W wr1 := hnx.trans (hb1.mono (Nat.le_trans hn0 hsz))
      have hbs1 : wr1.heap[Bs]? = W.heap[Bs]? := (hb1.block Bs (Nat.lt_of_lt_of_le hBlt hsz)).trans hbs
      have HPs := hide (plUp_succ l k)
      have HPl := hide (plUp_len l k)
      clear HI hb1 HJs
      obtain ⟨R, hR⟩ : ∃ R, R = isRl (l.drop k) := ⟨_, rfl⟩
      rw [← hR] at HPs ⊢
      clear hR
      cases R with
      | true =>
        obtain ⟨fn, tmps, assign, body, hy, hR⟩ := HY.out (plUp l k) k wr1 hJ1 (Nat.lt_of_le_of_lt HPl.out hlt)
        have HJ1 := hide hJ1
        clear hJ1
        gi_wp2
        refine hR.mono ?_
        rintro e W3 (⟨rfl, hJ3, hk3⟩ | ⟨rfl, hJx3⟩)
        · have HJ3 := hide hJ3
          clear hJ3
          gi_wp2
          go_roundw
          case rel => exact ⟨k + 1, by omega, by simp, by rw [HPs.out]; exact HJ3.out, hn1.trans hk3.1, hk3.2.trans hbs1⟩
          case measure => simp [intOf]; omega
        · gi_wp2
          refine bodyPost_ret (results_none rfl _ _ _) rfl ?_
          exact ⟨⟨_, rfl⟩, .inr ⟨_, ⟨k + 1, by omega, HPs.out.symm⟩, hJx3⟩⟩
      | false =>
        have HJ1 := hide hJ1
        clear hJ1
        gi_wp2
        refine ⟨fun _ h => (by cases h), ?_⟩
        gi_wp2
        go_roundw
        case rel => exact ⟨k + 1, by omega, by simp, by rw [HPs.out]; simpa using HJ1.out, hn1, hbs1⟩
        case measure => simp [intOf]; omega
    · obtain rfl : k = L := by omega
      have HJs := hide hJs
      clear hJs
      gi_wp2
      go_end0
      exact ⟨⟨_, rfl⟩, .inl ⟨_, rfl, HJs.out⟩⟩

theorem kpB_t {n0 Bs : Nat} {A B C : World} (h : KpB n0 Bs A B) (k : KpB n0 Bs B C) : KpB n0 Bs A C := ⟨h.1.trans k.1, k.2.trans h.2⟩
theorem kpB_b {n0 Bs : Nat} {w : World} (hn : n0 ≤ w.heap.size) (hB : Bs < w.heap.size) (W : World) (l : Nat) (o o' : Obj) (hl : w.heap.size ≤ l) (h : W.heap[l]? = some o) (h1 : o.isCells = false) (h2 : o.isWalk = false) : KpB n0 Bs W (W.putObj l o') := by
  have hg := grownBy_putObj' W l o'
  refine ⟨belowK_b hn W l o o' hl h h1 h2, hg.block Bs ?_ ?_⟩
  · have := (Array.getElem?_eq_some_iff.1 h).1; omega
  · intro e; cases e; omega

theorem redexes_stops (n : Nat) (hn : 1 ≤ n) (Bs n0 b o cap : Nat) (l : List Cc) (hl : l.length ≤ 1048576) (hcap : l.length ≤ cap) (hO : ∀ i, i < l.length → RedOK (l.drop i)) (w : World) (hb : b < n0) (hBs : Bs < w.heap.size) (hn0 : n0 ≤ w.heap.size)
    (hc : w.cell? ⟨Bs, 0, none⟩ = some (.slice (some ⟨b, o, none⟩) l.length cap)) (hI : CRowAt w b o l) :
    SeqStopsK Fence.wide n Try.prog 72 #[.pointer (some ⟨Bs, 0, none⟩)] (fun x : Nat => #[Value.int .i64 (x : Int)]) (KpB n0 Bs) (fun ys => ys = plUp l l.length) (fun pre => pre <+: plUp l l.length) l.length w := fun y J Jx W hW hJ _ hY h0 => by
  refine (redexes1_in n hn y Bs n0 b o cap l hl hcap hO hb J Jx hY W (Nat.le_trans hn0 hW.size) hJ ((hW.cell (p := ⟨Bs, 0, none⟩) hBs).trans hc) (Nat.lt_of_lt_of_le hBs hW.size) (hI.below hW) h0).mono ?_
  rintro e W' ⟨he, ⟨ys, rfl, hj⟩ | ⟨pre, ⟨k, hk, rfl⟩, hj⟩⟩
  · exact ⟨he, .inl ⟨_, rfl, hj⟩⟩
  · refine ⟨he, .inr ⟨_, ?_, hj⟩⟩
    have := plUp_pre l k (l.length - k)
    rwa [Nat.add_sub_of_le hk] at this

set_option maxRecDepth 100000 in
set_option maxHeartbeats 2000000 in
theorem firstRedex_any (ad : Option Addr) (c : Nat) (l : List Cc) (w : World) (hl : l.length ≤ 1048576) (h0 : 0 < l.length) (hcap : l.length ≤ c) (hO : ∀ i, i < l.length → RedOK (l.drop i)) (h : CRow w ad l) :
    Calls Try.prog 46 #[.slice ad l.length c] w fun e w' => e = .returned (.tuple #[.int .i64 (((fstR l).getD 0 : Nat) : Int), .bool (fstR l).isSome]) ∧ Below w.heap.size w w' := by
  obtain ⟨b, o, rfl, hr⟩ : ∃ b o, ad = some ⟨b, o, none⟩ ∧ CRowAt w b o l := by
    rcases h with rfl | h
    · simp at h0
    · exact h
  clear h
  refine (callsIn_wide (n := 6)).1 ?_
  refine callsIn_of_wp_marks Try.func46 rfl trivial ?_ rfl
  simp only [Try.ntmps46, List.size_toArray, List.length_cons, List.length_nil, Nat.reduceAdd, Nat.reduceSub, Array.replicate_succ, Array.replicate_zero, List.push_toArray, List.append_toArray, List.nil_append, List.cons_append]
  gi_wp2_with (refine ⟨trivial, ?_⟩; gi_at_call 42; refine (callsIn_wide.2 (redexesIn_any _ _ _ _)).mono ?_; rintro e w' ⟨rfl, rfl⟩)
  have c0 := cellN w (.int .i64 0) 3
  have c1 := cellN (w.alloc (.cells #[.int .i64 0] 3)) (.bool false) 4
  have c2 := cellN ((w.alloc (.cells #[.int .i64 0] 3)).alloc (.cells #[.bool false] 4)) (.slice (some ⟨b, o, none⟩) l.length c) 23
  simp only [World.size_alloc] at c1 c2
  have hB0 : Below w.heap.size w (((w.alloc (.cells #[.int .i64 0] 3)).alloc (.cells #[.bool false] 4)).alloc (.cells #[.slice (some ⟨b, o, none⟩) l.length c] 23)) := (((Below.refl _ w).alloc (Nat.le_refl _) _).alloc (by simp) _).alloc (by simp; omega) _
  refine wpIn_rangeFunc_ownF rfl (by omega) (gf := 72) (lb := #[.pointer (some ⟨w.heap.size + 1 + 1, 0, none⟩)]) rfl trivial (enters_of Try.func72 (by kernel_rfl) rfl)
    (redexes_stops 5 (by omega) (w.heap.size + 1 + 1) w.heap.size b o c l hl hcap hO _ hr.1 (by simp <;> omega) (by simp <;> omega) c2.1 (hr.below hB0)) kpB_t (kpB_b (by simp <;> omega) (by simp <;> omega)) (Below.refl _ _) (fun _ => rfl)
    (fun pre W => (pre = [] ∧ W.cell? ⟨w.heap.size, 0, none⟩ = some (.int .i64 0) ∧ W.frozen? ⟨w.heap.size, 0, none⟩ = false ∧ W.cell? ⟨w.heap.size + 1, 0, none⟩ = some (.bool false) ∧ W.frozen? ⟨w.heap.size + 1, 0, none⟩ = false) ∧ Below w.heap.size w W)
    (fun c pre W => (c = .ret ∧ ∃ x : Nat, pre = [x] ∧ W.cell? ⟨w.heap.size, 0, none⟩ = some (.int .i64 (x : Int)) ∧ W.cell? ⟨w.heap.size + 1, 0, none⟩ = some (.bool true)) ∧ Below w.heap.size w W)
    (OwnFrom.and (Own.from (fun s A B row hs hg hr => ⟨hs.1, cell_kept hs.2.1 hg hr, (frozen_kept hs.2.1 hg hr).trans hs.2.2.1, cell_kept hs.2.2.2.1 hg hr, (frozen_kept hs.2.2.2.1 hg hr).trans hs.2.2.2.2⟩) _) (ownFrom_below (Nat.le_refl _) (by simp <;> omega)))
    (fun c => OwnFrom.and (Own.from (fun s A B row hs hg hr => ⟨hs.1, hs.2.choose, hs.2.choose_spec.1, cell_kept hs.2.choose_spec.2.1 hg hr, cell_kept hs.2.choose_spec.2.2 hg hr⟩) _) (ownFrom_below (Nat.le_refl _) (by simp <;> omega)))
    ⟨⟨rfl, cellA _ (cellA _ c0.1), frozenA _ (cellA _ c0.1) (frozenA _ c0.1 c0.2), cellA _ c1.1, frozenA _ c1.1 c1.2⟩, hB0⟩
    (fun x => { tmps := #[.slice (some ⟨b, o, none⟩) l.length c, undef, .pointer (some ⟨w.heap.size, 0, none⟩), .pointer (some ⟨w.heap.size + 1, 0, none⟩), .int .i64 (x : Int), .slice (some ⟨b, o, none⟩) l.length c, .func (.func 72) #[] #[.pointer (some ⟨w.heap.size + 1 + 1, 0, none⟩)], .int .i64 (x : Int), undef], defers := [] }) ?assign ?body ?done ?stop
  case assign =>
    intro y x W K hK
    gi_wp2
    exact hK
  case body =>
    rintro y pre x W ⟨⟨rfl, hc0, hf0, hc1, hf1⟩, hB⟩ _
    gi_wp2
    have hne : (⟨w.heap.size + 1, 0, none⟩ : Addr) ≠ ⟨w.heap.size, 0, none⟩ := by simp
    refine ⟨(KeepsOthers.setCell _ _ _).trans (KeepsOthers.setCell _ _ _), ⟨rfl, x, rfl, ?_, ?_⟩, (hB.setCell (p := ⟨w.heap.size, 0, none⟩) (Nat.le_refl _) _).setCell (p := ⟨w.heap.size + 1, 0, none⟩) (by simp) _⟩
    · rw [World.cell?_setCell_far _ _ _ _ (by simp)]
      exact World.cell?_setCell_same' _ _ _ (by rw [hc0]; rfl)
    · exact World.cell?_setCell_same' _ _ _ (by rw [World.cell?_setCell_far _ _ _ _ (by simp), hc1]; rfl)
  case done =>
    rintro D ys W hD hS ⟨⟨rfl, hc0, hf0, hc1, hf1⟩, hB⟩ hK
    have hf : fstR l = none := by unfold fstR; rw [← hS]; rfl
    gi_wp2
    have hK' := ((KeepsOthers.setCell W ⟨w.heap.size, 0, none⟩ (.int .i64 0)).trans (KeepsOthers.setCell _ ⟨w.heap.size + 1, 0, none⟩ (.bool false))).same D _ hK rfl
    refine ⟨by simp, .inl ⟨_, _, rfl, run_takeDeferred hK', ?_⟩⟩
    have g0 : ((W.setCell ⟨w.heap.size, 0, none⟩ (.int .i64 0)).setCell ⟨w.heap.size + 1, 0, none⟩ (.bool false)).cell? ⟨w.heap.size, 0, none⟩ = some (.int .i64 0) := by
      rw [World.cell?_setCell_far _ _ _ _ (by simp)]
      exact World.cell?_setCell_same' _ _ _ (by rw [hc0]; rfl)
    have g1 : ((W.setCell ⟨w.heap.size, 0, none⟩ (.int .i64 0)).setCell ⟨w.heap.size + 1, 0, none⟩ (.bool false)).cell? ⟨w.heap.size + 1, 0, none⟩ = some (.bool false) :=
      World.cell?_setCell_same' _ _ _ (by rw [World.cell?_setCell_far _ _ _ _ (by simp), hc1]; rfl)
    have e0 := cell_kept g0 (grownBy_putObj' _ D (.deferred none)) (fun r e => by cases e; exact ⟨_, hK', rfl⟩)
    have e1 := cell_kept g1 (grownBy_putObj' _ D (.deferred none)) (fun r e => by cases e; exact ⟨_, hK', rfl⟩)
    refine ⟨.tuple #[.int .i64 0, .bool false], ?_, by rw [hf]; rfl, ((hB.setCell (p := ⟨w.heap.size, 0, none⟩) (Nat.le_refl _) _).setCell (p := ⟨w.heap.size + 1, 0, none⟩) (by simp) _).trans (belowK_b (w := w) (Nat.le_refl _) _ D _ _ (by simp at hD; omega) hK' rfl rfl)⟩
    simp [results, Try.results46, go_sem, e0, e1]
  case stop =>
    rintro D c pre W hD hpre ⟨⟨rfl, x, rfl, hc0, hc1⟩, hB⟩ hK
    have hf : fstR l = some x := by
      unfold fstR
      obtain ⟨t, ht⟩ := hpre
      rw [← ht]; rfl
    gi_wp2
    refine ⟨by simp, .inl ⟨_, _, rfl, run_takeDeferred hK, ?_⟩⟩
    have e0 := cell_kept hc0 (grownBy_putObj' _ D (.deferred none)) (fun r e => by cases e; exact ⟨_, hK, rfl⟩)
    have e1 := cell_kept hc1 (grownBy_putObj' _ D (.deferred none)) (fun r e => by cases e; exact ⟨_, hK, rfl⟩)
    refine ⟨.tuple #[.int .i64 (x : Int), .bool true], ?_, by rw [hf]; rfl, hB.trans (belowK_b (w := w) (Nat.le_refl _) W D _ _ (by simp at hD; omega) hK rfl rfl)⟩
    simp [results, Try.results46, go_sem, e0, e1]

set_option maxHeartbeats 1000000 in
theorem implIsNormal_any (ad : Option Addr) (c : Nat) (l : List Cc) (w : World) (hl : l.length ≤ 1048576) (hcap : l.length ≤ c) (h : CRow w ad l) :
    Calls Try.prog 20 #[.slice ad l.length c] w fun e w' => e = .returned (.tuple #[.bool (nrmT (treeT l)), .bool (goodT l)]) ∧ Below w.heap.size w w' := by
  have HC := hide (implGoodT_any ad c l w hl h)
  cases hg : treeT l with
  | none =>
    have hg2 : goodT l = false := by unfold goodT; rw [hg]; rfl
    rw [hg2] at HC ⊢
    clear hg hg2
    go_enter Try.func20, Try.ntmps20
    go_wp2_with fail
    refine Calls.mono HC.out ?_
    rintro e w1 ⟨rfl, hb1⟩
    clear HC
    go_wp2_with fail
    exact bodyPost_ret (v := .tuple #[.bool false, .bool false]) (by simp [results, Try.results20, go_sem]) rfl ⟨rfl, hb1⟩
  | some t =>
    have hg2 : goodT l = true := by unfold goodT; rw [hg]; rfl
    rw [hg2] at HC ⊢
    obtain ⟨e1, ho, e3, -, -⟩ := treeT_flat hg
    obtain ⟨x, k, rfl⟩ := F.len_1 e3
    have HF := hide (fun w' (hb : Below w.heap.size w w') => firstRedex_any ad c l w' hl (by rw [e1]; simp [F.flat]) hcap (by rw [e1]; intro i hi; have := redOK_in _ [] i ho hi; simpa using this) (h.below hb))
    have HN : Hid (nrmT (some (.cons x k .nil)) = !(fstR l).isSome) := hide (by rw [e1, fstR_any ho]; rfl)
    obtain ⟨V, hV⟩ : ∃ V, V = fstR l := ⟨_, rfl⟩
    rw [← hV] at HF HN
    clear hg hg2 e3 e1 h ho hV
    go_enter Try.func20, Try.ntmps20
    go_wp2_with fail
    refine Calls.mono HC.out ?_
    rintro e w1 ⟨rfl, hb1⟩
    clear HC
    go_wp2_with fail
    refine Calls.mono (HF.out _ hb1) ?_
    rintro e w2 ⟨rfl, hb2⟩
    go_wp2_with fail
    exact bodyPost_ret (v := .tuple #[.bool (!V.isSome), .bool true]) (by simp [results, Try.results20, go_sem]) rfl ⟨by rw [HN.out], hb1.trans (hb2.mono hb1.size)⟩
end Go.Proofs.Ytjmgnljjeogdlaa.W

/-
  The program's iterator over the places of redexes, for loop bodies that go on: the places told as elements of a list of ours. Conditions: good terms of at most 1048576 cells.
-/
namespace Go.Proofs.Ytjmgnljjeogdlaa.W
open Go.ChangeShapes Go.WideShapes Go.ChangeAt Go.RowKit Go.Shelf
set_option linter.unusedVariables false
attribute [local go_sem] Oper.semAt_some

theorem next_at {α : Type} (pos : α → Nat) (xs : List α) (l : List Cc) (hxs : xs.map pos = pls l) (k : Nat) (hk : k < l.length) (hi : isRl (l.drop k) = true) : ∃ x, pos x = k ∧ xs.take (plUp l (k + 1)).length = xs.take (plUp l k).length ++ [x] := by
  have h1 : plUp l (k + 1) = plUp l k ++ [k] := by rw [plUp_succ, if_pos hi]
  obtain ⟨t, ht⟩ : plUp l (k + 1) <+: xs.map pos := by
    rw [hxs]
    have := plUp_pre l (k + 1) (l.length - (k + 1))
    rwa [Nat.add_sub_of_le hk] at this
  rw [h1] at ht ⊢
  have h2 : (plUp l k).length < xs.length := by have := congrArg List.length ht; simp at this; omega
  refine ⟨xs[(plUp l k).length], ?_, ?_⟩
  · have h3 : (xs.map pos)[(plUp l k).length]? = some k := by rw [← ht]; simp
    rw [List.getElem?_map, List.getElem?_eq_getElem h2] at h3
    simpa using h3
  · rw [List.length_append, List.length_singleton, List.take_add_one, List.getElem?_eq_getElem h2]
    rfl

set_option maxRecDepth 100000 in
set_option maxHeartbeats 2000000 in
/-- The iterator's own function: for every loop body that keeps what lay below n0; the places are told as what stands for them. -/
theorem redexes1_at {α : Type} (pos : α → Nat) (xs : List α) (n : Nat) (hn : 1 ≤ n) (y Bs n0 b o cap : Nat) (l : List Cc) (hl : l.length ≤ 1048576) (hcap : l.length ≤ cap) (hO : ∀ i, i < l.length → RedOK (l.drop i)) (hb : b < n0) (hxs : xs.map pos = pls l) (J Jx : List α → World → Prop)
    (hY : ∀ pre (x : α) W, J pre W → pre.length < l.length → YieldAt Fence.wide (n - 1) Try.prog y #[.int .i64 (pos x : Int)] W fun e W' =>
      (e = .returned (.bool true) ∧ J (pre ++ [x]) W' ∧ KpB n0 Bs W W') ∨ (e = .returned (.bool false) ∧ Jx (pre ++ [x]) W'))
    (W : World) (hn0 : n0 ≤ W.heap.size) (hJ : AbidesFrom W.heap.size J) (hBs : W.cell? ⟨Bs, 0, none⟩ = some (.slice (some ⟨b, o, none⟩) l.length cap)) (hBlt : Bs < W.heap.size) (hc : CRowAt W b o l) (h0 : J [] W) :
    CallsIn Fence.wide n Try.prog 72 #[.func (.yield y) #[] #[], .pointer (some ⟨Bs, 0, none⟩)] W fun e W' => (∃ v, e = .returned v) ∧
      ((∃ ys, ys = xs ∧ J ys W') ∨ (∃ pre, pre <+: xs ∧ Jx pre W')) := by
  have HX := hide (fun k hk hi => next_at pos xs l hxs k hk hi)
  have HXe : Hid (xs.take (plUp l l.length).length = xs) := hide (by rw [List.take_of_length_le]; have := congrArg List.length hxs; unfold pls at this; simp at this; omega)
  clear hxs
  have HY := hide hY
  have HO := hide hO
  have HC := hide hc
  have HJ := hide hJ
  clear hY hO hc hJ
  obtain ⟨L, hL⟩ : ∃ L, L = l.length := ⟨_, rfl⟩
  have HL := hide hL
  rw [← hL] at hl hcap hBs HY HO HX HXe
  clear hL
  refine callsIn_of_wp Try.func72 rfl trivial ?_ rfl
  simp only [Try.ntmps72, List.size_toArray, List.length_cons, List.length_nil, Nat.reduceAdd, Nat.reduceSub, Array.replicate_succ, Array.replicate_zero, List.push_toArray, List.append_toArray, List.nil_append, List.cons_append]
  gi_wp2
  gi_loopw [6] (fun i wr => ∃ k : Nat, k ≤ L ∧ i = .int .i64 k ∧ J (xs.take (plUp l k).length) wr ∧ Below n0 W wr ∧ wr.heap[Bs]? = W.heap[Bs]?)
    (fun i _ => L - (intOf i).toNat)
  case atStart => exact ⟨0, Nat.zero_le _, rfl, h0, Below.refl _ _, rfl⟩
  case round =>
    obtain ⟨k, hk, rfl, hJs, hnx, hbs⟩ := hrel
    by_cases hlt : k < L
    · have hlt' : (k : Int) < (L : Int) := by omega
      have hk0 : (0 : Int) ≤ (k : Int) := by omega
      have hkL : (k : Int) ≤ (L : Int) := by omega
      have hkc : (k : Int) ≤ (cap : Int) := by omega
      have cB : wr.cell? ⟨Bs, 0, none⟩ = some (.slice (some ⟨b, o, none⟩) L cap) := (World.cell?_of_block (w := W) hbs).trans hBs
      have hsz := hnx.size
      have hbr : CRowAt wr b o l := ⟨Nat.lt_of_lt_of_le HC.out.1 hsz, fun i hi => ⟨(hnx.cell (p := ⟨b, o + i * 2, none⟩) hb).trans (HC.out.2 i hi).1, (hnx.cell (p := ⟨b, o + i * 2 + 1, none⟩) hb).trans (HC.out.2 i hi).2⟩⟩
      have hdl : (l.drop k).length = L - k := by rw [List.length_drop, HL.out]
      have hI := isRedex_any (some ⟨b, o + k * 2, none⟩) (cap - k) (l.drop k) wr (by omega) (HO.out k hlt) (.inr ⟨_, _, rfl, hbr.drop k⟩)
      rw [hdl] at hI
      have HI := hide hI
      have HJs := hide hJs
      clear hI hdl hbr hJs
      gi_wp2_with fail
      refine ⟨trivial, (callsIn_wide.2 HI.out).mono ?_⟩
      rintro e wr1 ⟨rfl, hb1⟩
      have hJ1 : J (xs.take (plUp l k).length) wr1 := HJ.out _ wr wr1 none HJs.out (grown_of hb1) (fun r e => by cases e)
      have hn1 : Below n0 W wr1 := hnx.trans (hb1.mono (Nat.le_trans hn0 hsz))
      have hbs1 : wr1.heap[Bs]? = W.heap[Bs]? := (hb1.block Bs (Nat.lt_of_lt_of_le hBlt hsz)).trans hbs
      have HPs := hide (plUp_succ l k)
      have HPl := hide (plUp_len l k)
      clear HI hb1 HJs
      obtain ⟨R, hR⟩ : ∃ R, R = isRl (l.drop k) := ⟨_, rfl⟩
      rw [← hR] at HPs ⊢
      have HRr := hide hR
      clear hR
      cases R with
      | true =>
        obtain ⟨z, hz, htk⟩ := HX.out k hlt HRr.out.symm
        have hyy := HY.out (xs.take (plUp l k).length) z wr1 hJ1 (Nat.lt_of_le_of_lt (Nat.le_trans (by rw [List.length_take]; exact Nat.min_le_left _ _) HPl.out) hlt)
        rw [hz] at hyy
        obtain ⟨fn, tmps, assign, body, hy, hR⟩ := hyy
        have HTk := hide htk
        clear htk hz
        have HJ1 := hide hJ1
        clear hJ1
        gi_wp2
        refine hR.mono ?_
        rintro e W3 (⟨rfl, hJ3, hk3⟩ | ⟨rfl, hJx3⟩)
        · have HJ3 := hide hJ3
          clear hJ3
          gi_wp2
          go_roundw
          case rel => exact ⟨k + 1, by omega, by simp, by rw [HTk.out]; exact HJ3.out, hn1.trans hk3.1, hk3.2.trans hbs1⟩
          case measure => simp [intOf]; omega
        · gi_wp2
          refine bodyPost_ret (results_none rfl _ _ _) rfl ?_
          exact ⟨⟨_, rfl⟩, .inr ⟨_, by rw [← HTk.out]; exact List.take_prefix _ _, hJx3⟩⟩
      | false =>
        have HJ1 := hide hJ1
        clear hJ1
        gi_wp2
        refine ⟨fun _ h => (by cases h), ?_⟩
        gi_wp2
        go_roundw
        case rel => exact ⟨k + 1, by omega, by simp, by rw [HPs.out]; simpa using HJ1.out, hn1, hbs1⟩
        case measure => simp [intOf]; omega
    · obtain rfl : k = L := by omega
      have HJs := hide hJs
      clear hJs
      gi_wp2
      go_end0
      exact ⟨⟨_, rfl⟩, .inl ⟨_, rfl, by have h := HJs.out; rw [HXe.out] at h; exact h⟩⟩

theorem redexes_stopsAt {α : Type} (pos : α → Nat) (xs : List α) (n : Nat) (hn : 1 ≤ n) (Bs n0 b o cap : Nat) (l : List Cc) (hl : l.length ≤ 1048576) (hcap : l.length ≤ cap) (hO : ∀ i, i < l.length → RedOK (l.drop i)) (hxs : xs.map pos = pls l) (w : World) (hb : b < n0) (hBs : Bs < w.heap.size) (hn0 : n0 ≤ w.heap.size)
    (hc : w.cell? ⟨Bs, 0, none⟩ = some (.slice (some ⟨b, o, none⟩) l.length cap)) (hI : CRowAt w b o l) :
    SeqStopsK Fence.wide n Try.prog 72 #[.pointer (some ⟨Bs, 0, none⟩)] (fun x : α => #[Value.int .i64 (pos x : Int)]) (KpB n0 Bs) (fun ys => ys = xs) (fun pre => pre <+: xs) l.length w := fun y J Jx W hW hJ _ hY h0 => by
  refine (redexes1_at pos xs n hn y Bs n0 b o cap l hl hcap hO hb hxs J Jx hY W (Nat.le_trans hn0 hW.size) hJ ((hW.cell (p := ⟨Bs, 0, none⟩) hBs).trans hc) (Nat.lt_of_lt_of_le hBs hW.size) (hI.below hW) h0).mono ?_
  rintro e W' ⟨he, ⟨ys, rfl, hj⟩ | ⟨pre, hp, hj⟩⟩
  · exact ⟨he, .inl ⟨_, rfl, hj⟩⟩
  · exact ⟨he, .inr ⟨_, hp, hj⟩⟩
end Go.Proofs.Ytjmgnljjeogdlaa.W

/-
  Contracts of eqIntS at equal rows, and of the marks: markIntS, heldIntS, markCellS, heldCellS write numbers of their own into each place of a row, and find them there. Conditions: at most 1048576 elements.
-/
namespace Go.Proofs.Ytjmgnljjeogdlaa.W
open Go.ChangeShapes Go.WideShapes Go.ChangeAt Go.RowKit
set_option linter.unusedVariables false

/-- The row v of n elements of z cells each bears the marks from k0 on. -/
def IMk (w : World) (v : Value) (T : TypeId) (z k0 n : Nat) : Prop :=
  ∃ a c, v = .slice a n c ∧ (n = 0 ∨ ∃ g cur, a = some ⟨g, 0, none⟩ ∧ w.heap[g]? = some (.cells cur T (0, 0)) ∧ n * z ≤ cur.size ∧ ∀ r, r < n * z → cur[r]? = some (.int .i64 ((k0 + r : Nat) : Int)))
theorem IMk.below {w w' : World} {v : Value} {T : TypeId} {z k0 n : Nat} (h : IMk w v T z k0 n) (hb : Below w.heap.size w w') : IMk w' v T z k0 n := by
  obtain ⟨a, c, h1, h2 | ⟨g, cur, h3, h4, h5⟩⟩ := h
  · exact ⟨a, c, h1, .inl h2⟩
  · exact ⟨a, c, h1, .inr ⟨g, cur, h3, (hb.block g (Array.getElem?_eq_some_iff.1 h4).1).trans h4, h5⟩⟩
theorem IMk.form {w : World} {v : Value} {T : TypeId} {z k0 n : Nat} (h : IMk w v T z k0 n) : ∃ a c, v = .slice a n c := by
  obtain ⟨a, c, h1, _⟩ := h
  exact ⟨a, c, h1⟩


theorem arr_set2 (cur : Array Value) (j n : Nat) (x0 x1 : Value) (hj : j < n) (hs : n * 2 ≤ cur.size) (h : ∀ r, r < j * 2 → cur[r]? = some (.int .i64 ((1 + r : Nat) : Int)))
    (h0 : x0 = .int .i64 ((1 + j * 2 : Nat) : Int)) (h1 : x1 = .int .i64 ((1 + (j * 2 + 1) : Nat) : Int)) :
    ∀ r, r < (j + 1) * 2 → ((cur.setIfInBounds (j * 2) x0).setIfInBounds (j * 2 + 1) x1)[r]? = some (.int .i64 ((1 + r : Nat) : Int)) := by
  intro r hr
  subst h0 h1
  simp only [Array.getElem?_setIfInBounds, Array.size_setIfInBounds]
  by_cases e1 : j * 2 + 1 = r
  · subst e1; rw [if_pos rfl, if_pos (by omega)]
  · rw [if_neg e1]
    by_cases e0 : j * 2 = r
    · subst e0; rw [if_pos rfl, if_pos (by omega)]
    · rw [if_neg e0]; exact h r (by omega)

theorem CBlk.own {w : World} {b base : Nat} {l : List Cc} (h : CBlk w b l) (hb : base ≤ b) (hl : l.length ≤ 1048576) : ∃ xs, w.ownsRow base 62 2 (.slice (some ⟨b, 0, none⟩) l.length l.length) l.length xs := by
  obtain ⟨cur, hh, hF⟩ := h
  exact ⟨cur.toList.take (l.length * 2), by simp [hF.1], .inr ⟨b, l.length, cur, rfl, hb, hh, Nat.le_refl _, by unfold maxLen; omega, hF.1, rfl⟩⟩
theorem iOwn_grown {w w' : World} {base n size : Nat} {e : TypeId} {v : Value} {xs : List Value} {row : Option Nat} (h : w.ownsRow base e size v n xs) (hg : w.grownBy w' row) (hne : ∀ k, v.ownBlock = some k → row ≠ some k) : w'.ownsRow base e size v n xs :=
  h.kept hg (by
    cases hv : v.ownBlock with
    | none => exact .inl rfl
    | some k => exact .inr (fun e => hne k hv e.symm))
theorem IS.grown {w w' : World} {s : Value} {l : List Int} {row : Option Nat} (h : IS w s l) (hg : w.grownBy w' row) (hne : ∀ k, s.ownBlock = some k → row ≠ some k) : IS w' s l := by
  rcases h with h | ⟨g, c, rfl, h2, h3, h4⟩
  · exact .inl h
  · refine .inr ⟨g, c, rfl, h2, Nat.lt_of_lt_of_le h3 hg.size, fun i hi => ?_⟩
    exact (World.cell?_of_block (a := ⟨g, i, none⟩) (hg.block g h3 (fun e => hne g rfl e.symm))).trans (h4 i hi)
theorem IS.lt {w : World} {s : Value} {l : List Int} (h : IS w s l) : ∀ k, s.ownBlock = some k → k < w.heap.size := by
  intro k hk
  rcases h with ⟨rfl, -⟩ | ⟨g, c, rfl, h2, h3, h4⟩
  · cases hk
  · simp only [Value.ownBlock, Option.some.injEq] at hk; omega

end Go.Proofs.Ytjmgnljjeogdlaa.W

/-
  Rows of rows of cells: what it is to own one, and contracts of the law's loops over it: eqCellSS, markCellSS, heldCellSS. Conditions: at most 600 rows of at most 600 cells.
-/
namespace Go.Proofs.Ytjmgnljjeogdlaa.W
open Go.ChangeShapes Go.WideShapes Go.ChangeAt Go.RowKit
set_option linter.unusedVariables false

theorem arr_set2k (k0 : Nat) (cur : Array Value) (j n : Nat) (x0 x1 : Value) (hj : j < n) (hs : n * 2 ≤ cur.size) (h : ∀ r, r < j * 2 → cur[r]? = some (.int .i64 ((k0 + r : Nat) : Int)))
    (h0 : x0 = .int .i64 ((k0 + j * 2 : Nat) : Int)) (h1 : x1 = .int .i64 ((k0 + (j * 2 + 1) : Nat) : Int)) :
    ∀ r, r < (j + 1) * 2 → ((cur.setIfInBounds (j * 2) x0).setIfInBounds (j * 2 + 1) x1)[r]? = some (.int .i64 ((k0 + r : Nat) : Int)) := by
  intro r hr
  subst h0 h1
  simp only [Array.getElem?_setIfInBounds, Array.size_setIfInBounds]
  by_cases e1 : j * 2 + 1 = r
  · subst e1; rw [if_pos rfl, if_pos (by omega)]
  · rw [if_neg e1]
    by_cases e0 : j * 2 = r
    · subst e0; rw [if_pos rfl, if_pos (by omega)]
    · rw [if_neg e0]; exact h r (by omega)


/-- v is a row of the rows vs, each with memory of its own from base on. -/
structure OOv (w : World) (base : Nat) (v : Value) (L : List (List Cc)) (vs : List Value) : Prop where
  own : w.ownsRow base 23 1 v L.length vs
  at_ : ∀ j (h : j < L.length), ∃ x, vs[j]? = some x ∧ w.ownsRow base 62 2 x L[j].length (cv L[j])
  far : ∀ (j : Nat) (x : Value) (k : Nat), vs[j]? = some x → x.ownBlock = some k → v.ownBlock ≠ some k
  apart : ∀ (i j : Nat) (x y : Value) (k : Nat), i ≠ j → vs[i]? = some x → vs[j]? = some y → x.ownBlock = some k → y.ownBlock ≠ some k
def OO (w : World) (base : Nat) (v : Value) (L : List (List Cc)) : Prop := ∃ vs, OOv w base v L vs
theorem OOv.keep {w w' : World} {base : Nat} {v : Value} {L : List (List Cc)} {vs : List Value} (h : OOv w base v L vs) (hk : ∀ k, base ≤ k → k < w.heap.size → w'.heap[k]? = w.heap[k]?) : OOv w' base v L vs :=
  ⟨tOwn_keep h.own hk, fun j hj => by obtain ⟨x, h1, h2⟩ := h.at_ j hj; exact ⟨x, h1, tOwn_keep h2 hk⟩, h.far, h.apart⟩
theorem OO.keep {w w' : World} {base : Nat} {v : Value} {L : List (List Cc)} (h : OO w base v L) (hk : ∀ k, base ≤ k → k < w.heap.size → w'.heap[k]? = w.heap[k]?) : OO w' base v L := by
  obtain ⟨vs, h⟩ := h
  exact ⟨vs, h.keep hk⟩
theorem OO.lower {w : World} {base base' : Nat} {v : Value} {L : List (List Cc)} (h : OO w base v L) (hb : base' ≤ base) : OO w base' v L := by
  obtain ⟨vs, h⟩ := h
  exact ⟨vs, iOwn_lower h.own hb, fun j hj => by obtain ⟨x, h1, h2⟩ := h.at_ j hj; exact ⟨x, h1, iOwn_lower h2 hb⟩, h.far, h.apart⟩
theorem OO.nil (w : World) (base : Nat) : OO w base (.slice none 0 0) [] := ⟨[], World.ownsRow_nil _ _ _ _, fun j hj => by simp at hj, fun j x k hx => by simp at hx, fun i j x y k _ hx => by simp at hx⟩
theorem OO.form {w : World} {base : Nat} {v : Value} {L : List (List Cc)} (h : OO w base v L) : ∃ a c, v = .slice a L.length c := by
  obtain ⟨vs, h⟩ := h
  exact iOwn_form h.own
/-- One element as a walk wants it. -/
theorem OO.elem {w : World} {base : Nat} {v : Value} {L : List (List Cc)} (h : OO w base v L) {j : Nat} (hj : j < L.length) : ∃ g cap x, v = .slice (some ⟨g, 0, none⟩) L.length cap ∧ base ≤ g ∧ g < w.heap.size ∧ w.cell? ⟨g, j, none⟩ = some x ∧ w.ownsRow base 62 2 x L[j].length (cv L[j]) := by
  obtain ⟨vs, h⟩ := h
  obtain ⟨x, h1, h2⟩ := h.at_ j hj
  obtain ⟨g, cap, e1, e2, e3, e4⟩ := tOwn_lies h.own (by omega)
  exact ⟨g, cap, x, e1, e2, e3, e4 j x h1, h2⟩

theorem own_blk {w w' : World} {base n size : Nat} {e : TypeId} {v : Value} {xs : List Value} (h : w.ownsRow base e size v n xs) (hk : ∀ k, v.ownBlock = some k → w'.heap[k]? = w.heap[k]?) : w'.ownsRow base e size v n xs := by
  refine ⟨h.1, ?_⟩
  rcases h.2 with h | ⟨g, cap, cur, rfl, h1, h2, h3⟩
  · exact .inl h
  · exact .inr ⟨g, cap, cur, rfl, h1, (hk g rfl).trans h2, h3⟩
/-- How many cells lie ahead of the row j. -/
def pf (L : List (List Cc)) (j : Nat) : Nat := ((L.take j).map List.length).sum
theorem pf_succ {L : List (List Cc)} {j : Nat} (h : j < L.length) : pf L (j + 1) = pf L j + L[j].length := by
  unfold pf
  rw [List.take_add_one, List.getElem?_eq_getElem h, List.map_append, List.sum_append]
  show _ + (L[j].length + 0) = _
  rw [Nat.add_zero]
theorem pf_le {L : List (List Cc)} (h6 : ∀ l ∈ L, l.length ≤ 600) : ∀ j, j ≤ L.length → pf L j ≤ j * 600
  | 0, _ => by simp [pf]
  | j + 1, h => by rw [pf_succ h]; have := pf_le h6 j (by omega); have := h6 L[j] (List.getElem_mem h); omega
/-- The rows bear the marks from 1 on, one behind the other. -/
def MM (w : World) (v : Value) (L : List (List Cc)) : Prop :=
  ∃ a c, v = .slice a L.length c ∧ (L.length = 0 ∨ ∃ g, a = some ⟨g, 0, none⟩ ∧ g < w.heap.size ∧ ∀ j (h : j < L.length), ∃ x, w.cell? ⟨g, j, none⟩ = some x ∧ IMk w x 62 2 (1 + pf L j * 2) L[j].length)
theorem MM.below {w w' : World} {v : Value} {L : List (List Cc)} (h : MM w v L) (hb : Below w.heap.size w w') : MM w' v L := by
  obtain ⟨a, c, h1, h2 | ⟨g, h3, h4, h5⟩⟩ := h
  · exact ⟨a, c, h1, .inl h2⟩
  · refine ⟨a, c, h1, .inr ⟨g, h3, Nat.lt_of_lt_of_le h4 hb.size, fun j hj => ?_⟩⟩
    obtain ⟨x, i1, i2⟩ := h5 j hj
    exact ⟨x, (hb.cell (p := ⟨g, j, none⟩) h4).trans i1, i2.below hb⟩
theorem IMk.keep {w w' : World} {v : Value} {T : TypeId} {z k0 n : Nat} (h : IMk w v T z k0 n) (hk : ∀ k, v.ownBlock = some k → w'.heap[k]? = w.heap[k]?) : IMk w' v T z k0 n := by
  obtain ⟨a, c, h1, h2 | ⟨g, cur, h3, h4, h5⟩⟩ := h
  · exact ⟨a, c, h1, .inl h2⟩
  · exact ⟨a, c, h1, .inr ⟨g, cur, h3, (hk g (by rw [h1, h3]; rfl)).trans h4, h5⟩⟩

theorem get_snoc {xs : List Value} {x y : Value} {j : Nat} (h : (xs ++ [x])[j]? = some y) : xs[j]? = some y ∨ (j = xs.length ∧ y = x) := by
  by_cases e : j < xs.length
  · rw [List.getElem?_append_left e] at h; exact .inl h
  · have hj : j < (xs ++ [x]).length := (List.getElem?_eq_some_iff.1 h).1
    rw [List.length_append, List.length_singleton] at hj
    obtain rfl : j = xs.length := by omega
    rw [List.getElem?_append_right (Nat.le_refl _)] at h
    simp at h
    exact .inr ⟨rfl, h.symm⟩
theorem OOv.lt {w : World} {base : Nat} {v : Value} {L : List (List Cc)} {vs : List Value} (h : OOv w base v L vs) {j : Nat} {y : Value} {k : Nat} (hy : vs[j]? = some y) (hk : y.ownBlock = some k) : base ≤ k ∧ k < w.heap.size := by
  have hl : j < L.length := by have := (List.getElem?_eq_some_iff.1 hy).1; have := h.own.1; omega
  obtain ⟨y', h1, h2⟩ := h.at_ j hl
  rw [hy] at h1
  simp only [Option.some.injEq] at h1
  subst h1
  exact h2.lt k hk
theorem own_types {w : World} {b1 b2 e1 e2 s1 s2 n1 n2 : Nat} {v1 v2 : Value} {x1 x2 : List Value} (h1 : w.ownsRow b1 e1 s1 v1 n1 x1) (h2 : w.ownsRow b2 e2 s2 v2 n2 x2) (he : e1 ≠ e2) {k : Nat} (k1 : v1.ownBlock = some k) : v2.ownBlock ≠ some k := by
  intro k2
  rcases h1.2 with ⟨rfl, -⟩ | ⟨g1, cap1, cur1, rfl, -, g2, -⟩
  · cases k1
  · rcases h2.2 with ⟨rfl, -⟩ | ⟨g3, cap3, cur3, rfl, -, g4, -⟩
    · cases k2
    · simp only [Value.ownBlock, Option.some.injEq] at k1 k2
      subst k1 k2
      rw [g2] at g4
      simp only [Option.some.injEq, Obj.cells.injEq] at g4
      exact he g4.2.1
/-- A row more. -/
theorem OOv.snoc {w w1 w2 : World} {base : Nat} {v v' x : Value} {L : List (List Cc)} {l : List Cc} {xs : List Value} (h : OOv w base v L xs) (hb : base ≤ w.heap.size) (hb1 : Below w.heap.size w w1) (hx : w1.ownsRow w.heap.size 62 2 x l.length (cv l))
    (hown : w2.ownsRow base 23 1 v' (L.length + 1) (xs ++ [x])) (hg : w1.grownBy w2 v.ownBlock) : OO w2 base v' (L ++ [l]) := by
  have hlen : xs.length = L.length := by have := h.own.1; omega
  have hkx : ∀ k, x.ownBlock = some k → w2.heap[k]? = w1.heap[k]? := fun k hk => hg.block k (hx.lt k hk).2 (fun e => by have := (h.own.lt k e.symm).2; have := (hx.lt k hk).1; omega)
  have hat : ∀ j (hj : j < (L ++ [l]).length), ∃ y, (xs ++ [x])[j]? = some y ∧ w2.ownsRow base 62 2 y (L ++ [l])[j].length (cv (L ++ [l])[j]) := by
    intro j hj
    rw [List.length_append, List.length_singleton] at hj
    by_cases e : j < L.length
    · obtain ⟨y, h1, h2⟩ := h.at_ j e
      refine ⟨y, by rw [List.getElem?_append_left (by omega)]; exact h1, ?_⟩
      rw [List.getElem_append_left e]
      exact own_blk h2 (fun k hk => (hg.block k (Nat.lt_of_lt_of_le (h2.lt k hk).2 hb1.size) (fun e => h.far j y k h1 hk e.symm)).trans (hb1.block k (h2.lt k hk).2))
    · obtain rfl : j = L.length := by omega
      refine ⟨x, by rw [List.getElem?_append_right (by omega)]; simp [hlen], ?_⟩
      rw [List.getElem_append_right (by omega)]
      simp only [Nat.sub_self, List.getElem_cons_zero]
      exact own_blk (iOwn_lower hx hb) hkx
  refine ⟨xs ++ [x], by rw [List.length_append, List.length_singleton]; exact hown, hat, ?_, ?_⟩
  · intro j y k hy hk e
    have hj : j < (L ++ [l]).length := by have := (List.getElem?_eq_some_iff.1 hy).1; simp at this ⊢; omega
    obtain ⟨y', h1, h2⟩ := hat j hj
    rw [hy] at h1
    simp only [Option.some.injEq] at h1
    subst h1
    exact own_types h2 hown (by decide) hk e
  · intro i j y z k hij hy hz hk e
    rcases get_snoc hy with h1 | ⟨e1, rfl⟩
    · rcases get_snoc hz with h2 | ⟨e2, rfl⟩
      · exact h.apart i j y z k hij h1 h2 hk e
      · have := h.lt h1 hk; have := hx.lt k e; omega
    · rcases get_snoc hz with h2 | ⟨e2, rfl⟩
      · have := h.lt h2 e; have := hx.lt k hk; omega
      · omega
end Go.Proofs.Ytjmgnljjeogdlaa.W

/-
  The program's iterator over the places of redexes, the first place, and IsNormal: contracts of redexesIn, firstRedex, IsNormal. Conditions: good terms of at most 1048576 cells.
-/
import Derived.Test.YtbimfnnbfbfdoaaTeRi
import Derived.RangeFuncNested
import Derived.RangeFuncBound
import Derived.RangeFuncCalls
import Derived.RangeFuncLeaves
import Derived.RangeFuncFrom
import Derived.RangeFuncBox
import Derived.Shelf.Abstract
import Derived.Shelf.RegionOpen
import Derived.WalkKit
import Derived.OwnWalkIn
import Derived.TacticsInMore
import Derived.LoopNIn
import Derived.LoopIn
namespace Go.Proofs.Ytbimfnnbfbfdoaa.W
open Go.ChangeShapes Go.WideShapes Go.ChangeAt Go.RowKit Go.Shelf
set_option linter.unusedVariables false
attribute [local go_sem] Oper.semAt_some

set_option maxHeartbeats 1000000 in
theorem redexesIn_any (a : Option Addr) (len cap : Nat) (w : World) :
    Calls Try.prog 52 #[.slice a len cap] w fun e w' => e = .returned (.func (.func 84) #[] #[.pointer (some ⟨w.heap.size, 0, none⟩)]) ∧ w' = w.alloc (.cells #[.slice a len cap] 23) := by
  go_enter Try.func52, Try.ntmps52
  go_wp2_with fail
  go_ret
  exact ⟨rfl, rfl⟩

theorem cellN (W : World) (v : Value) (t : TypeId) : (W.alloc (.cells #[v] t)).cell? ⟨W.heap.size, 0, none⟩ = some v ∧ (W.alloc (.cells #[v] t)).frozen? ⟨W.heap.size, 0, none⟩ = false :=
  ⟨(cell_of_blk (heap_alloc_new W _) 0).trans rfl, unfrozen_of_blk (heap_alloc_new W _) 0⟩
theorem cellA {W : World} {a : Addr} {v : Value} (o : Obj) (h : W.cell? a = some v) : (W.alloc o).cell? a = some v := cell_kept h (World.grownBy_alloc W o none) (fun r e => by cases e)
theorem frozenA {W : World} {a : Addr} {v : Value} (o : Obj) (h : W.cell? a = some v) (hf : W.frozen? a = false) : (W.alloc o).frozen? a = false := (frozen_kept h (World.grownBy_alloc W o none) (fun r e => by cases e)).trans hf
theorem grown_of {W W' : World} (h : Below W.heap.size W W') : W.grownBy W' none := ⟨h.os, h.tape, h.output, h.size, fun i hi _ => h.block i hi⟩
/-- What a round keeps that goes on: what lay below n0, and the iterator's own variable. -/
def KpB (n0 Bs : Nat) (W W' : World) : Prop := Below n0 W W' ∧ W'.heap[Bs]? = W.heap[Bs]?

set_option maxRecDepth 100000 in
set_option maxHeartbeats 2000000 in
/-- The iterator's own function: for every loop body that keeps what lay below n0. -/
theorem redexes1_in (n : Nat) (hn : 1 ≤ n) (y Bs n0 b o cap : Nat) (l : List Cc) (hl : l.length ≤ 1048576) (hcap : l.length ≤ cap) (hO : ∀ i, i < l.length → RedOK (l.drop i)) (hb : b < n0) (J Jx : List Nat → World → Prop)
    (hY : ∀ pre (x : Nat) W, J pre W → pre.length < l.length → YieldAt Fence.wide (n - 1) Try.prog y #[.int .i64 (x : Int)] W fun e W' =>
      (e = .returned (.bool true) ∧ J (pre ++ [x]) W' ∧ KpB n0 Bs W W') ∨ (e = .returned (.bool false) ∧ Jx (pre ++ [x]) W'))
    (W : World) (hn0 : n0 ≤ W.heap.size) (hJ : AbidesFrom W.heap.size J) (hBs : W.cell? ⟨Bs, 0, none⟩ = some (.slice (some ⟨b, o, none⟩) l.length cap)) (hBlt : Bs < W.heap.size) (hc : CRowAt W b o l) (h0 : J [] W) :
    CallsIn Fence.wide n Try.prog 84 #[.func (.yield y) #[] #[], .pointer (some ⟨Bs, 0, none⟩)] W fun e W' => (∃ v, e = .returned v) ∧
      ((∃ ys, ys = plUp l l.length ∧ J ys W') ∨ (∃ pre, (∃ k, k ≤ l.length ∧ pre = plUp l k) ∧ Jx pre W')) := by
  have HY := hide hY
  have HO := hide hO
  have HC := hide hc
  have HJ := hide hJ
  clear hY hO hc hJ
  obtain ⟨L, hL⟩ : ∃ L, L = l.length := ⟨_, rfl⟩
  have HL := hide hL
  rw [← hL] at hl hcap hBs HY HO ⊢
  clear hL
  refine callsIn_of_wp Try.func84 rfl trivial ?_ rfl
  simp only [Try.ntmps84, List.size_toArray, List.length_cons, List.length_nil, Nat.reduceAdd, Nat.reduceSub, Array.replicate_succ, Array.replicate_zero, List.push_toArray, List.append_toArray, List.nil_append, List.cons_append]
  gi_wp2
  gi_loopw [6] (fun i wr => ∃ k : Nat, k ≤ L ∧ i = .int .i64 k ∧ J (plUp l k) wr ∧ Below n0 W wr ∧ wr.heap[Bs]? = W.heap[Bs]?)
    (fun i _ => L - (intOf i).toNat)
  case atStart => exact ⟨0, Nat.zero_le _, rfl, h0, Below.refl _ _, rfl⟩
  case round =>
    obtain ⟨k, hk, rfl, hJs, hnx, hbs⟩ := hrel
    by_cases hlt : k < L
    · have hlt' : (k : Int) < (L : Int) := by omega
      have hk0 : (0 : Int) ≤ (k : Int) := by omega
      have hkL : (k : Int) ≤ (L : Int) := by omega
      have hkc : (k : Int) ≤ (cap : Int) := by omega
      have cB : wr.cell? ⟨Bs, 0, none⟩ = some (.slice (some ⟨b, o, none⟩) L cap) := (World.cell?_of_block (w := W) hbs).trans hBs
      have hsz := hnx.size
      have hbr : CRowAt wr b o l := ⟨Nat.lt_of_lt_of_le HC.out.1 hsz, fun i hi => ⟨(hnx.cell (p := ⟨b, o + i * 2, none⟩) hb).trans (HC.out.2 i hi).1, (hnx.cell (p := ⟨b, o + i * 2 + 1, none⟩) hb).trans (HC.out.2 i hi).2⟩⟩
      have hdl : (l.drop k).length = L - k := by rw [List.length_drop, HL.out]
      have hI := isRedex_any (some ⟨b, o + k * 2, none⟩) (cap - k) (l.drop k) wr (by omega) (HO.out k hlt) (.inr ⟨_, _, rfl, hbr.drop k⟩)
      rw [hdl] at hI
      have HI := hide hI
      have HJs := hide hJs
      clear hI hdl hbr hJs
      gi_wp2_with fail
      refine ⟨trivial, (callsIn_wide.2 HI.out).mono ?_⟩
      rintro e wr1 ⟨rfl, hb1⟩
      have hJ1 : J (plUp l k) wr1 := HJ.out _ wr wr1 none HJs.out (grown_of hb1) (fun r e => by cases e)
      have hn1 : Below n0 W wr1 := hnx.trans (hb1.mono (Nat.le_trans hn0 hsz))
      have hbs1 : wr1.heap[Bs]? = W.heap[Bs]? := (hb1.block Bs (Nat.lt_of_lt_of_le hBlt hsz)).trans hbs
      have HPs := hide (plUp_succ l k)
      have HPl := hide (plUp_len l k)
      clear HI hb1 HJs
      obtain ⟨R, hR⟩ : ∃ R, R = isRl (l.drop k) := ⟨_, rfl⟩
      rw [← hR] at HPs ⊢
      clear hR
      cases R with
      | true =>
        obtain ⟨fn, tmps, assign, body, hy, hR⟩ := HY.out (plUp l k) k wr1 hJ1 (Nat.lt_of_le_of_lt HPl.out hlt)
        have HJ1 := hide hJ1
        clear hJ1
        gi_wp2
        refine hR.mono ?_
        rintro e W3 (⟨rfl, hJ3, hk3⟩ | ⟨rfl, hJx3⟩)
        · have HJ3 := hide hJ3
          clear hJ3
          gi_wp2
          go_roundw
          case rel => exact ⟨k + 1, by omega, by simp, by rw [HPs.out]; exact HJ3.out, hn1.trans hk3.1, hk3.2.trans hbs1⟩
          case measure => simp [intOf]; omega
        · gi_wp2
          refine bodyPost_ret (results_none rfl _ _ _) rfl ?_
          exact ⟨⟨_, rfl⟩, .inr ⟨_, ⟨k + 1, by omega, HPs.out.symm⟩, hJx3⟩⟩
      | false =>
        have HJ1 := hide hJ1
        clear hJ1
        gi_wp2
        refine ⟨fun _ h => (by cases h), ?_⟩
        gi_wp2
        go_roundw
        case rel => exact ⟨k + 1, by omega, by simp, by rw [HPs.out]; simpa using HJ1.out, hn1, hbs1⟩
        case measure => simp [intOf]; omega
    · obtain rfl : k = L := by omega
      have HJs := hide hJs
      clear hJs
      gi_wp2
      go_end0
      exact ⟨⟨_, rfl⟩, .inl ⟨_, rfl, HJs.out⟩⟩

theorem kpB_t {n0 Bs : Nat} {A B C : World} (h : KpB n0 Bs A B) (k : KpB n0 Bs B C) : KpB n0 Bs A C := ⟨h.1.trans k.1, k.2.trans h.2⟩
theorem kpB_b {n0 Bs : Nat} {w : World} (hn : n0 ≤ w.heap.size) (hB : Bs < w.heap.size) (W : World) (l : Nat) (o o' : Obj) (hl : w.heap.size ≤ l) (h : W.heap[l]? = some o) (h1 : o.isCells = false) (h2 : o.isWalk = false) : KpB n0 Bs W (W.putObj l o') := by
  have hg := grownBy_putObj' W l o'
  refine ⟨belowK_b hn W l o o' hl h h1 h2, hg.block Bs ?_ ?_⟩
  · have := (Array.getElem?_eq_some_iff.1 h).1; omega
  · intro e; cases e; omega

theorem redexes_stops (n : Nat) (hn : 1 ≤ n) (Bs n0 b o cap : Nat) (l : List Cc) (hl : l.length ≤ 1048576) (hcap : l.length ≤ cap) (hO : ∀ i, i < l.length → RedOK (l.drop i)) (w : World) (hb : b < n0) (hBs : Bs < w.heap.size) (hn0 : n0 ≤ w.heap.size)
    (hc : w.cell? ⟨Bs, 0, none⟩ = some (.slice (some ⟨b, o, none⟩) l.length cap)) (hI : CRowAt w b o l) :
    SeqStopsK Fence.wide n Try.prog 84 #[.pointer (some ⟨Bs, 0, none⟩)] (fun x : Nat => #[Value.int .i64 (x : Int)]) (KpB n0 Bs) (fun ys => ys = plUp l l.length) (fun pre => pre <+: plUp l l.length) l.length w := fun y J Jx W hW hJ _ hY h0 => by
  refine (redexes1_in n hn y Bs n0 b o cap l hl hcap hO hb J Jx hY W (Nat.le_trans hn0 hW.size) hJ ((hW.cell (p := ⟨Bs, 0, none⟩) hBs).trans hc) (Nat.lt_of_lt_of_le hBs hW.size) (hI.below hW) h0).mono ?_
  rintro e W' ⟨he, ⟨ys, rfl, hj⟩ | ⟨pre, ⟨k, hk, rfl⟩, hj⟩⟩
  · exact ⟨he, .inl ⟨_, rfl, hj⟩⟩
  · refine ⟨he, .inr ⟨_, ?_, hj⟩⟩
    have := plUp_pre l k (l.length - k)
    rwa [Nat.add_sub_of_le hk] at this

set_option maxRecDepth 100000 in
set_option maxHeartbeats 2000000 in
theorem firstRedex_any (ad : Option Addr) (c : Nat) (l : List Cc) (w : World) (hl : l.length ≤ 1048576) (h0 : 0 < l.length) (hcap : l.length ≤ c) (hO : ∀ i, i < l.length → RedOK (l.drop i)) (h : CRow w ad l) :
    Calls Try.prog 56 #[.slice ad l.length c] w fun e w' => e = .returned (.tuple #[.int .i64 (((fstR l).getD 0 : Nat) : Int), .bool (fstR l).isSome]) ∧ Below w.heap.size w w' := by
  obtain ⟨b, o, rfl, hr⟩ : ∃ b o, ad = some ⟨b, o, none⟩ ∧ CRowAt w b o l := by
    rcases h with rfl | h
    · simp at h0
    · exact h
  clear h
  refine (callsIn_wide (n := 6)).1 ?_
  refine callsIn_of_wp_marks Try.func56 rfl trivial ?_ rfl
  simp only [Try.ntmps56, List.size_toArray, List.length_cons, List.length_nil, Nat.reduceAdd, Nat.reduceSub, Array.replicate_succ, Array.replicate_zero, List.push_toArray, List.append_toArray, List.nil_append, List.cons_append]
  gi_wp2_with (refine ⟨trivial, ?_⟩; gi_at_call 52; refine (callsIn_wide.2 (redexesIn_any _ _ _ _)).mono ?_; rintro e w' ⟨rfl, rfl⟩)
  have c0 := cellN w (.int .i64 0) 3
  have c1 := cellN (w.alloc (.cells #[.int .i64 0] 3)) (.bool false) 4
  have c2 := cellN ((w.alloc (.cells #[.int .i64 0] 3)).alloc (.cells #[.bool false] 4)) (.slice (some ⟨b, o, none⟩) l.length c) 23
  simp only [World.size_alloc] at c1 c2
  have hB0 : Below w.heap.size w (((w.alloc (.cells #[.int .i64 0] 3)).alloc (.cells #[.bool false] 4)).alloc (.cells #[.slice (some ⟨b, o, none⟩) l.length c] 23)) := (((Below.refl _ w).alloc (Nat.le_refl _) _).alloc (by simp) _).alloc (by simp; omega) _
  refine wpIn_rangeFunc_ownF rfl (by omega) (gf := 84) (lb := #[.pointer (some ⟨w.heap.size + 1 + 1, 0, none⟩)]) rfl trivial (enters_of Try.func84 (by kernel_rfl) rfl)
    (redexes_stops 5 (by omega) (w.heap.size + 1 + 1) w.heap.size b o c l hl hcap hO _ hr.1 (by simp <;> omega) (by simp <;> omega) c2.1 (hr.below hB0)) kpB_t (kpB_b (by simp <;> omega) (by simp <;> omega)) (Below.refl _ _) (fun _ => rfl)
    (fun pre W => (pre = [] ∧ W.cell? ⟨w.heap.size, 0, none⟩ = some (.int .i64 0) ∧ W.frozen? ⟨w.heap.size, 0, none⟩ = false ∧ W.cell? ⟨w.heap.size + 1, 0, none⟩ = some (.bool false) ∧ W.frozen? ⟨w.heap.size + 1, 0, none⟩ = false) ∧ Below w.heap.size w W)
    (fun c pre W => (c = .ret ∧ ∃ x : Nat, pre = [x] ∧ W.cell? ⟨w.heap.size, 0, none⟩ = some (.int .i64 (x : Int)) ∧ W.cell? ⟨w.heap.size + 1, 0, none⟩ = some (.bool true)) ∧ Below w.heap.size w W)
    (OwnFrom.and (Own.from (fun s A B row hs hg hr => ⟨hs.1, cell_kept hs.2.1 hg hr, (frozen_kept hs.2.1 hg hr).trans hs.2.2.1, cell_kept hs.2.2.2.1 hg hr, (frozen_kept hs.2.2.2.1 hg hr).trans hs.2.2.2.2⟩) _) (ownFrom_below (Nat.le_refl _) (by simp <;> omega)))
    (fun c => OwnFrom.and (Own.from (fun s A B row hs hg hr => ⟨hs.1, hs.2.choose, hs.2.choose_spec.1, cell_kept hs.2.choose_spec.2.1 hg hr, cell_kept hs.2.choose_spec.2.2 hg hr⟩) _) (ownFrom_below (Nat.le_refl _) (by simp <;> omega)))
    ⟨⟨rfl, cellA _ (cellA _ c0.1), frozenA _ (cellA _ c0.1) (frozenA _ c0.1 c0.2), cellA _ c1.1, frozenA _ c1.1 c1.2⟩, hB0⟩
    (fun x => { tmps := #[.slice (some ⟨b, o, none⟩) l.length c, undef, .pointer (some ⟨w.heap.size, 0, none⟩), .pointer (some ⟨w.heap.size + 1, 0, none⟩), .int .i64 (x : Int), .slice (some ⟨b, o, none⟩) l.length c, .func (.func 84) #[] #[.pointer (some ⟨w.heap.size + 1 + 1, 0, none⟩)], .int .i64 (x : Int), undef], defers := [] }) ?assign ?body ?done ?stop
  case assign =>
    intro y x W K hK
    gi_wp2
    exact hK
  case body =>
    rintro y pre x W ⟨⟨rfl, hc0, hf0, hc1, hf1⟩, hB⟩ _
    gi_wp2
    have hne : (⟨w.heap.size + 1, 0, none⟩ : Addr) ≠ ⟨w.heap.size, 0, none⟩ := by simp
    refine ⟨(KeepsOthers.setCell _ _ _).trans (KeepsOthers.setCell _ _ _), ⟨rfl, x, rfl, ?_, ?_⟩, (hB.setCell (p := ⟨w.heap.size, 0, none⟩) (Nat.le_refl _) _).setCell (p := ⟨w.heap.size + 1, 0, none⟩) (by simp) _⟩
    · rw [World.cell?_setCell_far _ _ _ _ (by simp)]
      exact World.cell?_setCell_same' _ _ _ (by rw [hc0]; rfl)
    · exact World.cell?_setCell_same' _ _ _ (by rw [World.cell?_setCell_far _ _ _ _ (by simp), hc1]; rfl)
  case done =>
    rintro D ys W hD hS ⟨⟨rfl, hc0, hf0, hc1, hf1⟩, hB⟩ hK
    have hf : fstR l = none := by unfold fstR; rw [← hS]; rfl
    gi_wp2
    have hK' := ((KeepsOthers.setCell W ⟨w.heap.size, 0, none⟩ (.int .i64 0)).trans (KeepsOthers.setCell _ ⟨w.heap.size + 1, 0, none⟩ (.bool false))).same D _ hK rfl
    refine ⟨by simp, .inl ⟨_, _, rfl, run_takeDeferred hK', ?_⟩⟩
    have g0 : ((W.setCell ⟨w.heap.size, 0, none⟩ (.int .i64 0)).setCell ⟨w.heap.size + 1, 0, none⟩ (.bool false)).cell? ⟨w.heap.size, 0, none⟩ = some (.int .i64 0) := by
      rw [World.cell?_setCell_far _ _ _ _ (by simp)]
      exact World.cell?_setCell_same' _ _ _ (by rw [hc0]; rfl)
    have g1 : ((W.setCell ⟨w.heap.size, 0, none⟩ (.int .i64 0)).setCell ⟨w.heap.size + 1, 0, none⟩ (.bool false)).cell? ⟨w.heap.size + 1, 0, none⟩ = some (.bool false) :=
      World.cell?_setCell_same' _ _ _ (by rw [World.cell?_setCell_far _ _ _ _ (by simp), hc1]; rfl)
    have e0 := cell_kept g0 (grownBy_putObj' _ D (.deferred none)) (fun r e => by cases e; exact ⟨_, hK', rfl⟩)
    have e1 := cell_kept g1 (grownBy_putObj' _ D (.deferred none)) (fun r e => by cases e; exact ⟨_, hK', rfl⟩)
    refine ⟨.tuple #[.int .i64 0, .bool false], ?_, by rw [hf]; rfl, ((hB.setCell (p := ⟨w.heap.size, 0, none⟩) (Nat.le_refl _) _).setCell (p := ⟨w.heap.size + 1, 0, none⟩) (by simp) _).trans (belowK_b (w := w) (Nat.le_refl _) _ D _ _ (by simp at hD; omega) hK' rfl rfl)⟩
    simp [results, Try.results56, go_sem, e0, e1]
  case stop =>
    rintro D c pre W hD hpre ⟨⟨rfl, x, rfl, hc0, hc1⟩, hB⟩ hK
    have hf : fstR l = some x := by
      unfold fstR
      obtain ⟨t, ht⟩ := hpre
      rw [← ht]; rfl
    gi_wp2
    refine ⟨by simp, .inl ⟨_, _, rfl, run_takeDeferred hK, ?_⟩⟩
    have e0 := cell_kept hc0 (grownBy_putObj' _ D (.deferred none)) (fun r e => by cases e; exact ⟨_, hK, rfl⟩)
    have e1 := cell_kept hc1 (grownBy_putObj' _ D (.deferred none)) (fun r e => by cases e; exact ⟨_, hK, rfl⟩)
    refine ⟨.tuple #[.int .i64 (x : Int), .bool true], ?_, by rw [hf]; rfl, hB.trans (belowK_b (w := w) (Nat.le_refl _) W D _ _ (by simp at hD; omega) hK rfl rfl)⟩
    simp [results, Try.results56, go_sem, e0, e1]

set_option maxHeartbeats 1000000 in
theorem implIsNormal_any (ad : Option Addr) (c : Nat) (l : List Cc) (w : World) (hl : l.length ≤ 1048576) (hcap : l.length ≤ c) (h : CRow w ad l) :
    Calls Try.prog 22 #[.slice ad l.length c] w fun e w' => e = .returned (.tuple #[.bool (nrmT (treeT l)), .bool (goodT l)]) ∧ Below w.heap.size w w' := by
  have HC := hide (implGoodT_any ad c l w hl h)
  cases hg : treeT l with
  | none =>
    have hg2 : goodT l = false := by unfold goodT; rw [hg]; rfl
    rw [hg2] at HC ⊢
    clear hg hg2
    go_enter Try.func22, Try.ntmps22
    go_wp2_with fail
    refine Calls.mono HC.out ?_
    rintro e w1 ⟨rfl, hb1⟩
    clear HC
    go_wp2_with fail
    exact bodyPost_ret (v := .tuple #[.bool false, .bool false]) (by simp [results, Try.results22, go_sem]) rfl ⟨rfl, hb1⟩
  | some t =>
    have hg2 : goodT l = true := by unfold goodT; rw [hg]; rfl
    rw [hg2] at HC ⊢
    obtain ⟨e1, ho, e3, -, -⟩ := treeT_flat hg
    obtain ⟨x, k, rfl⟩ := F.len_1 e3
    have HF := hide (fun w' (hb : Below w.heap.size w w') => firstRedex_any ad c l w' hl (by rw [e1]; simp [F.flat]) hcap (by rw [e1]; intro i hi; have := redOK_in _ [] i ho hi; simpa using this) (h.below hb))
    have HN : Hid (nrmT (some (.cons x k .nil)) = !(fstR l).isSome) := hide (by rw [e1, fstR_any ho]; rfl)
    obtain ⟨V, hV⟩ : ∃ V, V = fstR l := ⟨_, rfl⟩
    rw [← hV] at HF HN
    clear hg hg2 e3 e1 h ho hV
    go_enter Try.func22, Try.ntmps22
    go_wp2_with fail
    refine Calls.mono HC.out ?_
    rintro e w1 ⟨rfl, hb1⟩
    clear HC
    go_wp2_with fail
    refine Calls.mono (HF.out _ hb1) ?_
    rintro e w2 ⟨rfl, hb2⟩
    go_wp2_with fail
    exact bodyPost_ret (v := .tuple #[.bool (!V.isSome), .bool true]) (by simp [results, Try.results22, go_sem]) rfl ⟨by rw [HN.out], hb1.trans (hb2.mono hb1.size)⟩
end Go.Proofs.Ytbimfnnbfbfdoaa.W

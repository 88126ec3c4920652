/-
  The library's slices.Backward at the program's cells of trees: contracts of the maker and of its iterator, for every loop body that keeps what lay below n0; a region that draws its order, within a round. Conditions: at most 1048576 cells.
-/
import Derived.Test.YtiphcjbmoekkkaaPlG
import Derived.Test.YtiphcjbmoekkkaaPlB
import Derived.RangeFuncNested
import Derived.RangeFuncBound
import Derived.RangeFuncCalls
import Derived.RangeFuncLeaves
import Derived.RangeFuncFrom
import Derived.RangeFuncBox
import Derived.Shelf.Abstract
import Derived.Shelf.RegionOpen
import Derived.WalkKit
import Derived.OwnWalkIn
import Derived.TacticsInMore
import Derived.LoopNIn
import Derived.LoopIn
namespace Go.Proofs.Ytiphcjbmoekkkaa.L
open Go.Proofs.Ytiphcjbmoekkkaa.W
open Go.ChangeShapes Go.WideShapes Go.ChangeAt Go.RowKit Go.Shelf
set_option linter.unusedVariables false
attribute [local go_sem] Oper.semAt_some

theorem grown_of {W W' : World} (h : Below W.heap.size W W') : W.grownBy W' none := ⟨h.os, h.tape, h.output, h.size, fun i hi _ => h.block i hi⟩
/-- What a round keeps that goes on: what lay below n0, and the iterator's own variable. -/
def KpB (n0 Bs : Nat) (W W' : World) : Prop := Below n0 W W' ∧ W'.heap[Bs]? = W.heap[Bs]?
theorem kpB_t {n0 Bs : Nat} {A B C : World} (h : KpB n0 Bs A B) (h' : KpB n0 Bs B C) : KpB n0 Bs A C := ⟨h.1.trans h'.1, h'.2.trans h.2⟩

theorem upon_round {l n : Nat} {P : Program} {o : Oper} {a : Act} {K : Act → World → Prop} {Q : Exit → Act → World → Prop} (hQ : ¬ LetsOut Q) : ∀ {r : Result Next}, o.upon P a K Q r → o.uponIn (Fence.wide.inRound l) n P a K Q r := by
  intro r h
  cases r with
  | ok x w' =>
    cases x <;> first
      | exact h
      | exact ⟨fun hd => Bool.noConfusion (show false = true from hd), CallsIn.inRound l (callsIn_wide.2 h)⟩
      | exact ⟨fun hd => Bool.noConfusion (show false = true from hd), fun c cs _ => let ⟨v, w1, r, s⟩ := h c cs; ⟨v, w1, r, stepsIn_wide.2 s⟩⟩
      | exact False.elim h
  | halt x w' => cases x <;> exact h
theorem wpOp_round {l n : Nat} {P : Program} {ops : Array Oper} {Q : Exit → Act → World → Prop} {i : Nat} {K K' : Act → World → Prop} {a : Act} {w : World} (hnd : ∀ o ∈ ops.toList, ∀ c, o.op ≠ .defer c) (hQ : ¬ LetsOut Q) (hK : ∀ a w, K a w → K' a w)
    (h : wpOp P ops Q i K a w) : wpOpIn (Fence.wide.inRound l) n P ops Q i K' a w := by
  refine wpOpIn_mono hK ?_
  unfold wpOp at h
  unfold wpOpIn
  cases ho : ops[i]? with
  | none => simp only [ho] at h ⊢; exact h
  | some o =>
    simp only [ho] at h ⊢
    split
    · rename_i hw
      rw [if_pos hw] at h
      rcases h with h | ⟨_, h⟩
      · refine ⟨fun _ _ => trivial, ?_⟩
        have hmem : o ∈ ops.toList := by
          obtain ⟨hi, e⟩ := Array.getElem?_eq_some_iff.1 ho
          rw [← e]
          exact Array.getElem_mem_toList hi
        rw [Fence.inRound_round, Oper.semAt_some l _ o (hnd o hmem)]
        exact upon_round hQ h
      · exact absurd h hQ
    · rename_i hw
      rw [if_neg hw] at h
      exact ⟨fun _ _ => trivial, h⟩
theorem wpAny_round {l n : Nat} {P : Program} {md : Region.Mode} {ops : Array Oper} {Q : Exit → Act → World → Prop} (hnd : ∀ o ∈ ops.toList, ∀ c, o.op ≠ .defer c) (hQ : ¬ LetsOut Q) : ∀ (fuel : Nat) (listed : Array Bool) (a : Act) (w : World), wpAny P md ops Q fuel listed a w → wpAnyIn (Fence.wide.inRound l) n P md ops Q fuel listed a w
  | 0, _, _, _, h => h
  | fuel + 1, _, _, _, h => ⟨h.1, fun i hi => wpOp_round hnd hQ (fun a' w' h' => wpAny_round hnd hQ fuel _ a' w' h') (h.2 i hi)⟩
/-- No defer statement. -/
def noDef (ops : Array Oper) : Bool := ops.toList.all fun o => match o.op with | .defer _ => false | _ => true
theorem noDef_ne {ops : Array Oper} (h : noDef ops = true) : ∀ o ∈ ops.toList, ∀ c, o.op ≠ .defer c := by
  intro o ho c hc
  have := List.all_eq_true.1 h o ho
  rw [hc] at this
  cases this
/-- A region that draws its order, within a round: walked as everywhere. -/
theorem wpIn_region_round {l n : Nat} {P : Program} {id : Nat} {ops : Array Oper} {Q : Exit → Act → World → Prop} {S : World → Prop} {a : Act} {w : World} (hm : P.follows .mixedOrders = true) (hnd : noDef ops = true) (hQ : ¬ LetsOut Q) (hS : S w.drew)
    (h : S w.drew → wpAnyH P .any ops Q S ops.size (Array.replicate ops.size false) a w.drew) : (Code.region id ops true).wpIn (Fence.wide.inRound l) n P Q a w :=
  wpIn_region_any hm (wpAny_round (noDef_ne hnd) hQ _ _ _ _ (wpAny_of_held _ _ _ _ (h hS)))

set_option maxHeartbeats 1000000 in
theorem back_any (a : Option Addr) (len cap : Nat) (w : World) :
    Calls Try.prog 58 #[.slice a len cap] w fun e w' => e = .returned (.func (.func 63) #[] #[.pointer (some ⟨w.heap.size, 0, none⟩)]) ∧ w' = w.alloc (.cells #[.slice a len cap] 25) := by
  go_enter Try.func58, Try.ntmps58
  go_wp2_with fail
  go_ret
  exact ⟨rfl, rfl⟩

/-- A list of ours that stands for the places from the last one on. -/
def BackL {α : Type} (pos : α → Nat) (ck cn : α → Int) (xs : List α) (l : List Cc) : Prop :=
  (∀ k (h : k < l.length), ∃ x, pos x = k ∧ ck x = (l[k]).k ∧ cn x = (l[k]).n ∧ xs.take (l.length - k) = xs.take (l.length - (k + 1)) ++ [x]) ∧ xs.take l.length = xs

set_option maxRecDepth 100000 in
set_option maxHeartbeats 2000000 in
/-- The iterator's own function: for every loop body that keeps what lay below n0. -/
theorem back1_at {α : Type} (pos : α → Nat) (ck cn : α → Int) (xs : List α) (n : Nat) (hn : 1 ≤ n) (y Bs n0 b o cap : Nat) (l : List Cc) (hl : l.length ≤ 1048576) (hb : b < n0) (hxs : BackL pos ck cn xs l) (J Jx : List α → World → Prop)
    (hY : ∀ pre (x : α) W, J pre W → pre.length < l.length → YieldAt Fence.wide (n - 1) Try.prog y #[.int .i64 (pos x : Int), .agg #[.int .i64 (ck x), .int .i64 (cn x)]] W fun e W' =>
      (e = .returned (.bool true) ∧ J (pre ++ [x]) W' ∧ KpB n0 Bs W W') ∨ (e = .returned (.bool false) ∧ Jx (pre ++ [x]) W'))
    (W : World) (hn0 : n0 ≤ W.heap.size) (hJ : AbidesFrom W.heap.size J) (hBs : W.cell? ⟨Bs, 0, none⟩ = some (.slice (some ⟨b, o, none⟩) l.length cap)) (hBlt : Bs < W.heap.size) (hc : CRowAt W b o l) (h0 : J [] W) :
    CallsIn Fence.wide n Try.prog 63 #[.func (.yield y) #[] #[], .pointer (some ⟨Bs, 0, none⟩)] W fun e W' => (∃ v, e = .returned v) ∧
      ((∃ ys, ys = xs ∧ J ys W') ∨ (∃ pre, pre <+: xs ∧ Jx pre W')) := by
  have HX := hide hxs.1
  have HXe := hide hxs.2
  have HC := hide hc
  have HY := hide hY
  clear hxs hc hY
  obtain ⟨L, hL⟩ : ∃ L, L = l.length := ⟨_, rfl⟩
  have HL := hide hL
  rw [← hL] at hl hBs HXe HY
  clear hL
  refine callsIn_of_wp Try.func63 rfl trivial ?_ rfl
  simp only [Try.ntmps63, List.size_toArray, List.length_cons, List.length_nil, Nat.reduceAdd, Nat.reduceSub, Array.replicate_succ, Array.replicate_zero, List.push_toArray, List.append_toArray, List.nil_append, List.cons_append]
  gi_wp2
  gi_loopw [3] (fun i wr => ∃ k : Nat, k ≤ L ∧ i = .int .i64 ((k : Int) - 1) ∧ J (xs.take (L - k)) wr ∧ Below n0 W wr ∧ wr.heap[Bs]? = W.heap[Bs]?)
    (fun i _ => (intOf i + 1).toNat)
  case atStart => exact ⟨L, Nat.le_refl _, rfl, by rw [Nat.sub_self]; exact h0, Below.refl _ _, rfl⟩
  case round =>
    obtain ⟨k, hk, rfl, hJs, hnx, hbs⟩ := hrel
    cases k with
    | zero =>
      have e0 : (((0 : Nat) : Int) - 1) = -1 := rfl
      rw [e0]
      have HJs := hide hJs
      clear hJs HX HY
      gi_wp2
      go_end0
      exact ⟨⟨_, rfl⟩, .inl ⟨_, rfl, by have h := HJs.out; rw [Nat.sub_zero, HXe.out] at h; exact h⟩⟩
    | succ j =>
      have e0 : (((j + 1 : Nat) : Int) - 1) = (j : Int) := by omega
      rw [e0]
      have hlt : j < L := by omega
      have hlt' : (j : Int) < (L : Int) := by omega
      have hj0 : (0 : Int) ≤ (j : Int) := by omega
      have hjl : j < l.length := by rw [← HL.out]; exact hlt
      have cB : wr.cell? ⟨Bs, 0, none⟩ = some (.slice (some ⟨b, o, none⟩) L cap) := (World.cell?_of_block (w := W) hbs).trans hBs
      have p0 := (hnx.cell (p := ⟨b, o + j * 2, none⟩) hb).trans (HC.out.2 j hjl).1
      have p1 := (hnx.cell (p := ⟨b, o + j * 2 + 1, none⟩) hb).trans (HC.out.2 j hjl).2
      obtain ⟨x, hx1, hx2, hx3, htk⟩ := HX.out j hjl
      rw [← hx2] at p0
      rw [← hx3] at p1
      have hlen : (xs.take (L - (j + 1))).length < L := Nat.lt_of_le_of_lt (by rw [List.length_take]; exact Nat.min_le_left _ _) (show L - (j + 1) < L by omega)
      have hyy := HY.out (xs.take (L - (j + 1))) x wr hJs hlen
      rw [hx1] at hyy
      rw [← HL.out] at htk
      obtain ⟨fn, tmps, assign, body, hy, hR⟩ := hyy
      have HTk := hide htk
      clear htk hx1 hx2 hx3 hJs hlen
      gi_wp2
      refine hR.mono ?_
      rintro e W3 (⟨rfl, hJ3, hk3⟩ | ⟨rfl, hJx3⟩)
      · have HJ3 := hide hJ3
        clear hJ3
        gi_wp2
        go_roundw
        case rel => exact ⟨j, by omega, rfl, by rw [HTk.out]; exact HJ3.out, hnx.trans hk3.1, hk3.2.trans hbs⟩
        case measure => (simp [intOf]; try omega)
      · gi_wp2
        refine bodyPost_ret (results_none rfl _ _ _) rfl ?_
        exact ⟨⟨_, rfl⟩, .inr ⟨_, by rw [← HTk.out]; exact List.take_prefix _ _, hJx3⟩⟩

theorem back_stopsAt {α : Type} (pos : α → Nat) (ck cn : α → Int) (xs : List α) (n : Nat) (hn : 1 ≤ n) (Bs n0 b o cap : Nat) (l : List Cc) (hl : l.length ≤ 1048576) (hxs : BackL pos ck cn xs l) (w : World) (hb : b < n0) (hBs : Bs < w.heap.size) (hn0 : n0 ≤ w.heap.size)
    (hc : w.cell? ⟨Bs, 0, none⟩ = some (.slice (some ⟨b, o, none⟩) l.length cap)) (hI : CRowAt w b o l) :
    SeqStopsK Fence.wide n Try.prog 63 #[.pointer (some ⟨Bs, 0, none⟩)] (fun x : α => #[Value.int .i64 (pos x : Int), .agg #[.int .i64 (ck x), .int .i64 (cn x)]]) (KpB n0 Bs) (fun ys => ys = xs) (fun pre => pre <+: xs) l.length w := fun y J Jx W hW hJ _ hY h0 => by
  refine (back1_at pos ck cn xs n hn y Bs n0 b o cap l hl hb hxs J Jx hY W (Nat.le_trans hn0 hW.size) hJ ((hW.cell (p := ⟨Bs, 0, none⟩) hBs).trans hc) (Nat.lt_of_lt_of_le hBs hW.size) (hI.below hW) h0).mono ?_
  rintro e W' ⟨he, ⟨ys, rfl, hj⟩ | ⟨pre, hp, hj⟩⟩
  · exact ⟨he, .inl ⟨_, rfl, hj⟩⟩
  · exact ⟨he, .inr ⟨_, hp, hj⟩⟩
end Go.Proofs.Ytiphcjbmoekkkaa.L

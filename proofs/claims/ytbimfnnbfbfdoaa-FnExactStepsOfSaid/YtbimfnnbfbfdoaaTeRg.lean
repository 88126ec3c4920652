/-
  The program's iterator over the places of redexes, for loop bodies that go on: the places told as elements of a list of ours. Conditions: good terms of at most 1048576 cells.
-/
import Derived.Test.YtbimfnnbfbfdoaaTeRf
import Derived.Test.YtbimfnnbfbfdoaaTeSm
namespace Go.Proofs.Ytbimfnnbfbfdoaa.W
open Go.ChangeShapes Go.WideShapes Go.ChangeAt Go.RowKit Go.Shelf
set_option linter.unusedVariables false
attribute [local go_sem] Oper.semAt_some

theorem next_at {α : Type} (pos : α → Nat) (xs : List α) (l : List Cc) (hxs : xs.map pos = pls l) (k : Nat) (hk : k < l.length) (hi : isRl (l.drop k) = true) : ∃ x, pos x = k ∧ xs.take (plUp l (k + 1)).length = xs.take (plUp l k).length ++ [x] := by
  have h1 : plUp l (k + 1) = plUp l k ++ [k] := by rw [plUp_succ, if_pos hi]
  obtain ⟨t, ht⟩ : plUp l (k + 1) <+: xs.map pos := by
    rw [hxs]
    have := plUp_pre l (k + 1) (l.length - (k + 1))
    rwa [Nat.add_sub_of_le hk] at this
  rw [h1] at ht ⊢
  have h2 : (plUp l k).length < xs.length := by have := congrArg List.length ht; simp at this; omega
  refine ⟨xs[(plUp l k).length], ?_, ?_⟩
  · have h3 : (xs.map pos)[(plUp l k).length]? = some k := by rw [← ht]; simp
    rw [List.getElem?_map, List.getElem?_eq_getElem h2] at h3
    simpa using h3
  · rw [List.length_append, List.length_singleton, List.take_add_one, List.getElem?_eq_getElem h2]
    rfl

set_option maxRecDepth 100000 in
set_option maxHeartbeats 2000000 in
/-- The iterator's own function: for every loop body that keeps what lay below n0; the places are told as what stands for them. -/
theorem redexes1_at {α : Type} (pos : α → Nat) (xs : List α) (n : Nat) (hn : 1 ≤ n) (y Bs n0 b o cap : Nat) (l : List Cc) (hl : l.length ≤ 1048576) (hcap : l.length ≤ cap) (hO : ∀ i, i < l.length → RedOK (l.drop i)) (hb : b < n0) (hxs : xs.map pos = pls l) (J Jx : List α → World → Prop)
    (hY : ∀ pre (x : α) W, J pre W → pre.length < l.length → YieldAt Fence.wide (n - 1) Try.prog y #[.int .i64 (pos x : Int)] W fun e W' =>
      (e = .returned (.bool true) ∧ J (pre ++ [x]) W' ∧ KpB n0 Bs W W') ∨ (e = .returned (.bool false) ∧ Jx (pre ++ [x]) W'))
    (W : World) (hn0 : n0 ≤ W.heap.size) (hJ : AbidesFrom W.heap.size J) (hBs : W.cell? ⟨Bs, 0, none⟩ = some (.slice (some ⟨b, o, none⟩) l.length cap)) (hBlt : Bs < W.heap.size) (hc : CRowAt W b o l) (h0 : J [] W) :
    CallsIn Fence.wide n Try.prog 84 #[.func (.yield y) #[] #[], .pointer (some ⟨Bs, 0, none⟩)] W fun e W' => (∃ v, e = .returned v) ∧
      ((∃ ys, ys = xs ∧ J ys W') ∨ (∃ pre, pre <+: xs ∧ Jx pre W')) := by
  have HX := hide (fun k hk hi => next_at pos xs l hxs k hk hi)
  have HXe : Hid (xs.take (plUp l l.length).length = xs) := hide (by rw [List.take_of_length_le]; have := congrArg List.length hxs; unfold pls at this; simp at this; omega)
  clear hxs
  have HY := hide hY
  have HO := hide hO
  have HC := hide hc
  have HJ := hide hJ
  clear hY hO hc hJ
  obtain ⟨L, hL⟩ : ∃ L, L = l.length := ⟨_, rfl⟩
  have HL := hide hL
  rw [← hL] at hl hcap hBs HY HO HX HXe
  clear hL
  refine callsIn_of_wp Try.func84 rfl trivial ?_ rfl
  simp only [Try.ntmps84, List.size_toArray, List.length_cons, List.length_nil, Nat.reduceAdd, Nat.reduceSub, Array.replicate_succ, Array.replicate_zero, List.push_toArray, List.append_toArray, List.nil_append, List.cons_append]
  gi_wp2
  gi_loopw [6] (fun i wr => ∃ k : Nat, k ≤ L ∧ i = .int .i64 k ∧ J (xs.take (plUp l k).length) wr ∧ Below n0 W wr ∧ wr.heap[Bs]? = W.heap[Bs]?)
    (fun i _ => L - (intOf i).toNat)
  case atStart => exact ⟨0, Nat.zero_le _, rfl, h0, Below.refl _ _, rfl⟩
  case round =>
    obtain ⟨k, hk, rfl, hJs, hnx, hbs⟩ := hrel
    by_cases hlt : k < L
    · have hlt' : (k : Int) < (L : Int) := by omega
      have hk0 : (0 : Int) ≤ (k : Int) := by omega
      have hkL : (k : Int) ≤ (L : Int) := by omega
      have hkc : (k : Int) ≤ (cap : Int) := by omega
      have cB : wr.cell? ⟨Bs, 0, none⟩ = some (.slice (some ⟨b, o, none⟩) L cap) := (World.cell?_of_block (w := W) hbs).trans hBs
      have hsz := hnx.size
      have hbr : CRowAt wr b o l := ⟨Nat.lt_of_lt_of_le HC.out.1 hsz, fun i hi => ⟨(hnx.cell (p := ⟨b, o + i * 2, none⟩) hb).trans (HC.out.2 i hi).1, (hnx.cell (p := ⟨b, o + i * 2 + 1, none⟩) hb).trans (HC.out.2 i hi).2⟩⟩
      have hdl : (l.drop k).length = L - k := by rw [List.length_drop, HL.out]
      have hI := isRedex_any (some ⟨b, o + k * 2, none⟩) (cap - k) (l.drop k) wr (by omega) (HO.out k hlt) (.inr ⟨_, _, rfl, hbr.drop k⟩)
      rw [hdl] at hI
      have HI := hide hI
      have HJs := hide hJs
      clear hI hdl hbr hJs
      gi_wp2_with fail
      refine ⟨trivial, (callsIn_wide.2 HI.out).mono ?_⟩
      rintro e wr1 ⟨rfl, hb1⟩
      have hJ1 : J (xs.take (plUp l k).length) wr1 := HJ.out _ wr wr1 none HJs.out (grown_of hb1) (fun r e => by cases e)
      have hn1 : Below n0 W wr1 := hnx.trans (hb1.mono (Nat.le_trans hn0 hsz))
      have hbs1 : wr1.heap[Bs]? = W.heap[Bs]? := (hb1.block Bs (Nat.lt_of_lt_of_le hBlt hsz)).trans hbs
      have HPs := hide (plUp_succ l k)
      have HPl := hide (plUp_len l k)
      clear HI hb1 HJs
      obtain ⟨R, hR⟩ : ∃ R, R = isRl (l.drop k) := ⟨_, rfl⟩
      rw [← hR] at HPs ⊢
      have HRr := hide hR
      clear hR
      cases R with
      | true =>
        obtain ⟨z, hz, htk⟩ := HX.out k hlt HRr.out.symm
        have hyy := HY.out (xs.take (plUp l k).length) z wr1 hJ1 (Nat.lt_of_le_of_lt (Nat.le_trans (by rw [List.length_take]; exact Nat.min_le_left _ _) HPl.out) hlt)
        rw [hz] at hyy
        obtain ⟨fn, tmps, assign, body, hy, hR⟩ := hyy
        have HTk := hide htk
        clear htk hz
        have HJ1 := hide hJ1
        clear hJ1
        gi_wp2
        refine hR.mono ?_
        rintro e W3 (⟨rfl, hJ3, hk3⟩ | ⟨rfl, hJx3⟩)
        · have HJ3 := hide hJ3
          clear hJ3
          gi_wp2
          go_roundw
          case rel => exact ⟨k + 1, by omega, by simp, by rw [HTk.out]; exact HJ3.out, hn1.trans hk3.1, hk3.2.trans hbs1⟩
          case measure => simp [intOf]; omega
        · gi_wp2
          refine bodyPost_ret (results_none rfl _ _ _) rfl ?_
          exact ⟨⟨_, rfl⟩, .inr ⟨_, by rw [← HTk.out]; exact List.take_prefix _ _, hJx3⟩⟩
      | false =>
        have HJ1 := hide hJ1
        clear hJ1
        gi_wp2
        refine ⟨fun _ h => (by cases h), ?_⟩
        gi_wp2
        go_roundw
        case rel => exact ⟨k + 1, by omega, by simp, by rw [HPs.out]; simpa using HJ1.out, hn1, hbs1⟩
        case measure => simp [intOf]; omega
    · obtain rfl : k = L := by omega
      have HJs := hide hJs
      clear hJs
      gi_wp2
      go_end0
      exact ⟨⟨_, rfl⟩, .inl ⟨_, rfl, by have h := HJs.out; rw [HXe.out] at h; exact h⟩⟩

theorem redexes_stopsAt {α : Type} (pos : α → Nat) (xs : List α) (n : Nat) (hn : 1 ≤ n) (Bs n0 b o cap : Nat) (l : List Cc) (hl : l.length ≤ 1048576) (hcap : l.length ≤ cap) (hO : ∀ i, i < l.length → RedOK (l.drop i)) (hxs : xs.map pos = pls l) (w : World) (hb : b < n0) (hBs : Bs < w.heap.size) (hn0 : n0 ≤ w.heap.size)
    (hc : w.cell? ⟨Bs, 0, none⟩ = some (.slice (some ⟨b, o, none⟩) l.length cap)) (hI : CRowAt w b o l) :
    SeqStopsK Fence.wide n Try.prog 84 #[.pointer (some ⟨Bs, 0, none⟩)] (fun x : α => #[Value.int .i64 (pos x : Int)]) (KpB n0 Bs) (fun ys => ys = xs) (fun pre => pre <+: xs) l.length w := fun y J Jx W hW hJ _ hY h0 => by
  refine (redexes1_at pos xs n hn y Bs n0 b o cap l hl hcap hO hb hxs J Jx hY W (Nat.le_trans hn0 hW.size) hJ ((hW.cell (p := ⟨Bs, 0, none⟩) hBs).trans hc) (Nat.lt_of_lt_of_le hBs hW.size) (hI.below hW) h0).mono ?_
  rintro e W' ⟨he, ⟨ys, rfl, hj⟩ | ⟨pre, hp, hj⟩⟩
  · exact ⟨he, .inl ⟨_, rfl, hj⟩⟩
  · exact ⟨he, .inr ⟨_, hp, hj⟩⟩
end Go.Proofs.Ytbimfnnbfbfdoaa.W

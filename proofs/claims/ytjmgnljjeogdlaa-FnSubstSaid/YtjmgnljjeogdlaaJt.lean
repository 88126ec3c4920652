/-
  Some texts of this proof in one: DrD, TeSh.
-/
import Derived.Test.YtjmgnljjeogdlaaJi
import Derived.Test.YtjmgnljjeogdlaaJl
import Derived.Test.YtjmgnljjeogdlaaJm
import Derived.Test.YtjmgnljjeogdlaaJs
import Derived.Deep.RegionHeld3
import Derived.BigQuiet
import Derived.OpenShut
import Derived.ChangeSlices
import Derived.Test.YtjmgnljjeogdlaaJn
/-
  The laws' own loops: contracts of same and has; bytes that came in; FreeIn of the program. Conditions: at most 1048576 cells.
-/
namespace Go.Proofs.Ytjmgnljjeogdlaa.W
open Go.ChangeShapes Go.WideShapes Go.ChangeAt Go.RowKit
set_option linter.unusedVariables false
set_option linter.unusedSimpArgs false

set_option maxRecDepth 20000 in
set_option maxHeartbeats 2000000 in
theorem same_any (a1 a2 : Option Addr) (c1 c2 : Nat) (l1 l2 : List Cc) (w : World) (hl1 : l1.length ≤ 1048576) (hl2 : l2.length ≤ 1048576) (h1 : CRow w a1 l1) (h2 : CRow w a2 l2) :
    Calls Try.prog 8 #[.slice a1 l1.length c1, .slice a2 l2.length c2] w fun e w' => e = .returned (.bool (sameR l1 l2)) ∧ Below w.heap.size w w' := by
  have H1 := hide h1
  have H2 := hide h2
  clear h1 h2
  obtain ⟨R, hR⟩ : ∃ R, R = sameR l1 l2 := ⟨_, rfl⟩
  rw [← hR]
  have HR := hide hR
  clear hR
  by_cases hlen : l1.length = l2.length
  · have hlen' : (l1.length : Int) = (l2.length : Int) := by omega
    rw [← hlen]
    clear hlen'
    go_enter Try.func8, Try.ntmps8
    have HL := hide hlen
    clear hlen hl2
    go_wp2_with fail
    go_loopw [13] (fun i w' => ∃ j : Nat, j ≤ l1.length ∧ i = .int .i64 j ∧ R = sameR (l1.drop j) (l2.drop j) ∧ Below w.heap.size w w') (fun i _ => l1.length - (intOf i).toNat)
    case atStart => exact ⟨0, by omega, rfl, by rw [HR.out]; rfl, Below.refl _ _⟩
    case round =>
      obtain ⟨j, hj, rfl, hr, hB⟩ := hrel
      by_cases hlt : j < l1.length
      · have hlt' : (j : Int) < (l1.length : Int) := by omega
        have hlt2 : j < l2.length := by have := HL.out; omega
        obtain ⟨b, o, rfl, hb, p0, p1⟩ := H1.out.tok hB hlt
        obtain ⟨b', o', rfl, hb', q0, q1⟩ := H2.out.tok hB hlt2
        rw [List.drop_eq_getElem_cons hlt, List.drop_eq_getElem_cons hlt2] at hr
        obtain ⟨x, hx⟩ : ∃ x, x = l1[j] := ⟨_, rfl⟩
        obtain ⟨y, hy⟩ : ∃ y, y = l2[j] := ⟨_, rfl⟩
        rw [← hx] at p0 p1 hr
        rw [← hy] at q0 q1 hr
        have hs : R = (decide (x.k = y.k) && (decide (x.n = y.n) && sameR (l1.drop (j + 1)) (l2.drop (j + 1)))) := hr
        have HS := hide hs
        clear hx hy hr hs H1 H2
        by_cases hxy : x.k = y.k ∧ x.n = y.n
        · obtain ⟨e1, e2⟩ := hxy
          rw [e1] at p0 
          rw [e2] at p1
          go_wp2_with fail
          go_quiet (fail)
          go_wp2_with fail
          refine ⟨⟨j + 1, by omega, by go_num, ?_, ⟨hB.os, hB.tape, hB.output, hB.size, hB.block⟩⟩, by simp [intOf]; omega⟩
          rw [HS.out, decide_eq_true e1, decide_eq_true e2]; rfl
        · have hf : R = false := by
            rw [HS.out]
            by_cases h1 : x.k = y.k
            · have h2 : ¬ x.n = y.n := fun h => hxy ⟨h1, h⟩
              rw [decide_eq_false h2]; simp
            · rw [decide_eq_false h1]; simp
          subst hf
          clear HS HR
          by_cases h1 : x.k = y.k
          · have h2 : (x.n == y.n) = false := by simpa using fun h => hxy ⟨h1, h⟩
            rw [h1] at p0
            clear hxy h1
            go_wp2_with fail
            go_quiet (fail)
            go_wp2_with fail
            go_ret
            exact ⟨rfl, ⟨hB.os, hB.tape, hB.output, hB.size, hB.block⟩⟩
          · have h2 : (x.k == y.k) = false := by simpa using h1
            clear hxy h1
            go_wp2_with fail
            go_quiet (fail)
            go_wp2_with fail
            go_ret
            exact ⟨rfl, ⟨hB.os, hB.tape, hB.output, hB.size, hB.block⟩⟩
      · obtain rfl : j = l1.length := by omega
        have hl2 : l2.length = l1.length := HL.out.symm
        have hf : R = true := by rw [hr, List.drop_length, List.drop_eq_nil_of_le (by omega)]; rfl
        subst hf
        clear hl2 hr HR
        go_wp2_with fail
        go_ret
        exact ⟨rfl, hB⟩
  · have hf : R = false := by
      rw [HR.out, ← Bool.not_eq_true, sameR_iff]
      intro e
      exact hlen (by rw [e])
    subst hf
    have hlen' : ¬ (l1.length : Int) = (l2.length : Int) := by omega
    have hlb : ((l1.length : Int) == (l2.length : Int)) = false := by simp; omega
    have hlb2 : ((l1.length : Int) != (l2.length : Int)) = true := by simp; omega
    go_enter Try.func8, Try.ntmps8
    go_wp2_with fail
    go_ret
    exact ⟨rfl, Below.refl _ _⟩


theorem frS_len (l : List Cc) (h : l.length ≤ 1048576) : (frS l).length ≤ 1048576 := by
  unfold frS
  cases ht : treeT l with
  | none => simp
  | some a =>
    obtain ⟨t1, t2, t3, t4, -⟩ := treeT_flat ht
    obtain ⟨x, k, rfl⟩ := F.len_1 t3
    have := fre_len (.cons x k .nil) 0 0 0 []
    rw [fre_cons, ← t1] at this
    simp only [fre, binds_0, Nat.add_zero, List.length_nil, Nat.zero_add] at this
    show (fr1 0 x k []).length ≤ _
    omega
theorem implFreeS_any (ad : Option Addr) (c : Nat) (l : List Cc) (w : World) (hl : l.length ≤ 1048576) (hc : l.length ≤ c) (h : CRow w ad l) :
    Calls Try.prog 9 #[.slice ad l.length c] w fun e w' => ∃ s', e = .returned (.tuple #[s', .bool (treeT l).isSome]) ∧ w'.ownsRow w.heap.size 3 1 s' (frS l).length ((frS l).map (Value.int .i64)) ∧ Below w.heap.size w w' := by
  unfold frS
  cases ht : treeT l with
  | none => exact (implFreeIn_none ad c l w hl h ht).mono fun e w' ⟨he, hb⟩ => ⟨_, he, World.ownsRow_nil _ _ _ _, hb⟩
  | some a =>
    obtain ⟨t1, t2, t3, t4, -⟩ := treeT_flat ht
    obtain ⟨x, k, rfl⟩ := F.len_1 t3
    refine (implFreeIn_some ad c l _ w hl hc h ht x k rfl).mono fun e w' ⟨s', he, ho, hb⟩ => ⟨s', he, ?_, hb⟩
    rw [marked_bits x k t2] at ho
    exact ho
theorem IS.elem {w : World} {s : Value} {l : List Int} (h : IS w s l) {i : Nat} (hi : i < l.length) : ∃ g c, s = .slice (some ⟨g, 0, none⟩) l.length c ∧ g < w.heap.size ∧ w.cell? ⟨g, i, none⟩ = some (.int .i64 l[i]) := by
  rcases h with ⟨-, h⟩ | ⟨g, c, h1, h2, h3, h4⟩
  · subst h; simp at hi
  · exact ⟨g, c, h1, h3, h4 i hi⟩

set_option maxRecDepth 20000 in
set_option maxHeartbeats 1000000 in
theorem has_any (s : Value) (l : List Int) (n : Int) (w : World) (hl : l.length ≤ 1048576) (h : IS w s l) :
    Calls Try.prog 10 #[s, .int .i64 n] w fun e w' => e = .returned (.bool (decide (n ∈ l))) ∧ Below w.heap.size w w' := by
  obtain ⟨ad, c, rfl⟩ := h.form
  have HI := hide h
  obtain ⟨R, hR⟩ : ∃ R, R = decide (n ∈ l) := ⟨_, rfl⟩
  rw [← hR]
  have HR := hide hR
  obtain ⟨LN, hLN⟩ : ∃ LN, LN = l.length := ⟨_, rfl⟩
  rw [← hLN] at HI hl ⊢
  have HLN := hide hLN
  clear h hR hLN
  go_enter Try.func10, Try.ntmps10
  go_wp2_with fail
  go_loopw [9] (fun i w' => ∃ j : Nat, j ≤ LN ∧ i = .int .i64 j ∧ R = decide (n ∈ l.drop j) ∧ Below w.heap.size w w') (fun i _ => LN - (intOf i).toNat)
  case atStart => exact ⟨0, by omega, rfl, HR.out, Below.refl _ _⟩
  case round =>
    obtain ⟨j, hj, rfl, hr, hB⟩ := hrel
    have HRr := hide hr
    clear hr
    by_cases hlt : j < LN
    · have hlt' : (j : Int) < (LN : Int) := by omega
      have hj0 : (0 : Int) ≤ (j : Int) := by omega
      have hlt2 : j < l.length := by rw [← HLN.out]; exact hlt
      obtain ⟨g, c', e1, hg, p0⟩ := HI.out.elem hlt2
      simp only [Value.slice.injEq] at e1
      obtain ⟨rfl, -, rfl⟩ := e1
      have q0 := (hB.cell (p := ⟨g, j, none⟩) hg).trans p0
      have hd : R = (decide (n = l[j]) || decide (n ∈ l.drop (j + 1))) := by
        rw [HRr.out, List.drop_eq_getElem_cons hlt2]
        simp only [List.mem_cons]
        by_cases h1 : n = l[j] <;> by_cases h2 : n ∈ l.drop (j + 1) <;> simp [h1, h2]
      obtain ⟨v, hv⟩ : ∃ v, v = l[j] := ⟨_, rfl⟩
      rw [← hv] at q0 hd
      have HD := hide hd
      clear p0 hv hd HRr hlt2
      by_cases hnv : n = v
      · have hR : R = true := by rw [HD.out, decide_eq_true hnv]; rfl
        subst hR
        subst hnv
        clear HD
        go_wp2_with fail
        go_ret
        exact ⟨rfl, hB⟩
      · have hR : R = decide (n ∈ l.drop (j + 1)) := by rw [HD.out, decide_eq_false hnv]; rfl
        have HRn := hide hR
        have hne : (v == n) = false := by simpa using fun h => hnv h.symm
        clear HD hR hnv
        go_wp2_with fail
        exact ⟨⟨j + 1, by omega, by go_num, HRn.out, hB⟩, by simp [intOf]; omega⟩
    · obtain rfl : j = LN := by omega
      have hR : R = false := by rw [HRr.out, HLN.out, List.drop_length]; simp
      subst hR
      clear HRr
      go_wp2_with fail
      go_ret
      exact ⟨rfl, hB⟩

theorem blk_lt {w : World} {a : Addr} {v : Value} (h : w.cell? a = some v) : a.block < w.heap.size := by
  unfold World.cell? at h
  split at h
  · rename_i hb; exact (Array.getElem?_eq_some_iff.1 hb).1
  · cases h
theorem cells8 : Try.prog.cellsOf 5 = 1 := by kernel_rfl

set_option maxRecDepth 20000 in
theorem open_byte {H : Type} {enc : TypeId × Value → H} {W : World} {sp : Nat → Bool} {held : Bool} {fuel : Nat} {ad : Option Addr} {len cap : Nat} {x : DataW H × List MemPlace}
    (h : DataW.trod enc Try.prog W 0 sp held fuel 22 [.slice ad len cap] = some x) :
    len ≤ maxLen ∧ BRow W ad len := by
  rcases Go.ChangeShapes.open_ints Try.underlying22 Try.underlying5 cells8 h with ⟨hcs, hx⟩ | ⟨a, len', cap', zs, hcs, hb, hl, hm, hz, hx, hcell, hwz⟩
  · simp at hcs
    obtain ⟨rfl, rfl, rfl⟩ := hcs
    exact ⟨by omega, .inl rfl⟩
  · simp at hcs
    obtain ⟨rfl, rfl, rfl⟩ := hcs
    have hz2 : len ≤ zs.length := by rw [hz]; split <;> omega
    refine ⟨by omega, ?_⟩
    clear hz
    by_cases h0 : len = 0
    · exact .inl h0
    · obtain ⟨ab, ao, spot⟩ := a
      have hspot : spot = none := by simpa [Addr.add] using World.cell?_spot (hcell 0 (by omega))
      subst hspot
      have hlt : ab < W.heap.size := by
        have := hcell 0 (by omega)
        rw [Addr.add_lit] at this
        exact blk_lt this
      refine .inr ⟨ab, ao, rfl, hlt, hlt, fun i hi => ?_⟩
      have hcj := hcell i (by omega)
      rw [Addr.add_lit] at hcj
      have hb := Go.range_u8 hwz i
      rw [List.getD_eq_getElem?_getD] at hcj
      exact ⟨_, hb.1, hb.2, hcj⟩
end Go.Proofs.Ytjmgnljjeogdlaa.W

/-
  Both sides' ShiftTerm. Conditions: at most 1048576 cells.
-/
namespace Go.Proofs.Ytjmgnljjeogdlaa.W
open Go.ChangeShapes Go.WideShapes Go.ChangeAt Go.RowKit
set_option linter.unusedVariables false

theorem Bd_take {by_ : Int} {f : Nat} {l : List Int} (h : Bd by_ f l = false) (j : Nat) (hj : j < l.length) : ¬ ((f : Int) ≤ l[j] ∧ l[j] + by_ < (f : Int)) := by
  unfold Bd at h
  intro hc
  have := List.any_eq_false.1 h l[j] (List.getElem_mem hj)
  simp [hc.1, hc.2] at this
theorem Bd_yes {by_ : Int} {f : Nat} {l : List Int} (j : Nat) (hj : j < l.length) (hc : (f : Int) ≤ l[j] ∧ l[j] + by_ < (f : Int)) : Bd by_ f l = true := by
  unfold Bd
  rw [List.any_eq_true]
  exact ⟨l[j], List.getElem_mem hj, by simp [hc.1, hc.2]⟩
theorem Bd_all {by_ : Int} {f : Nat} {l : List Int} (h : ∀ j (hj : j < l.length), ¬ ((f : Int) ≤ l[j] ∧ l[j] + by_ < (f : Int))) : Bd by_ f l = false := by
  unfold Bd
  rw [List.any_eq_false]
  intro x hx
  obtain ⟨j, hj, rfl⟩ := List.getElem_of_mem hx
  have := h j hj
  simp only [Bool.and_eq_true, decide_eq_true_eq]
  exact this

theorem fre_bd : ∀ (a : F) (pk : Int) (d i : Nat) (o : List Int), a.ok → (∀ m ∈ o, 0 ≤ m ∧ m ≤ 99) → ∀ m ∈ fre pk d i a o, 0 ≤ m ∧ m ≤ 99
  | .nil, _, _, _, _, _, h => h
  | .cons x k r, pk, d, i, o, h, ho => by
    obtain ⟨g1, l1, o1, r1⟩ := ok_cons h
    rw [fre_cons]
    refine fre_bd r pk d (i + 1) _ r1 ?_
    unfold fr1
    split
    · rename_i hc
      have hn : 0 ≤ x.n ∧ x.n ≤ 99 := by
        unfold goodC at g1
        rw [if_pos hc.1] at g1
        simpa [inB] using g1
      intro m hm
      rcases (mem_put _ _ _).1 hm with hm | rfl
      · exact ho m hm
      · omega
    · exact fre_bd k x.k _ 0 o o1 ho
end Go.Proofs.Ytjmgnljjeogdlaa.W

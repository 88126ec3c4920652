/-
  A term's text: contracts of both TermText. Conditions: Go's own table of powers of ten reads as its text lays it; at most 1048576 cells.
-/
import Derived.Test.YthnkdlhkldcaoaaDoorTxC
namespace Go.Proofs.YthnkdlhkldcaoaaDoor.W
open Go.ChangeShapes Go.WideShapes Go.ChangeAt Go.RowKit
set_option linter.unusedVariables false

/-- The text of the first j cells. -/
def jl (l : List Cc) (j : Nat) : List UInt8 := Lib.join ((l.take j).map fun x => (wd x).data.toList) [32]
theorem join_snoc (x : List UInt8) (r : List (List UInt8)) (y : List UInt8) : Lib.join (x :: (r ++ [y])) [32] = Lib.join (x :: r) [32] ++ 32 :: y := by
  rw [Lib.join_cons, Lib.join_cons]
  simp [Lib.joinTail]
theorem jl_0 (l : List Cc) : jl l 0 = [] := rfl
theorem jl_1 (l : List Cc) (h : 0 < l.length) : jl l 1 = (wd l[0]).data.toList := by
  cases l with
  | nil => simp at h
  | cons x l => exact Lib.join_one _ _
theorem jl_succ (l : List Cc) (j : Nat) (hj : 0 < j) (h : j < l.length) : jl l (j + 1) = jl l j ++ 32 :: (wd l[j]).data.toList := by
  unfold jl
  rw [List.take_succ_eq_append_getElem h, List.map_append]
  cases l with
  | nil => simp at h
  | cons x l =>
    obtain ⟨i, rfl⟩ : ∃ i, j = i + 1 := ⟨j - 1, by omega⟩
    simp only [List.take_succ_cons, List.map_cons, List.cons_append, List.map_nil]
    exact join_snoc _ _ _
theorem good_mem : ∀ (a : F), a.ok → ∀ x ∈ a.flat, goodC x = true
  | .nil, _, x, hx => by cases hx
  | .cons y k r, h, x, hx => by
    obtain ⟨g1, l1, o1, r1⟩ : goodC y = true ∧ k.len = ar y.k ∧ k.ok ∧ r.ok := h
    simp only [F.flat, List.mem_cons, List.mem_append] at hx
    rcases hx with rfl | hx | hx
    · exact g1
    · exact good_mem k o1 x hx
    · exact good_mem r r1 x hx
theorem goodT_all {l : List Cc} (h : goodT l = true) : l.length ≤ 600 ∧ 0 < l.length ∧ ∀ x ∈ l, goodC x = true := by
  unfold goodT at h
  cases ht : treeT l with
  | none => rw [ht] at h; cases h
  | some a =>
    obtain ⟨t1, t2, t3, t4, -⟩ := treeT_flat ht
    obtain ⟨x, k, rfl⟩ := F.len_1 t3
    exact ⟨t4, by rw [t1]; simp [F.flat], by rw [t1]; exact good_mem _ t2⟩
theorem jl_len (l : List Cc) (h : ∀ x ∈ l, goodC x = true) : ∀ j, j ≤ l.length → (jl l j).length ≤ 12 * j
  | 0, _ => by simp [jl_0]
  | j + 1, hj => by
    have hw : (wd (l[j]'(by omega))).data.toList.length ≤ 11 := wd_len (h _ (List.getElem_mem (show j < l.length by omega)))
    by_cases h0 : j = 0
    · subst h0; rw [jl_1 l (by omega)]; omega
    · rw [jl_succ l j (by omega) (by omega)]
      have := jl_len l h j (by omega)
      simp only [List.length_append, List.length_cons]
      omega

theorem ba_ext {a b : ByteArray} (h : a.data.toList = b.data.toList) : a = b := by
  cases a; cases b; simp at h; simp [h]
/-- The same, as bytes. -/
def jb (l : List Cc) (j : Nat) : ByteArray := ⟨(jl l j).toArray⟩
theorem jb_size (l : List Cc) (j : Nat) : (jb l j).size = (jl l j).length := by simp [jb, ByteArray.size]
theorem jb_1 (l : List Cc) (h : 0 < l.length) : jb l 1 = jb l 0 ++ wd l[0] := by
  apply ba_ext
  rw [ByteArray.data_append, Array.toList_append]
  show jl l 1 = jl l 0 ++ _
  rw [jl_1 l h, jl_0]
  rfl
theorem jb_succ (l : List Cc) (j : Nat) (hj : 0 < j) (h : j < l.length) : jb l (j + 1) = jb l j ++ ⟨#[32]⟩ ++ wd l[j] := by
  apply ba_ext
  rw [ByteArray.data_append, ByteArray.data_append, Array.toList_append, Array.toList_append]
  show jl l (j + 1) = (jl l j ++ [32]) ++ _
  rw [jl_succ l j hj h, List.append_assoc]
  rfl

/-- What TermText tells. -/
def txL (l : List Cc) : Option ByteArray := if goodT l = true ∧ (jb l l.length).size ≤ 2000 then some (jb l l.length) else none
def txV : Option ByteArray → Value
  | none => .tuple #[.string ⟨#[]⟩, .bool false]
  | some s => .tuple #[.string s, .bool true]

set_option maxRecDepth 20000 in
set_option maxHeartbeats 2000000 in
theorem specText_term (ad : Option Addr) (c : Nat) (l : List Cc) (w : World) (hl : l.length ≤ 1048576) (h : CRow w ad l) :
    Calls Tryd.prog 12 #[.slice ad l.length c] w fun e w' => e = .returned (txV (txL l)) ∧ Below w.heap.size w w' := by
  have HR := hide h
  have HG := hide (specGoodT_any ad c l w hl h)
  clear h
  by_cases hg : goodT l = true
  · obtain ⟨h6, hpos, hall⟩ := goodT_all hg
    have hjl := jl_len l hall
    have HA := hide hall
    have HJ := hide hjl
    rw [hg] at HG
    have hx0 : txL l = if (jb l l.length).size ≤ 2000 then some (jb l l.length) else none := by unfold txL; simp [hg]
    obtain ⟨R, hR⟩ : ∃ R, R = txL l := ⟨_, rfl⟩
    rw [← hR] at hx0 ⊢
    have HX := hide hx0
    clear hall hjl hx0 hR hg
    go_enter Tryd.func12, Tryd.ntmps12
    go_wp2_with fail
    refine HG.out.mono ?_
    rintro e w1 ⟨rfl, hb1⟩
    go_wp2_with fail
    go_loopw [4, 12] (fun s i w' => ∃ (j : Nat) (u : ByteArray), j ≤ l.length ∧ s = .string u ∧ i = .int .i64 j ∧ Hid (u = jb l j) ∧ Below w.heap.size w w') (fun _ i _ => l.length - (intOf i).toNat)
    case atStart => exact ⟨0, _, by omega, rfl, rfl, hide rfl, hb1⟩
    case round =>
      obtain ⟨j, u, hj, rfl, rfl, HU, hB⟩ := hrel
      have hu : u.size ≤ 7200 := by have := HJ.out j hj; rw [HU.out, jb_size]; omega
      by_cases hlt : j < l.length
      · have hlt' : (j : Int) < (l.length : Int) := by omega
        obtain ⟨b, o, rfl, hb, p0, p1⟩ := HR.out.tok hB hlt
        have hgx := HA.out _ (List.getElem_mem hlt)
        have HC := hide (fun w => l3Word_any l[j] w hgx)
        have hy := wd_len hgx
        by_cases h0 : j = 0
        · have HS : Hid (jb l (j + 1) = u ++ wd l[j]) := hide (by subst h0; rw [HU.out]; exact jb_1 l hlt)
          obtain ⟨x, hx⟩ : ∃ x, x = l[j] := ⟨_, rfl⟩
          rw [← hx] at p0 p1 HC hy HS
          obtain ⟨y, hyy⟩ : ∃ y, y = wd x := ⟨_, rfl⟩
          rw [← hyy] at HC hy HS
          have h0' : ¬ (0 : Int) < (j : Int) := by omega
          clear hx hyy hgx HU h0
          go_wp2_with (go_at_call 25; refine (HC.out _).mono ?_; rintro e w2 ⟨rfl, hb2⟩)
          have hB2 : Below w.heap.size w w2 := (hB.alloc hB.size _).trans (hb2.mono (by have := hB.size; simp; omega))
          exact ⟨⟨j + 1, _, by omega, rfl, by go_num, hide HS.out.symm, hB2⟩, by simp [intOf]; omega⟩
        · have HS : Hid (jb l (j + 1) = u ++ ⟨#[32]⟩ ++ wd l[j]) := hide (by rw [HU.out]; exact jb_succ l j (by omega) hlt)
          obtain ⟨x, hx⟩ : ∃ x, x = l[j] := ⟨_, rfl⟩
          rw [← hx] at p0 p1 HC hy HS
          obtain ⟨y, hyy⟩ : ∃ y, y = wd x := ⟨_, rfl⟩
          rw [← hyy] at HC hy HS
          have h0' : (0 : Int) < (j : Int) := by omega
          clear hx hyy hgx HU h0
          go_wp2_with (go_at_call 25; refine (HC.out _).mono ?_; rintro e w2 ⟨rfl, hb2⟩)
          have hB2 : Below w.heap.size w w2 := (hB.alloc hB.size _).trans (hb2.mono (by have := hB.size; simp; omega))
          exact ⟨⟨j + 1, _, by omega, rfl, by go_num, hide HS.out.symm, hB2⟩, by simp [intOf]; omega⟩
      · obtain rfl : j = l.length := by omega
        by_cases hz : u.size ≤ 2000
        · have hz' : ¬ (2000 : Int) < (u.size : Int) := by omega
          have hx : R = some u := by rw [HX.out, ← HU.out, if_pos hz]
          have HX' := hide hx
          clear hx HX
          go_wp2_with fail
          exact bodyPost_ret (v := .tuple #[.string u, .bool true]) (by simp [results, Tryd.results12, go_sem]) rfl ⟨by rw [HX'.out]; rfl, hB⟩
        · have hz' : (2000 : Int) < (u.size : Int) := by omega
          have hx : R = none := by rw [HX.out, ← HU.out, if_neg hz]
          have HX' := hide hx
          clear hx HX
          go_wp2_with fail
          exact bodyPost_ret (v := .tuple #[.string ⟨#[]⟩, .bool false]) (by simp [results, Tryd.results12, go_sem]) rfl ⟨by rw [HX'.out]; rfl, hB⟩
  · rw [Bool.not_eq_true] at hg
    rw [hg] at HG
    have hx : txL l = none := by unfold txL; rw [if_neg (by rw [hg]; simp)]
    rw [hx]
    clear hx hg
    go_enter Tryd.func12, Tryd.ntmps12
    go_wp2_with fail
    refine HG.out.mono ?_
    rintro e w1 ⟨rfl, hb1⟩
    go_wp2_with fail
    exact bodyPost_ret (v := .tuple #[.string ⟨#[]⟩, .bool false]) (by simp [results, Tryd.results12, go_sem]) rfl ⟨rfl, hb1⟩

/-- The first j texts of a block that is being filled. -/
def SFilled (cur : Array Value) (l : List Cc) (j : Nat) : Prop :=
  cur.size = l.length ∧ ∀ i (h : i < l.length), i < j → cur[i]? = some (.string (wd l[i]))
theorem SFilled.step {cur : Array Value} {l : List Cc} {j : Nat} (h : SFilled cur l j) (hj : j < l.length) :
    SFilled (cur.setIfInBounds j (.string (wd l[j]))) l (j + 1) := by
  have hs := h.1
  refine ⟨by simp [hs], fun i hi hij => ?_⟩
  simp only [Array.getElem?_setIfInBounds]
  by_cases e : i = j
  · subst e
    rw [if_pos rfl, if_pos (by omega)]
  · rw [if_neg (by omega)]
    exact h.2 i hi (by omega)
theorem infoSt : (Tryd.prog.info? 9).map (fun i => (i.zero, i.size, i.bytes)) = some (some (.string ⟨#[]⟩), 1, 16) := by kernel_rfl
theorem mk_strs (n : Nat) (hn : n ≤ 1048576) (w : World) :
    (Instr.makeSlice 34 (.int .i64 (n : Int)) (.int .i64 (n : Int))).run Tryd.prog w = .ok (.slice (some ⟨w.heap.size, 0, none⟩) n n) (w.alloc (.cells (madeCells #[.string ⟨#[]⟩] n) 9)) := by
  obtain ⟨i, hi, hzz⟩ := Option.map_eq_some_iff.1 infoSt
  simp only [Prod.mk.injEq] at hzz
  obtain ⟨hz, hs, hb⟩ := hzz
  have := run_make (P := Tryd.prog) w 34 9 i _ Tryd.underlying34 hi hz .i64 .i64 n n (by omega) (Int.le_refl _) (by rw [hb]; omega) (by omega)
  rw [hs, show (Value.string ⟨#[]⟩).cells = #[.string ⟨#[]⟩] from by simp [Value.cells]] at this
  simpa using this
theorem join_jl (l : List Cc) : Lib.join ((l.map wd).map (·.data.toList)) [32] = jl l l.length := by
  unfold jl
  rw [List.take_length, List.map_map]
  rfl

set_option maxRecDepth 20000 in
set_option maxHeartbeats 2000000 in
theorem implText_term (ad : Option Addr) (c : Nat) (l : List Cc) (w : World) (hl : l.length ≤ 1048576) (h : CRow w ad l) (ht : Tab w) :
    Calls Tryd.prog 11 #[.slice ad l.length c] w fun e w' => e = .returned (txV (txL l)) ∧ Below w.heap.size w w' := by
  have HR := hide h
  have HT := hide ht
  have HG := hide (implGoodT_any ad c l w hl h)
  clear h ht
  by_cases hg : goodT l = true
  · obtain ⟨h6, hpos, hall⟩ := goodT_all hg
    have hjl := jl_len l hall l.length (Nat.le_refl _)
    have HA := hide hall
    have HJ := hide hjl
    rw [hg] at HG
    have hx0 : txL l = if (jb l l.length).size ≤ 2000 then some (jb l l.length) else none := by unfold txL; simp [hg]
    obtain ⟨R, hR⟩ : ∃ R, R = txL l := ⟨_, rfl⟩
    rw [← hR] at hx0 ⊢
    have HX := hide hx0
    clear hall hjl hx0 hR hg
    have hmk := mk_strs l.length hl
    go_enter Tryd.func11, Tryd.ntmps11
    go_wp2_with fail
    refine HG.out.mono ?_
    rintro e w1 ⟨rfl, hb1⟩
    go_wp2_with fail
    have hs1 : w.heap.size ≤ w1.heap.size := hb1.size
    go_loopw [16] (fun i w' => ∃ (j : Nat) (cur : Array Value), j ≤ l.length ∧ i = .int .i64 j ∧ w'.heap[w1.heap.size]? = some (.cells cur 9 (0, 0)) ∧ SFilled cur l j ∧ Below w.heap.size w w') (fun i _ => l.length - (intOf i).toNat)
    case atStart =>
      clear hmk
      exact ⟨0, _, by omega, rfl, heap_alloc_new w1 _, ⟨by simp [madeCells], by intros; omega⟩, hb1.alloc hs1 _⟩
    case round =>
      clear hmk
      obtain ⟨j, cur, hj, rfl, hh, hF, hB⟩ := hrel
      have HF := hide hF
      have HH := hide hh
      have hw1 : w1.heap.size < wr.heap.size := (Array.getElem?_eq_some_iff.1 hh).1
      clear hF hh
      by_cases hlt : j < l.length
      · have hlt' : (j : Int) < (l.length : Int) := by omega
        have hj0 : (0 : Int) ≤ (j : Int) := by omega
        obtain ⟨b, o, rfl, hb, p0, p1⟩ := HR.out.tok hB hlt
        have hgx := HA.out _ (List.getElem_mem hlt)
        have HC := hide (fun w (ht : Tab w) => cellText_any l[j] w hgx ht)
        have HFS := hide (HF.out.step hlt)
        obtain ⟨x, hx⟩ : ∃ x, x = l[j] := ⟨_, rfl⟩
        rw [← hx] at p0 p1 HC HFS
        obtain ⟨y, hyy⟩ : ∃ y, y = wd x := ⟨_, rfl⟩
        rw [← hyy] at HC HFS
        clear hx hyy hgx
        go_wp2_with fail
        refine (HC.out _ (HT.out.below (hB.alloc hB.size _))).mono ?_
        rintro e w2 ⟨rfl, hb2⟩
        have hB2 : Below w.heap.size w w2 := (hB.alloc hB.size _).trans (hb2.mono (by have := hB.size; simp; omega))
        have hh2 : w2.heap[w1.heap.size]? = some (.cells cur 9 (0, 0)) := by
          rw [hb2.block _ (by simp; omega), ← HH.out]
          exact ((Below.refl wr.heap.size wr).alloc (Nat.le_refl _) _).block _ hw1
        have fz : ∀ i, w2.frozen? ⟨w1.heap.size, i, none⟩ = false := fun i => unfrozen_of_blk hh2 i
        obtain ⟨y0, hy0⟩ : ∃ x, w2.cell? ⟨w1.heap.size, j, none⟩ = some x := by
          rw [cell_of_blk hh2, Array.getElem?_eq_getElem (by have := HF.out.1; omega)]; exact ⟨_, rfl⟩
        have HH2 := hide hh2
        clear hh2 hb2 p0 p1
        go_wp2_with fail
        have hk := blk_setCell (i := j) HH2.out (.string y)
        exact ⟨⟨j + 1, _, by omega, by go_num, hk, HFS.out, hB2.setCell (p := ⟨w1.heap.size, j, none⟩) hs1 _⟩, by simp [intOf]; omega⟩
      · obtain rfl : j = l.length := by omega
        have HJn : Hid (∀ w' : World, Below wr.heap.size wr w' → wr.heap.size = w'.heap.size → Calls Tryd.prog 24 #[.slice (some ⟨w1.heap.size, 0, none⟩) l.length l.length, .string ⟨#[32]⟩] w' fun e w'' => e = .returned (.string (jb l l.length)) ∧ Below w'.heap.size w' w'') := hide (fun w' hb' he => by
          have := Tryd.strings_Join w1.heap.size 0 l.length (l.map wd) ⟨#[32]⟩ w' (fun i x hx => by
            rw [List.getElem?_map] at hx
            obtain ⟨z, hz, rfl⟩ := Option.map_eq_some_iff.1 hx
            obtain ⟨hi, rfl⟩ := List.getElem?_eq_some_iff.1 hz
            rw [cell_of_blk ((hb'.block _ hw1).trans HH.out), Nat.zero_add]
            exact HF.out.2 i hi hi) (by omega) (by simp; omega) (by simp) (by rw [show (⟨#[32]⟩ : ByteArray).data.toList = [32] from rfl, join_jl]; have := HJ.out; omega)
          rw [List.length_map, show (⟨#[32]⟩ : ByteArray).data.toList = [32] from rfl, join_jl] at this
          exact this)
        obtain ⟨u, hu⟩ : ∃ u, u = jb l l.length := ⟨_, rfl⟩
        rw [← hu] at HJn HX
        clear hu
        by_cases hz : u.size ≤ 2000
        · have hz' : ¬ (2000 : Int) < (u.size : Int) := by omega
          have hx : R = some u := by rw [HX.out, if_pos hz]
          have HX' := hide hx
          clear hx HX
          go_wp2_with fail
          refine (HJn.out _ (Below.refl _ _) rfl).mono ?_
          rintro e w2 ⟨rfl, hb2⟩
          go_wp2_with fail
          exact bodyPost_ret (v := .tuple #[.string u, .bool true]) (by simp [results, Tryd.results11, go_sem]) rfl ⟨by rw [HX'.out]; rfl, hB.trans (hb2.mono hB.size)⟩
        · have hz' : (2000 : Int) < (u.size : Int) := by omega
          have hx : R = none := by rw [HX.out, if_neg hz]
          have HX' := hide hx
          clear hx HX
          go_wp2_with fail
          refine (HJn.out _ (Below.refl _ _) rfl).mono ?_
          rintro e w2 ⟨rfl, hb2⟩
          go_wp2_with fail
          exact bodyPost_ret (v := .tuple #[.string ⟨#[]⟩, .bool false]) (by simp [results, Tryd.results11, go_sem]) rfl ⟨by rw [HX'.out]; rfl, hB.trans (hb2.mono hB.size)⟩
  · rw [Bool.not_eq_true] at hg
    rw [hg] at HG
    have hx : txL l = none := by unfold txL; rw [if_neg (by rw [hg]; simp)]
    rw [hx]
    clear hx hg
    go_enter Tryd.func11, Tryd.ntmps11
    go_wp2_with fail
    refine HG.out.mono ?_
    rintro e w1 ⟨rfl, hb1⟩
    go_wp2_with fail
    exact bodyPost_ret (v := .tuple #[.string ⟨#[]⟩, .bool false]) (by simp [results, Tryd.results11, go_sem]) rfl ⟨rfl, hb1⟩
end Go.Proofs.YthnkdlhkldcaoaaDoor.W

/-
  The program's tellParts with placesBy and with valueBy: contracts. Conditions: good trees.
-/
import Derived.Test.YtiphcjbmoekkkaaPlW
import Derived.Test.YtiphcjbmoekkkaaPlT
import Derived.Maps.AppendAt
namespace Go.Proofs.Ytiphcjbmoekkkaa.L
open Go.Proofs.Ytiphcjbmoekkkaa.W
open Go.ChangeShapes Go.WideShapes Go.ChangeAt Go.RowKit Go.Shelf
set_option linter.unusedVariables false
set_option linter.unusedSimpArgs false
attribute [local go_sem] Oper.semAt_some

theorem backL (l : List Cc) : BackL (fun x : Fin l.length => x.1) (fun x => (l[x.1]).k) (fun x => (l[x.1]).n) (List.finRange l.length).reverse l := by
  refine ⟨fun k h => ⟨⟨k, h⟩, rfl, rfl, rfl, ?_⟩, List.take_of_length_le (by simp)⟩
  have e : l.length - k = (l.length - (k + 1)) + 1 := by omega
  have hlt : l.length - (k + 1) < (List.finRange l.length).reverse.length := by simp; omega
  rw [e, List.take_add_one, List.getElem?_eq_getElem hlt]
  have : (List.finRange l.length).reverse[l.length - (k + 1)] = ⟨k, h⟩ := by
    rw [List.getElem_reverse]
    simp only [List.length_finRange, List.getElem_finRange]
    apply Fin.ext
    simp only [Fin.val_cast]
    omega
  rw [this]
  rfl
/-- What has come ahead of a place holds all places behind it. -/
theorem backL_pre {n : Nat} {pre : List (Fin n)} {x : Fin n} (h : pre ++ [x] <+: (List.finRange n).reverse) (k : Nat) (hk : x.1 < k) (hkn : k < n) : (⟨k, hkn⟩ : Fin n) ∈ pre := by
  obtain ⟨t, ht⟩ := h
  have hlen : pre.length + 1 + t.length = n := by have := congrArg List.length ht; simp at this; omega
  have hx : (List.finRange n).reverse[pre.length]? = some x := by rw [← ht]; simp
  have hpl : pre.length < (List.finRange n).reverse.length := by simp; omega
  rw [List.getElem?_eq_getElem hpl, List.getElem_reverse] at hx
  simp only [List.length_finRange, List.getElem_finRange, Option.some.injEq] at hx
  have hxv : x.1 = n - 1 - pre.length := by rw [← hx]; simp
  have hj : n - 1 - k < pre.length := by omega
  have hjl : n - 1 - k < (List.finRange n).reverse.length := by simp; omega
  have h1 : pre[n - 1 - k]? = (List.finRange n).reverse[n - 1 - k]? := by rw [← ht, List.append_assoc, List.getElem?_append_left hj]
  rw [List.getElem?_eq_getElem hj, List.getElem?_eq_getElem hjl, List.getElem_reverse] at h1
  simp only [List.length_finRange, List.getElem_finRange, Option.some.injEq] at h1
  have h2 : pre[n - 1 - k] = ⟨k, hkn⟩ := by
    rw [h1]; apply Fin.ext; simp; omega
  rw [← h2]
  exact List.getElem_mem hj

def Tr.pv (t : Tr) : Int := t.plc
def gP (o a b : Int) : Int := if a = b then a + 1 else if a < b then b else a
theorem gP_pv (o : Int) (a b : Tr) : gP o a.pv b.pv = (Tr.op o a b).pv := by
  show gP o (a.plc : Int) (b.plc : Int) = ((plN a.plc b.plc : Nat) : Int)
  obtain ⟨x, hx⟩ : ∃ x, x = a.plc := ⟨_, rfl⟩
  obtain ⟨y, hy⟩ : ∃ y, y = b.plc := ⟨_, rfl⟩
  rw [← hx, ← hy]
  unfold gP plN
  by_cases h : x = y
  · rw [if_pos h, if_pos (by omega)]; omega
  · rw [if_neg h, if_neg (by omega)]
    by_cases h2 : x < y
    · rw [if_pos h2, if_pos (by omega)]
    · rw [if_neg h2, if_neg (by omega)]
theorem gV_val (o : Int) (a b : Tr) : doV o a.val b.val = (Tr.op o a b).val := rfl
def bdP (k : Nat) : Int := k
def bdV (k : Nat) : Int := 1000002

set_option maxHeartbeats 1000000 in
theorem placesBy_leaf (n : Int) (w : World) : Calls Try.prog 40 #[.agg #[.int .i64 1, .int .i64 n], .int .i64 0, .int .i64 0] w fun e w' => e = .returned (.int .i64 (Tr.ld n).pv) ∧ Below w.heap.size w w' := by
  go_enter Try.func40, Try.ntmps40
  go_wp2_with fail
  go_ret
  exact ⟨rfl, (Below.refl _ _).alloc (Nat.le_refl _) _⟩
set_option maxHeartbeats 1000000 in
theorem placesBy_two (o n a b : Int) (w : World) (ho : o ≠ 1) (ha : 0 ≤ a ∧ a ≤ 1048576) (hb : 0 ≤ b ∧ b ≤ 1048576) : Calls Try.prog 40 #[.agg #[.int .i64 o, .int .i64 n], .int .i64 a, .int .i64 b] w fun e w' => e = .returned (.int .i64 (gP o a b)) ∧ Below w.heap.size w w' := by
  obtain ⟨ha0, ha1⟩ := ha
  obtain ⟨hb0, hb1⟩ := hb
  by_cases hab : a = b
  · subst hab
    go_enter Try.func40, Try.ntmps40
    go_wp2_with fail
    go_ret
    exact ⟨ret_int (by simp [gP]), (Below.refl _ _).alloc (Nat.le_refl _) _⟩
  · go_enter Try.func40, Try.ntmps40
    go_wp2_with fail
    all_goals
      go_ret
      refine ⟨ret_int ?_, (Below.refl _ _).alloc (Nat.le_refl _) _⟩
      rw [gP, if_neg hab]
      split <;> omega
set_option maxHeartbeats 1000000 in
theorem valueBy_leaf (n : Int) (w : World) : Calls Try.prog 55 #[.agg #[.int .i64 1, .int .i64 n], .int .i64 0, .int .i64 0] w fun e w' => e = .returned (.int .i64 (Tr.ld n).val) ∧ Below w.heap.size w w' := by
  go_enter Try.func55, Try.ntmps55
  go_wp2_with fail
  refine (modulo_any _ _).mono ?_
  rintro e w' ⟨rfl, rfl⟩
  go_wp2_with fail
  go_ret
  exact ⟨rfl, (Below.refl _ _).alloc (Nat.le_refl _) _⟩
set_option maxHeartbeats 1000000 in
theorem valueBy_two (o n a b : Int) (w : World) (ho : o ≠ 1) (ha : 0 ≤ a ∧ a ≤ 1000002) (hb : 0 ≤ b ∧ b ≤ 1000002) : Calls Try.prog 55 #[.agg #[.int .i64 o, .int .i64 n], .int .i64 a, .int .i64 b] w fun e w' => e = .returned (.int .i64 (doV o a b)) ∧ Below w.heap.size w w' := by
  have HC := hide (fun w => comesTo_any o a b w (by omega) (by omega))
  go_enter Try.func55, Try.ntmps55
  go_wp2_with fail
  refine (HC.out _).mono ?_
  rintro e w' ⟨rfl, rfl⟩
  go_wp2_with fail
  go_ret
  exact ⟨rfl, (Below.refl _ _).alloc (Nat.le_refl _) _⟩
theorem gP_bd (k : Nat) (o a b : Int) (ha : 0 ≤ a ∧ a ≤ bdP k) (hb : 0 ≤ b ∧ b ≤ bdP k) : 0 ≤ gP o a b ∧ gP o a b ≤ bdP (k + 1) := by
  unfold bdP gP at *
  split
  · omega
  · split <;> omega
theorem gV_bd (k : Nat) (o a b : Int) (ha : 0 ≤ a ∧ a ≤ bdV k) (hb : 0 ≤ b ∧ b ≤ bdV k) : 0 ≤ doV o a b ∧ doV o a b ≤ bdV (k + 1) := by
  have := doV_in o a b
  unfold bdV; omega
theorem lP_bd (k : Nat) (n : Int) : 0 ≤ (Tr.ld n).pv ∧ (Tr.ld n).pv ≤ bdP (k + 1) := by
  unfold bdP; show 0 ≤ (1 : Int) ∧ (1 : Int) ≤ _; omega
theorem lV_bd (k : Nat) (n : Int) : 0 ≤ (Tr.ld n).val ∧ (Tr.ld n).val ≤ bdV (k + 1) := by
  have := nrm_in n
  show 0 ≤ nrm n ∧ nrm n ≤ 1000002; omega
theorem infoI : (Try.prog.info? 3).map (fun i => (i.zero, i.size, i.bytes)) = some (some (.int .i64 0), 1, 8) := by kernel_rfl
theorem mk_ints (n : Nat) (hn : n ≤ 1048576) (w : World) :
    (Instr.makeSlice 64 (.int .i64 (n : Int)) (.int .i64 (n : Int))).run Try.prog w = .ok (.slice (some ⟨w.heap.size, 0, none⟩) n n) (w.alloc (.cells (madeCells #[.int .i64 0] (n * 1)) 3)) := by
  obtain ⟨i, hi, hzz⟩ := Option.map_eq_some_iff.1 infoI
  simp only [Prod.mk.injEq] at hzz
  obtain ⟨hz, hs, hb⟩ := hzz
  have := run_make (P := Try.prog) w 64 3 i _ Try.underlying64 hi hz .i64 .i64 n n (by omega) (Int.le_refl _) (by rw [hb]; omega) (by omega)
  rw [hs, show (Value.int .i64 0).cells = #[.int .i64 0] from by simp [Value.cells]] at this
  simpa using this
theorem blk_cells {W W' : World} {B : Nat} {cur : Array Value} {t : TypeId} {q : Nat × Nat} {row : Option Nat} (h : W.heap[B]? = some (.cells cur t q)) (hg : W.grownBy W' row) (hr : ∀ r, row = some r → ∃ o : Obj, W.heap[r]? = some o ∧ o.isCells = false) : W'.heap[B]? = some (.cells cur t q) :=
  (hg.block B (Array.getElem?_eq_some_iff.1 h).1 (fun e => by
    obtain ⟨o, ho, hc⟩ := hr B e.symm
    rw [h] at ho; cases ho; cases hc)).trans h
/-- What is told so far: numbers in bounds; where what has come is what comes first, at each place what its tree comes to. -/
def Told (W : World) (B : Nat) (l : List Cc) (vt : Tr → Int) (bd : Int) (pre : List (Fin l.length)) : Prop :=
  ∃ cur : Array Value, W.heap[B]? = some (.cells cur 3 (0, 0)) ∧ cur.size = l.length ∧ (∀ i, i < l.length → ∃ z : Int, cur[i]? = some (.int .i64 z) ∧ 0 ≤ z ∧ z ≤ bd) ∧
    (pre <+: (List.finRange l.length).reverse → ∀ x ∈ pre, ∀ s, Sub l x.1 s → cur[x.1]? = some (.int .i64 (vt s)))
theorem Told.cells {W W' : World} {B : Nat} {l : List Cc} {vt : Tr → Int} {bd : Int} {pre : List (Fin l.length)} {row : Option Nat} (h : Told W B l vt bd pre) (hg : W.grownBy W' row) (hr : ∀ r, row = some r → ∃ o : Obj, W.heap[r]? = some o ∧ o.isCells = false) : Told W' B l vt bd pre := by
  obtain ⟨cur, h1, h2⟩ := h
  exact ⟨cur, blk_cells h1 hg hr, h2⟩
theorem Told.at {W W' : World} {B : Nat} {l : List Cc} {vt : Tr → Int} {bd : Int} {pre : List (Fin l.length)} (h : Told W B l vt bd pre) (hb : W'.heap[B]? = W.heap[B]?) : Told W' B l vt bd pre := by
  obtain ⟨cur, h1, h2⟩ := h
  exact ⟨cur, hb.trans h1, h2⟩
theorem prefix_init {α : Type} {a : List α} {x : α} {l : List α} (h : a ++ [x] <+: l) : a <+: l := (List.prefix_append a [x]).trans h
/-- One more is told. -/
theorem Told.step {W W' : World} {B : Nat} {l : List Cc} {vt : Tr → Int} {bd bd' : Int} {pre : List (Fin l.length)} {x : Fin l.length} {v : Int} (h : Told W B l vt bd pre) (hW : ∀ cur, W.heap[B]? = some (.cells cur 3 (0, 0)) → W'.heap[B]? = some (.cells (cur.setIfInBounds x.1 (.int .i64 v)) 3 (0, 0)))
    (hbd : bd ≤ bd') (hv : 0 ≤ v ∧ v ≤ bd') (hs : pre ++ [x] <+: (List.finRange l.length).reverse → ∀ s, Sub l x.1 s → v = vt s) : Told W' B l vt bd' (pre ++ [x]) := by
  obtain ⟨cur, h1, h2, h3, h4⟩ := h
  refine ⟨_, hW cur h1, by simp [h2], fun i hi => ?_, fun hp y hy s hsub => ?_⟩
  · rw [Array.getElem?_setIfInBounds]
    by_cases e : x.1 = i
    · rw [if_pos e, if_pos (by omega)]; exact ⟨v, rfl, hv⟩
    · rw [if_neg e]
      obtain ⟨z, z1, z2, z3⟩ := h3 i hi
      exact ⟨z, z1, z2, by omega⟩
  · rw [Array.getElem?_setIfInBounds]
    by_cases e : x.1 = y.1
    · have := x.2
      rw [if_pos e, if_pos (by omega), hs hp s (by rw [e]; exact hsub)]
    · rw [if_neg e]
      rcases List.mem_append.1 hy with hy | hy
      · exact h4 (prefix_init hp) y hy s hsub
      · simp at hy; exact absurd (by rw [hy]) e

set_option maxRecDepth 100000 in
set_option maxHeartbeats 4000000 in
theorem placesBy_told (b o c : Nat) (l : List Cc) (t : Tr) (w : World) (hok : t.ok) (hlt : l = t.flat) (h40 : l.length ≤ 40) (hc : l.length ≤ c) (hrow : CRowAt w b o l) :
    Calls Try.prog 39 #[.slice (some ⟨b, o, none⟩) l.length c, .func (.func 40) #[] #[]] w fun e w' => ∃ g, e = .returned (.slice (some ⟨g, 0, none⟩) l.length l.length) ∧ g < w'.heap.size ∧ (∀ i s, Sub l i s → w'.cell? ⟨g, i, none⟩ = some (.int .i64 (Tr.pv s))) ∧ Below w.heap.size w w' := by
  have hmk := mk_ints l.length (by omega)
  have HSub : Hid (∀ i, i < l.length → ∃ s, Sub l i s) := hide (fun i hi => by
    rw [hlt] at hi ⊢
    obtain ⟨s, r, h1, h2⟩ := Tr.at_ hok hi
    exact ⟨s, h1, r, h2⟩)
  have HPu := hide (fun (w' : World) (hb : Below w.heap.size w w') i k1 a b' hs => partsUnder_any (some ⟨b, o, none⟩) c l i k1 a b' w' (by omega) hc (.inr ⟨b, o, rfl, ⟨Nat.lt_of_lt_of_le hrow.1 hb.size, fun i hi => ⟨(hb.cell (p := ⟨b, o + i * 2, none⟩) hrow.1).trans (hrow.2 i hi).1, (hb.cell (p := ⟨b, o + i * 2 + 1, none⟩) hrow.1).trans (hrow.2 i hi).2⟩⟩⟩) hs)
  have HRow := hide hrow
  have hbw := hrow.1
  clear hlt
  refine (callsIn_wide (n := 6)).1 ?_
  refine callsIn_of_wp_marks Try.func39 rfl trivial ?_ rfl
  simp only [Try.ntmps39, List.size_toArray, List.length_cons, List.length_nil, Nat.reduceAdd, Nat.reduceSub, Array.replicate_succ, Array.replicate_zero, List.push_toArray, List.append_toArray, List.nil_append, List.cons_append]
  gi_wp2_with (refine ⟨trivial, ?_⟩; gi_at_call 58; refine (callsIn_wide.2 (back_any _ _ _ _)).mono ?_; rintro e w' ⟨rfl, rfl⟩)
  obtain ⟨W0, hW0⟩ : ∃ W0, W0 = ((((w.alloc (.cells #[.slice (some ⟨b, o, none⟩) l.length c] 25)).alloc (.cells #[.func (.func 40) #[] #[]] 66)).alloc (.cells (madeCells #[Value.int .i64 0] l.length) 3)).alloc (.cells #[.slice (some ⟨w.heap.size + 1 + 1, 0, none⟩) l.length l.length] 64)).alloc (.cells #[.slice (some ⟨b, o, none⟩) l.length c] 25) := ⟨_, rfl⟩
  have hs0 : W0.heap.size = w.heap.size + 1 + 1 + 1 + 1 + 1 := by rw [hW0]; simp
  have hB0 : Below w.heap.size w W0 := by rw [hW0]; exact (((((Below.refl _ w).alloc (Nat.le_refl _) _).alloc (by simp) _).alloc (by simp; omega) _).alloc (by simp; omega) _).alloc (by simp; omega) _
  have v0 : Boxed W0 w.heap.size 25 (.slice (some ⟨b, o, none⟩) l.length c) := by rw [hW0]; exact ((((Boxed.new w _ _).alloc _).alloc _).alloc _).alloc _
  have v1 : Boxed W0 (w.heap.size + 1) 66 (.func (.func 40) #[] #[]) := by rw [hW0]; have := ((((Boxed.new (w.alloc (.cells #[.slice (some ⟨b, o, none⟩) l.length c] 25)) 66 (.func (.func 40) #[] #[])).alloc (.cells (madeCells #[Value.int .i64 0] l.length) 3)).alloc (.cells #[.slice (some ⟨w.heap.size + 1 + 1, 0, none⟩) l.length l.length] 64)).alloc (.cells #[.slice (some ⟨b, o, none⟩) l.length c] 25)); simpa using this
  have v2 : W0.heap[w.heap.size + 1 + 1]? = some (.cells (madeCells #[Value.int .i64 0] l.length) 3 (0, 0)) := by
    rw [hW0, heap_alloc_old _ _ (by simp), heap_alloc_old _ _ (by simp)]
    have := heap_alloc_new ((w.alloc (.cells #[.slice (some ⟨b, o, none⟩) l.length c] 25)).alloc (.cells #[.func (.func 40) #[] #[]] 66)) (.cells (madeCells #[Value.int .i64 0] l.length) 3)
    simpa using this
  have v3 : Boxed W0 (w.heap.size + 1 + 1 + 1) 64 (.slice (some ⟨w.heap.size + 1 + 1, 0, none⟩) l.length l.length) := by rw [hW0]; have := ((Boxed.new (((w.alloc (.cells #[.slice (some ⟨b, o, none⟩) l.length c] 25)).alloc (.cells #[.func (.func 40) #[] #[]] 66)).alloc (.cells (madeCells #[Value.int .i64 0] l.length) 3)) 64 (.slice (some ⟨w.heap.size + 1 + 1, 0, none⟩) l.length l.length)).alloc (.cells #[.slice (some ⟨b, o, none⟩) l.length c] 25)); simpa using this
  have v4 : Boxed W0 (w.heap.size + 1 + 1 + 1 + 1) 25 (.slice (some ⟨b, o, none⟩) l.length c) := by rw [hW0]; have := Boxed.new ((((w.alloc (.cells #[.slice (some ⟨b, o, none⟩) l.length c] 25)).alloc (.cells #[.func (.func 40) #[] #[]] 66)).alloc (.cells (madeCells #[Value.int .i64 0] l.length) 3)).alloc (.cells #[.slice (some ⟨w.heap.size + 1 + 1, 0, none⟩) l.length l.length] 64)) 25 (.slice (some ⟨b, o, none⟩) l.length c); simpa using this
  have vT : Told W0 (w.heap.size + 1 + 1) l Tr.pv (bdP 0) [] := ⟨_, v2, by simp [madeCells], fun i hi => ⟨0, by simp [madeCells, hi, Nat.mod_one], Int.le_refl _, by unfold bdP; omega⟩, fun _ x hx => by simp at hx⟩
  rw [← hW0]
  clear hW0 v2 hmk
  refine wpIn_rangeFunc_ownH rfl (by omega) (gf := 63) (lb := #[.pointer (some ⟨w.heap.size + 1 + 1 + 1 + 1, 0, none⟩)]) rfl trivial (enters_of Try.func63 (by kernel_rfl) rfl)
    (back_stopsAt (fun x : Fin l.length => x.1) (fun x => (l[x.1]).k) (fun x => (l[x.1]).n) (List.finRange l.length).reverse 5 (by omega) (w.heap.size + 1 + 1 + 1 + 1) w.heap.size b o c l (by omega) (backL l) W0 hbw v4.lt hB0.size v4.cell ⟨Nat.lt_of_lt_of_le hbw hB0.size, fun i hi => ⟨(hB0.cell (p := ⟨b, o + i * 2, none⟩) hbw).trans (hrow.2 i hi).1, (hB0.cell (p := ⟨b, o + i * 2 + 1, none⟩) hbw).trans (hrow.2 i hi).2⟩⟩) kpB_t (fun W l' o1 o2 hl' h1 h2 h3 => ⟨belowK_b hB0.size W l' o1 o2 hl' h1 h2 h3, by
      rw [World.putObj_heap_other (by have := v4.lt; omega)]⟩) (Below.refl _ _) (fun _ => rfl)
    (fun pre W => (Boxed W w.heap.size 25 (.slice (some ⟨b, o, none⟩) l.length c) ∧ Boxed W (w.heap.size + 1) 66 (.func (.func 40) #[] #[]) ∧ Boxed W (w.heap.size + 1 + 1 + 1) 64 (.slice (some ⟨w.heap.size + 1 + 1, 0, none⟩) l.length l.length) ∧ Told W (w.heap.size + 1 + 1) l Tr.pv (bdP pre.length) pre ∧ w.heap.size + 1 + 1 + 1 + 1 + 1 ≤ W.heap.size) ∧ Below w.heap.size w W)
    (fun _ _ _ => False)
    (OwnFrom.and (Own.from (fun s A B row hs hg hr => by
      obtain ⟨h0, h1, h2, h3, h4⟩ := hs
      exact ⟨blk_cells h0 hg hr, blk_cells h1 hg hr, blk_cells h2 hg hr, h3.cells hg hr, Nat.le_trans h4 hg.size⟩) _) (ownFrom_below (Nat.le_refl _) hB0.size))
    (fun _ _ _ _ _ hs _ _ => hs)
    ⟨⟨v0, v1, v3, vT, by omega⟩, hB0⟩
    (fun x a' W => ∃ Bx, w.heap.size + 1 + 1 + 1 + 1 < Bx ∧ W.heap[Bx]? = some (.cells #[.int .i64 (l[x.1]).k, .int .i64 (l[x.1]).n] 55 (0, 0)) ∧ a' = { tmps := #[.slice (some ⟨b, o, none⟩) l.length c, .func (.func 40) #[] #[], .pointer (some ⟨w.heap.size, 0, none⟩), .pointer (some ⟨w.heap.size + 1, 0, none⟩), .slice none 0 0, .pointer (some ⟨w.heap.size + 1 + 1 + 1, 0, none⟩), .int .i64 (x.1 : Int), .pointer (some ⟨Bx, 0, none⟩), undef, undef, .slice (some ⟨b, o, none⟩) l.length c, .int .i64 (l.length : Int), .slice (some ⟨w.heap.size + 1 + 1, 0, none⟩) l.length l.length, .slice (some ⟨b, o, none⟩) l.length c, .func (.func 63) #[] #[.pointer (some ⟨w.heap.size + 1 + 1 + 1 + 1, 0, none⟩)], .int .i64 (x.1 : Int), .agg #[.int .i64 (l[x.1]).k, .int .i64 (l[x.1]).n], undef, undef, undef, undef, undef, undef, undef, undef, undef, undef, undef, undef, undef, undef, undef, undef, undef, undef, undef, undef, undef, undef, undef, undef, undef, undef, undef, undef, undef, undef, undef, undef], defers := [] })
    (fun x a' _ X Y row hs hg hr => by obtain ⟨Bx, h1, h2, h3⟩ := hs; exact ⟨Bx, h1, blk_cells h2 hg (fun r e => (hr r e).2), h3⟩)
    ?assign ?body ?done ?stop
  case assign =>
    rintro y pre x W K ⟨⟨b0, b1, b3, bT, hsz⟩, hB⟩ hK
    gi_wp2
    refine hK _ _ ((KeepsOthers.alloc _ _).from _) ⟨(Below.refl _ W).alloc hB.size _, heap_alloc_old _ _ (by omega)⟩ ⟨⟨b0.alloc _, b1.alloc _, b3.alloc _, bT.at (heap_alloc_old _ _ (by omega)), by simp; omega⟩, hB.alloc hB.size _⟩ ⟨W.heap.size, by omega, heap_alloc_new W _, rfl⟩
  case body =>
    rintro y pre x a' W hl' ⟨r, hr⟩ ⟨⟨b0, b1, b3, bT, hsz⟩, hB⟩ ⟨Bx, hBx, bX, rfl⟩ hlt
    obtain ⟨s, hs⟩ := HSub.out x.1 x.2
    have hcell : l[x.1] = s.x := hs.cell x.2
    have hx0 : (0 : Int) ≤ (x.1 : Int) := by omega
    have hxl : (x.1 : Int) < (l.length : Int) := by have := x.2; omega
    have hxl' := x.2
    have c0 := b0.cell
    have c1 := b1.cell
    have c3 := b3.cell
    rw [hcell] at bX ⊢
    have HT := hide bT
    obtain ⟨cur, u1, u2, u3, u4⟩ := bT
    have HU4 := hide u4
    clear u4
    obtain ⟨z, z1, -, -⟩ := u3 x.1 x.2
    have hT1 : w.heap.size + 1 + 1 < W.heap.size := by omega
    have HBW := hide hB
    have d0 := (cell_of_blk bX 0).trans rfl
    have d1 := (cell_of_blk bX 1).trans rfl
    cases s with
    | ld n =>
      simp only [Tr.x] at bX d0 d1 ⊢
      gi_wp2_with fail
      have HAll : Hid (∀ W1 : World, (∀ k, k < W.heap.size → k ≠ w.heap.size + 1 + 1 → W1.heap[k]? = W.heap[k]?) → W1.cell? ⟨w.heap.size + 1, 0, none⟩ = some (.func (.func 40) #[] #[]) ∧ W1.cell? ⟨w.heap.size + 1 + 1 + 1, 0, none⟩ = some (.slice (some ⟨w.heap.size + 1 + 1, 0, none⟩) l.length l.length) ∧ W1.cell? ⟨Bx, 0, none⟩ = some (.int .i64 1) ∧ W1.cell? ⟨Bx, 1, none⟩ = some (.int .i64 n)) := hide (fun W1 h => ⟨(World.cell?_of_block (w := W) (h (w.heap.size + 1) (by omega) (by omega))).trans c1, (World.cell?_of_block (w := W) (h (w.heap.size + 1 + 1 + 1) (by omega) (by omega))).trans c3, (World.cell?_of_block (w := W) (h Bx (Array.getElem?_eq_some_iff.1 bX).1 (by omega))).trans d0, (World.cell?_of_block (w := W) (h Bx (Array.getElem?_eq_some_iff.1 bX).1 (by omega))).trans d1⟩)
      refine wpIn_region_round (S := fun W1 => W1.cell? ⟨w.heap.size + 1, 0, none⟩ = some (.func (.func 40) #[] #[]) ∧ W1.cell? ⟨w.heap.size + 1 + 1 + 1, 0, none⟩ = some (.slice (some ⟨w.heap.size + 1 + 1, 0, none⟩) l.length l.length) ∧ W1.cell? ⟨Bx, 0, none⟩ = some (.int .i64 1) ∧ W1.cell? ⟨Bx, 1, none⟩ = some (.int .i64 n)) (by kernel_rfl) (by kernel_rfl) (by rintro ⟨a1, w1, h1⟩; exact h1) (HAll.out _ (fun _ _ _ => rfl)) (fun hHeld => ?_)
      refine wpAnyH_take (i := 0) (oi := _) (v := ?_) rfl (by kernel_rfl) (by kernel_rfl) (by kernel_rfl) (fun _ _ _ h => h) (Or.inl ⟨by rfl, ?_⟩) (by assumption) ?_
      rotate_left 1
      · (intro w hSw; (try dsimp only at hSw); (first | (go_simp; done) | (go_simp; with_reducible rfl)))
      try simp only [Act.put, List.getElem_toArray, List.getElem_cons_zero, List.getElem_cons_succ, List.setIfInBounds_toArray, List.set_cons_zero, List.set_cons_succ]
      refine wpAnyH_take (i := 1) (oi := _) (v := ?_) rfl (by kernel_rfl) (by kernel_rfl) (by kernel_rfl) (fun _ _ _ h => h) (Or.inl ⟨by rfl, ?_⟩) (by assumption) ?_
      rotate_left 1
      · (intro w hSw; (try dsimp only at hSw); (first | (go_simp; done) | (go_simp; with_reducible rfl)))
      try simp only [Act.put, List.getElem_toArray, List.getElem_cons_zero, List.getElem_cons_succ, List.setIfInBounds_toArray, List.set_cons_zero, List.set_cons_succ]
      refine wpAnyH_take (i := 2) (oi := _) (v := ?_) rfl (by kernel_rfl) (by kernel_rfl) (by kernel_rfl) (fun _ _ _ h => h) (Or.inl ⟨by rfl, ?_⟩) (by assumption) ?_
      rotate_left 1
      · (intro w hSw; (try dsimp only at hSw); (first | (go_simp; done) | (go_simp; with_reducible rfl)))
      try simp only [Act.put, List.getElem_toArray, List.getElem_cons_zero, List.getElem_cons_succ, List.setIfInBounds_toArray, List.set_cons_zero, List.set_cons_succ]
      refine wpAnyH_take (i := 3) (oi := _) (v := ?_) rfl (by kernel_rfl) (by kernel_rfl) (by kernel_rfl) (fun _ _ _ h => h) (Or.inl ⟨by rfl, ?_⟩) (by assumption) ?_
      rotate_left 1
      · (intro w hSw; (try dsimp only at hSw); (first | (go_simp; done) | (go_simp; with_reducible rfl)))
      try simp only [Act.put, List.getElem_toArray, List.getElem_cons_zero, List.getElem_cons_succ, List.setIfInBounds_toArray, List.set_cons_zero, List.set_cons_succ]
      refine wpAnyH_ready (rs := [4]) (by kernel_rfl) (by simp) ?_
      refine AllReadyH.cons (o := _) rfl (fun K hK => ?_) AllReadyH.nil
      go_simp
      (with_reducible refine Calls.mono (placesBy_leaf _ _) ?_)
      rintro r W1 ⟨rfl, hb1⟩
      have hbW : Below W.heap.size W W1 := ⟨hb1.os, hb1.tape, hb1.output, hb1.size, hb1.block⟩
      (try go_wp2_with fail)
      refine hK.out _ _ (HAll.out _ (fun k h1 _ => hbW.block k h1)) (fun hHeld => ?_)
      clear hK K
      try simp only [Act.put, List.getElem_toArray, List.getElem_cons_zero, List.getElem_cons_succ, List.setIfInBounds_toArray, List.set_cons_zero, List.set_cons_succ]
      have e1 := (hbW.block (w.heap.size + 1 + 1) hT1).trans u1
      have t0 := (cell_of_blk e1 x.1).trans z1
      have tf := unfrozen_of_blk e1 x.1
      have E1 := hide e1
      clear e1
      refine wpAnyH_take (i := 5) (oi := _) (v := ?_) rfl (by kernel_rfl) (by kernel_rfl) (by kernel_rfl) (fun _ _ _ h => h) (Or.inl ⟨by rfl, ?_⟩) (by assumption) ?_
      rotate_left 1
      · (intro w hSw; (try dsimp only at hSw); (first | (go_simp; done) | (go_simp; with_reducible rfl)))
      try simp only [Act.put, List.getElem_toArray, List.getElem_cons_zero, List.getElem_cons_succ, List.setIfInBounds_toArray, List.set_cons_zero, List.set_cons_succ]
      refine wpAnyH_ready (rs := [6]) (by kernel_rfl) (by simp) ?_
      refine AllReadyH.cons (o := _) rfl (fun K hK => ?_) AllReadyH.nil
      go_simp
      refine hK.out _ _ (HAll.out _ (fun k h1 h2 => (Below.heap_setCell _ _ _ _ h2).trans (hbW.block k h1))) (fun hHeld => ?_)
      clear hK K
      try simp only [Act.put, List.getElem_toArray, List.getElem_cons_zero, List.getElem_cons_succ, List.setIfInBounds_toArray, List.set_cons_zero, List.set_cons_succ]
      refine wpAnyH_done (by kernel_rfl) ?_ _
      clear hHeld
      have hk : ∀ (v : Value) k, k < W.heap.size → k ≠ w.heap.size + 1 + 1 → (W1.setCell ⟨w.heap.size + 1 + 1, x.1, none⟩ v).heap[k]? = W.heap[k]? := fun v k h1 h2 => (Below.heap_setCell _ _ _ _ h2).trans (hbW.block k h1)
      have hsW := hbW.size
      refine ⟨((KeepsOthers.of_grownBy (grown_of hbW) (fun j o e => by cases e)).trans (KeepsOthers.setCell _ _ _)).from _, ⟨(hbW.mono hB.size).setCell (p := ⟨w.heap.size + 1 + 1, x.1, none⟩) (by simp; omega) _, hk _ _ (by omega) (by omega)⟩, ⟨(hk _ _ (by omega) (by omega)).trans b0, (hk _ _ (by omega) (by omega)).trans b1, (hk _ _ (by omega) (by omega)).trans b3, ?_, by simp [World.setCell]; omega⟩, (hB.trans (hbW.mono hB.size)).setCell (p := ⟨w.heap.size + 1 + 1, x.1, none⟩) (by simp; omega) _⟩
      rw [show (pre ++ [x]).length = pre.length + 1 by simp]
      exact HT.out.step (v := Tr.pv (.ld n)) (fun cur2 e2 => blk_setCell ((hbW.block (w.heap.size + 1 + 1) hT1).trans e2) _) (by unfold bdP; omega) (lP_bd _ _) (fun _ s2 hs2 => by rw [hs2.eq hs])
    | op k1 a2 b2 =>
      simp only [Tr.x] at bX d0 d1 ⊢
      have ho : k1 ≠ 1 := op_ne hs.1.1
      obtain ⟨hka, hkb⟩ := hs.kids
      have hla := hka.lt'
      have hlb := hkb.lt'
      have HCp := hide (HPu.out W hB x.1 k1 a2 b2 hs)
      obtain ⟨J1, hJ1⟩ : ∃ J1, J1 = x.1 + 1 := ⟨_, rfl⟩
      have hpa := a2.flat_pos
      rw [← hJ1] at HCp hka hkb hla hlb
      obtain ⟨J2, hJ2⟩ : ∃ J2, J2 = J1 + a2.flat.length := ⟨_, rfl⟩
      rw [← hJ2] at HCp hkb hlb
      obtain ⟨J3, hJ3⟩ : ∃ J3, J3 = J2 + b2.flat.length := ⟨_, rfl⟩
      rw [← hJ3] at HCp
      obtain ⟨za, za1, za2, za3⟩ := u3 J1 hla
      obtain ⟨zb, zb1, zb2, zb3⟩ := u3 J2 hlb
      have hj1 : (0 : Int) ≤ (J1 : Int) := by omega
      have hj2 : (0 : Int) ≤ (J2 : Int) := by omega
      have hj1l : (J1 : Int) < (l.length : Int) := by omega
      have hj2l : (J2 : Int) < (l.length : Int) := by omega
      have n1 : x.1 ≠ J1 := by omega
      have n2 : x.1 ≠ J2 := by omega
      have HTwo := hide (fun w => placesBy_two k1 0 za zb w ho ⟨za2, by unfold bdP at za3; omega⟩ ⟨zb2, by unfold bdP at zb3; omega⟩)
      have HGB := hide (gP_bd pre.length k1 za zb ⟨za2, za3⟩ ⟨zb2, zb3⟩)
      have HGE : Hid (pre ++ [x] <+: (List.finRange l.length).reverse → gP k1 za zb = Tr.pv (.op k1 a2 b2)) := hide (fun hp => by
        have q1 := HU4.out (prefix_init hp) _ (backL_pre hp J1 (by omega) hla) a2 hka
        have q2 := HU4.out (prefix_init hp) _ (backL_pre hp J2 (by omega) hlb) b2 hkb
        simp only at q1 q2
        rw [za1] at q1
        rw [zb1] at q2
        simp only [Option.some.injEq, Value.int.injEq, true_and] at q1 q2
        rw [q1, q2]
        exact gP_pv _ _ _)
      clear hka hkb hpa hJ1 hJ2 hJ3 za2 za3 zb2 zb3
      gi_wp2_with fail
      refine ⟨trivial, (CallsIn.inRound y (callsIn_wide.2 HCp.out)).mono ?_⟩
      rintro e W2 ⟨rfl, hb2⟩
      have hs2 := hb2.size
      gi_wp2_with fail
      obtain ⟨Wc, hWc⟩ : ∃ Wc, Wc = (W2.alloc (.cells #[.int .i64 (J1 : Int), .int .i64 (J2 : Int)] 60)).alloc (.cells #[.int .i64 (J2 : Int), .int .i64 (J3 : Int)] 60) := ⟨_, rfl⟩
      have hsC : Wc.heap.size = W2.heap.size + 1 + 1 := by rw [hWc]; simp
      have hbC : Below W.heap.size W Wc := by rw [hWc]; exact (hb2.alloc hs2 _).alloc (by simp; omega) _
      have y8 : Wc.heap[W2.heap.size]? = some (.cells #[.int .i64 (J1 : Int), .int .i64 (J2 : Int)] 60 (0, 0)) := by rw [hWc, heap_alloc_old _ _ (by simp)]; exact heap_alloc_new W2 _
      have y9 : Wc.heap[W2.heap.size + 1]? = some (.cells #[.int .i64 (J2 : Int), .int .i64 (J3 : Int)] 60 (0, 0)) := by rw [hWc]; have := heap_alloc_new (W2.alloc (.cells #[.int .i64 (J1 : Int), .int .i64 (J2 : Int)] 60)) (.cells #[.int .i64 (J2 : Int), .int .i64 (J3 : Int)] 60); simpa using this
      rw [← hWc]
      clear hWc hb2
      have w1f := (World.cell?_of_block (a := ⟨w.heap.size + 1, 0, none⟩) (w := W) (hbC.block (w.heap.size + 1) (by omega))).trans c1
      have w3f := (World.cell?_of_block (a := ⟨w.heap.size + 1 + 1 + 1, 0, none⟩) (w := W) (hbC.block (w.heap.size + 1 + 1 + 1) (by omega))).trans c3
      have wx0 := (World.cell?_of_block (a := ⟨Bx, 0, none⟩) (w := W) (hbC.block Bx (Array.getElem?_eq_some_iff.1 bX).1)).trans d0
      have wx1 := (World.cell?_of_block (a := ⟨Bx, 1, none⟩) (w := W) (hbC.block Bx (Array.getElem?_eq_some_iff.1 bX).1)).trans d1
      have hBxl := (Array.getElem?_eq_some_iff.1 bX).1
      have w8 := (cell_of_blk y8 0).trans rfl
      have w9 := (cell_of_blk y9 0).trans rfl
      have e0 := (hbC.block (w.heap.size + 1 + 1) hT1).trans u1
      have wa := (cell_of_blk e0 J1).trans za1
      have wb := (cell_of_blk e0 J2).trans zb1
      have HAll : Hid (∀ W1 : World, (∀ k, k < Wc.heap.size → k ≠ w.heap.size + 1 + 1 → W1.heap[k]? = Wc.heap[k]?) → W1.cell? ⟨w.heap.size + 1 + 1, J1, none⟩ = some (.int .i64 za) → W1.cell? ⟨w.heap.size + 1 + 1, J2, none⟩ = some (.int .i64 zb) → W1.cell? ⟨w.heap.size + 1, 0, none⟩ = some (.func (.func 40) #[] #[]) ∧ W1.cell? ⟨w.heap.size + 1 + 1 + 1, 0, none⟩ = some (.slice (some ⟨w.heap.size + 1 + 1, 0, none⟩) l.length l.length) ∧ W1.cell? ⟨Bx, 0, none⟩ = some (.int .i64 k1) ∧ W1.cell? ⟨Bx, 1, none⟩ = some (.int .i64 0) ∧ W1.cell? ⟨W2.heap.size, 0, none⟩ = some (.int .i64 (J1 : Int)) ∧ W1.cell? ⟨W2.heap.size + 1, 0, none⟩ = some (.int .i64 (J2 : Int)) ∧ W1.cell? ⟨w.heap.size + 1 + 1, J1, none⟩ = some (.int .i64 za) ∧ W1.cell? ⟨w.heap.size + 1 + 1, J2, none⟩ = some (.int .i64 zb)) := hide (fun W1 h g1 g2 => ⟨(World.cell?_of_block (w := Wc) (h (w.heap.size + 1) (by omega) (by omega))).trans w1f, (World.cell?_of_block (w := Wc) (h (w.heap.size + 1 + 1 + 1) (by omega) (by omega))).trans w3f, (World.cell?_of_block (w := Wc) (h Bx (by omega) (by omega))).trans wx0, (World.cell?_of_block (w := Wc) (h Bx (by omega) (by omega))).trans wx1, (World.cell?_of_block (w := Wc) (h W2.heap.size (by omega) (by omega))).trans w8, (World.cell?_of_block (w := Wc) (h (W2.heap.size + 1) (by omega) (by omega))).trans w9, g1, g2⟩)
      refine wpIn_region_round (S := fun W1 => W1.cell? ⟨w.heap.size + 1, 0, none⟩ = some (.func (.func 40) #[] #[]) ∧ W1.cell? ⟨w.heap.size + 1 + 1 + 1, 0, none⟩ = some (.slice (some ⟨w.heap.size + 1 + 1, 0, none⟩) l.length l.length) ∧ W1.cell? ⟨Bx, 0, none⟩ = some (.int .i64 k1) ∧ W1.cell? ⟨Bx, 1, none⟩ = some (.int .i64 0) ∧ W1.cell? ⟨W2.heap.size, 0, none⟩ = some (.int .i64 (J1 : Int)) ∧ W1.cell? ⟨W2.heap.size + 1, 0, none⟩ = some (.int .i64 (J2 : Int)) ∧ W1.cell? ⟨w.heap.size + 1 + 1, J1, none⟩ = some (.int .i64 za) ∧ W1.cell? ⟨w.heap.size + 1 + 1, J2, none⟩ = some (.int .i64 zb)) (by kernel_rfl) (by kernel_rfl) (by rintro ⟨a1, w1, h1⟩; exact h1) (HAll.out _ (fun _ _ _ => rfl) wa wb) (fun hHeld => ?_)
      refine wpAnyH_take (i := 0) (oi := _) (v := ?_) rfl (by kernel_rfl) (by kernel_rfl) (by kernel_rfl) (fun _ _ _ h => h) (Or.inl ⟨by rfl, ?_⟩) (by assumption) ?_
      rotate_left 1
      · (intro w hSw; (try dsimp only at hSw); (first | (go_simp; done) | (go_simp; with_reducible rfl)))
      try simp only [Act.put, List.getElem_toArray, List.getElem_cons_zero, List.getElem_cons_succ, List.setIfInBounds_toArray, List.set_cons_zero, List.set_cons_succ]
      refine wpAnyH_take (i := 1) (oi := _) (v := ?_) rfl (by kernel_rfl) (by kernel_rfl) (by kernel_rfl) (fun _ _ _ h => h) (Or.inl ⟨by rfl, ?_⟩) (by assumption) ?_
      rotate_left 1
      · (intro w hSw; (try dsimp only at hSw); (first | (go_simp; done) | (go_simp; with_reducible rfl)))
      try simp only [Act.put, List.getElem_toArray, List.getElem_cons_zero, List.getElem_cons_succ, List.setIfInBounds_toArray, List.set_cons_zero, List.set_cons_succ]
      refine wpAnyH_take (i := 2) (oi := _) (v := ?_) rfl (by kernel_rfl) (by kernel_rfl) (by kernel_rfl) (fun _ _ _ h => h) (Or.inl ⟨by rfl, ?_⟩) (by assumption) ?_
      rotate_left 1
      · (intro w hSw; (try dsimp only at hSw); (first | (go_simp; done) | (go_simp; with_reducible rfl)))
      try simp only [Act.put, List.getElem_toArray, List.getElem_cons_zero, List.getElem_cons_succ, List.setIfInBounds_toArray, List.set_cons_zero, List.set_cons_succ]
      refine wpAnyH_take (i := 3) (oi := _) (v := ?_) rfl (by kernel_rfl) (by kernel_rfl) (by kernel_rfl) (fun _ _ _ h => h) (Or.inl ⟨by rfl, ?_⟩) (by assumption) ?_
      rotate_left 1
      · (intro w hSw; (try dsimp only at hSw); (first | (go_simp; done) | (go_simp; with_reducible rfl)))
      try simp only [Act.put, List.getElem_toArray, List.getElem_cons_zero, List.getElem_cons_succ, List.setIfInBounds_toArray, List.set_cons_zero, List.set_cons_succ]
      refine wpAnyH_take (i := 4) (oi := _) (v := ?_) rfl (by kernel_rfl) (by kernel_rfl) (by kernel_rfl) (fun _ _ _ h => h) (Or.inl ⟨by rfl, ?_⟩) (by assumption) ?_
      rotate_left 1
      · (intro w hSw; (try dsimp only at hSw); (first | (go_simp; done) | (go_simp; with_reducible rfl)))
      try simp only [Act.put, List.getElem_toArray, List.getElem_cons_zero, List.getElem_cons_succ, List.setIfInBounds_toArray, List.set_cons_zero, List.set_cons_succ]
      refine wpAnyH_take (i := 5) (oi := _) (v := ?_) rfl (by kernel_rfl) (by kernel_rfl) (by kernel_rfl) (fun _ _ _ h => h) (Or.inl ⟨by rfl, ?_⟩) (by assumption) ?_
      rotate_left 1
      · (intro w hSw; (try dsimp only at hSw); (first | (go_simp; done) | (go_simp; with_reducible rfl)))
      try simp only [Act.put, List.getElem_toArray, List.getElem_cons_zero, List.getElem_cons_succ, List.setIfInBounds_toArray, List.set_cons_zero, List.set_cons_succ]
      refine wpAnyH_take (i := 6) (oi := _) (v := ?_) rfl (by kernel_rfl) (by kernel_rfl) (by kernel_rfl) (fun _ _ _ h => h) (Or.inl ⟨by rfl, ?_⟩) (by assumption) ?_
      rotate_left 1
      · (intro w hSw; (try dsimp only at hSw); (first | (go_simp; done) | (go_simp; with_reducible rfl)))
      try simp only [Act.put, List.getElem_toArray, List.getElem_cons_zero, List.getElem_cons_succ, List.setIfInBounds_toArray, List.set_cons_zero, List.set_cons_succ]
      refine wpAnyH_take (i := 7) (oi := _) (v := ?_) rfl (by kernel_rfl) (by kernel_rfl) (by kernel_rfl) (fun _ _ _ h => h) (Or.inl ⟨by rfl, ?_⟩) (by assumption) ?_
      rotate_left 1
      · (intro w hSw; (try dsimp only at hSw); (first | (go_simp; done) | (go_simp; with_reducible rfl)))
      try simp only [Act.put, List.getElem_toArray, List.getElem_cons_zero, List.getElem_cons_succ, List.setIfInBounds_toArray, List.set_cons_zero, List.set_cons_succ]
      refine wpAnyH_take (i := 8) (oi := _) (v := ?_) rfl (by kernel_rfl) (by kernel_rfl) (by kernel_rfl) (fun _ _ _ h => h) (Or.inl ⟨by rfl, ?_⟩) (by assumption) ?_
      rotate_left 1
      · (intro w hSw; (try dsimp only at hSw); (first | (go_simp; done) | (go_simp; with_reducible rfl)))
      try simp only [Act.put, List.getElem_toArray, List.getElem_cons_zero, List.getElem_cons_succ, List.setIfInBounds_toArray, List.set_cons_zero, List.set_cons_succ]
      refine wpAnyH_take (i := 9) (oi := _) (v := ?_) rfl (by kernel_rfl) (by kernel_rfl) (by kernel_rfl) (fun _ _ _ h => h) (Or.inl ⟨by rfl, ?_⟩) (by assumption) ?_
      rotate_left 1
      · (intro w hSw; (try dsimp only at hSw); (first | (go_simp; done) | (go_simp; with_reducible rfl)))
      try simp only [Act.put, List.getElem_toArray, List.getElem_cons_zero, List.getElem_cons_succ, List.setIfInBounds_toArray, List.set_cons_zero, List.set_cons_succ]
      refine wpAnyH_take (i := 10) (oi := _) (v := ?_) rfl (by kernel_rfl) (by kernel_rfl) (by kernel_rfl) (fun _ _ _ h => h) (Or.inl ⟨by rfl, ?_⟩) (by assumption) ?_
      rotate_left 1
      · (intro w hSw; (try dsimp only at hSw); (first | (go_simp; done) | (go_simp; with_reducible rfl)))
      try simp only [Act.put, List.getElem_toArray, List.getElem_cons_zero, List.getElem_cons_succ, List.setIfInBounds_toArray, List.set_cons_zero, List.set_cons_succ]
      refine wpAnyH_take (i := 11) (oi := _) (v := ?_) rfl (by kernel_rfl) (by kernel_rfl) (by kernel_rfl) (fun _ _ _ h => h) (Or.inl ⟨by rfl, ?_⟩) (by assumption) ?_
      rotate_left 1
      · (intro w hSw; (try dsimp only at hSw); (first | (go_simp; done) | (go_simp; with_reducible rfl)))
      try simp only [Act.put, List.getElem_toArray, List.getElem_cons_zero, List.getElem_cons_succ, List.setIfInBounds_toArray, List.set_cons_zero, List.set_cons_succ]
      refine wpAnyH_take (i := 12) (oi := _) (v := ?_) rfl (by kernel_rfl) (by kernel_rfl) (by kernel_rfl) (fun _ _ _ h => h) (Or.inl ⟨by rfl, ?_⟩) (by assumption) ?_
      rotate_left 1
      · (intro w hSw; (try dsimp only at hSw); (first | (go_simp; done) | (go_simp; with_reducible rfl)))
      try simp only [Act.put, List.getElem_toArray, List.getElem_cons_zero, List.getElem_cons_succ, List.setIfInBounds_toArray, List.set_cons_zero, List.set_cons_succ]
      refine wpAnyH_take (i := 13) (oi := _) (v := ?_) rfl (by kernel_rfl) (by kernel_rfl) (by kernel_rfl) (fun _ _ _ h => h) (Or.inl ⟨by rfl, ?_⟩) (by assumption) ?_
      rotate_left 1
      · (intro w hSw; (try dsimp only at hSw); (first | (go_simp; done) | (go_simp; with_reducible rfl)))
      try simp only [Act.put, List.getElem_toArray, List.getElem_cons_zero, List.getElem_cons_succ, List.setIfInBounds_toArray, List.set_cons_zero, List.set_cons_succ]
      refine wpAnyH_ready (rs := [14]) (by kernel_rfl) (by simp) ?_
      refine AllReadyH.cons (o := _) rfl (fun K hK => ?_) AllReadyH.nil
      go_simp
      (with_reducible refine Calls.mono (HTwo.out _) ?_)
      rintro r W1 ⟨rfl, hb1⟩
      have hbV : Below Wc.heap.size Wc W1 := ⟨hb1.os, hb1.tape, hb1.output, hb1.size, hb1.block⟩
      have hbW : Below W.heap.size W W1 := hbC.trans (hbV.mono hbC.size)
      have e2 := (hbV.block (w.heap.size + 1 + 1) (by omega)).trans e0
      (try go_wp2_with fail)
      refine hK.out _ _ (HAll.out _ (fun k h1 _ => hbV.block k h1) ((cell_of_blk e2 J1).trans za1) ((cell_of_blk e2 J2).trans zb1)) (fun hHeld => ?_)
      clear hK K
      try simp only [Act.put, List.getElem_toArray, List.getElem_cons_zero, List.getElem_cons_succ, List.setIfInBounds_toArray, List.set_cons_zero, List.set_cons_succ]
      have e1 := (hbW.block (w.heap.size + 1 + 1) hT1).trans u1
      have t0 := (cell_of_blk e1 x.1).trans z1
      have tf := unfrozen_of_blk e1 x.1
      have E1 := hide e1
      clear e1
      refine wpAnyH_take (i := 15) (oi := _) (v := ?_) rfl (by kernel_rfl) (by kernel_rfl) (by kernel_rfl) (fun _ _ _ h => h) (Or.inl ⟨by rfl, ?_⟩) (by assumption) ?_
      rotate_left 1
      · (intro w hSw; (try dsimp only at hSw); (first | (go_simp; done) | (go_simp; with_reducible rfl)))
      try simp only [Act.put, List.getElem_toArray, List.getElem_cons_zero, List.getElem_cons_succ, List.setIfInBounds_toArray, List.set_cons_zero, List.set_cons_succ]
      refine wpAnyH_ready (rs := [16]) (by kernel_rfl) (by simp) ?_
      refine AllReadyH.cons (o := _) rfl (fun K hK => ?_) AllReadyH.nil
      go_simp
      refine hK.out _ _ (HAll.out _ (fun k h1 h2 => (Below.heap_setCell _ _ _ _ h2).trans (hbV.block k h1)) ((cell_of_blk (blk_setCell E1.out _) J1).trans (by rw [Array.getElem?_setIfInBounds_ne n1]; exact za1)) ((cell_of_blk (blk_setCell E1.out _) J2).trans (by rw [Array.getElem?_setIfInBounds_ne n2]; exact zb1))) (fun hHeld => ?_)
      clear hK K
      try simp only [Act.put, List.getElem_toArray, List.getElem_cons_zero, List.getElem_cons_succ, List.setIfInBounds_toArray, List.set_cons_zero, List.set_cons_succ]
      refine wpAnyH_done (by kernel_rfl) ?_ _
      clear hHeld
      have hk : ∀ (v : Value) k, k < W.heap.size → k ≠ w.heap.size + 1 + 1 → (W1.setCell ⟨w.heap.size + 1 + 1, x.1, none⟩ v).heap[k]? = W.heap[k]? := fun v k h1 h2 => (Below.heap_setCell _ _ _ _ h2).trans (hbW.block k h1)
      have hsW := hbW.size
      refine ⟨((KeepsOthers.of_grownBy (grown_of hbW) (fun j o e => by cases e)).trans (KeepsOthers.setCell _ _ _)).from _, ⟨(hbW.mono hB.size).setCell (p := ⟨w.heap.size + 1 + 1, x.1, none⟩) (by simp; omega) _, hk _ _ (by omega) (by omega)⟩, ⟨(hk _ _ (by omega) (by omega)).trans b0, (hk _ _ (by omega) (by omega)).trans b1, (hk _ _ (by omega) (by omega)).trans b3, ?_, by simp [World.setCell]; omega⟩, (hB.trans (hbW.mono hB.size)).setCell (p := ⟨w.heap.size + 1 + 1, x.1, none⟩) (by simp; omega) _⟩
      rw [show (pre ++ [x]).length = pre.length + 1 by simp]
      exact HT.out.step (v := gP k1 za zb) (fun cur2 e2 => blk_setCell ((hbW.block (w.heap.size + 1 + 1) hT1).trans e2) _) (by unfold bdP; omega) (HGB.out) (fun hp s2 hs2 => by rw [hs2.eq hs]; exact HGE.out hp)
  case done =>
    rintro D ys W hD rfl ⟨⟨b0, b1, b3, bT, hsz⟩, hB⟩ hK
    have c3 := b3.cell
    obtain ⟨cur, u1, u2, u3, u4⟩ := bT
    have HU4 := hide u4
    clear u4
    gi_wp2_with fail
    refine ⟨by simp, .inl ⟨_, _, rfl, run_takeDeferred hK, ?_⟩⟩
    have k1 := blk_cells u1 (grownBy_putObj' _ D (.deferred none)) (fun r e => by cases e; exact ⟨_, hK, rfl⟩)
    refine ⟨_, results_tmp rfl _ _ _, _, rfl, (Array.getElem?_eq_some_iff.1 k1).1, fun i s hs => (cell_of_blk k1 i).trans (HU4.out (List.prefix_refl _) ⟨i, hs.lt'⟩ (by simp) s hs), hB.trans (belowK_b (w := w) (Nat.le_refl _) W D _ _ (by omega) hK rfl rfl)⟩
  case stop =>
    rintro D c pre W _ _ h _
    exact h.elim

set_option maxRecDepth 100000 in
set_option maxHeartbeats 4000000 in
theorem valueBy_told (b o c : Nat) (l : List Cc) (t : Tr) (w : World) (hok : t.ok) (hlt : l = t.flat) (h40 : l.length ≤ 40) (hc : l.length ≤ c) (hrow : CRowAt w b o l) :
    Calls Try.prog 39 #[.slice (some ⟨b, o, none⟩) l.length c, .func (.func 55) #[] #[]] w fun e w' => ∃ g, e = .returned (.slice (some ⟨g, 0, none⟩) l.length l.length) ∧ g < w'.heap.size ∧ (∀ i s, Sub l i s → w'.cell? ⟨g, i, none⟩ = some (.int .i64 (Tr.val s))) ∧ Below w.heap.size w w' := by
  have hmk := mk_ints l.length (by omega)
  have HSub : Hid (∀ i, i < l.length → ∃ s, Sub l i s) := hide (fun i hi => by
    rw [hlt] at hi ⊢
    obtain ⟨s, r, h1, h2⟩ := Tr.at_ hok hi
    exact ⟨s, h1, r, h2⟩)
  have HPu := hide (fun (w' : World) (hb : Below w.heap.size w w') i k1 a b' hs => partsUnder_any (some ⟨b, o, none⟩) c l i k1 a b' w' (by omega) hc (.inr ⟨b, o, rfl, ⟨Nat.lt_of_lt_of_le hrow.1 hb.size, fun i hi => ⟨(hb.cell (p := ⟨b, o + i * 2, none⟩) hrow.1).trans (hrow.2 i hi).1, (hb.cell (p := ⟨b, o + i * 2 + 1, none⟩) hrow.1).trans (hrow.2 i hi).2⟩⟩⟩) hs)
  have HRow := hide hrow
  have hbw := hrow.1
  clear hlt
  refine (callsIn_wide (n := 6)).1 ?_
  refine callsIn_of_wp_marks Try.func39 rfl trivial ?_ rfl
  simp only [Try.ntmps39, List.size_toArray, List.length_cons, List.length_nil, Nat.reduceAdd, Nat.reduceSub, Array.replicate_succ, Array.replicate_zero, List.push_toArray, List.append_toArray, List.nil_append, List.cons_append]
  gi_wp2_with (refine ⟨trivial, ?_⟩; gi_at_call 58; refine (callsIn_wide.2 (back_any _ _ _ _)).mono ?_; rintro e w' ⟨rfl, rfl⟩)
  obtain ⟨W0, hW0⟩ : ∃ W0, W0 = ((((w.alloc (.cells #[.slice (some ⟨b, o, none⟩) l.length c] 25)).alloc (.cells #[.func (.func 55) #[] #[]] 66)).alloc (.cells (madeCells #[Value.int .i64 0] l.length) 3)).alloc (.cells #[.slice (some ⟨w.heap.size + 1 + 1, 0, none⟩) l.length l.length] 64)).alloc (.cells #[.slice (some ⟨b, o, none⟩) l.length c] 25) := ⟨_, rfl⟩
  have hs0 : W0.heap.size = w.heap.size + 1 + 1 + 1 + 1 + 1 := by rw [hW0]; simp
  have hB0 : Below w.heap.size w W0 := by rw [hW0]; exact (((((Below.refl _ w).alloc (Nat.le_refl _) _).alloc (by simp) _).alloc (by simp; omega) _).alloc (by simp; omega) _).alloc (by simp; omega) _
  have v0 : Boxed W0 w.heap.size 25 (.slice (some ⟨b, o, none⟩) l.length c) := by rw [hW0]; exact ((((Boxed.new w _ _).alloc _).alloc _).alloc _).alloc _
  have v1 : Boxed W0 (w.heap.size + 1) 66 (.func (.func 55) #[] #[]) := by rw [hW0]; have := ((((Boxed.new (w.alloc (.cells #[.slice (some ⟨b, o, none⟩) l.length c] 25)) 66 (.func (.func 55) #[] #[])).alloc (.cells (madeCells #[Value.int .i64 0] l.length) 3)).alloc (.cells #[.slice (some ⟨w.heap.size + 1 + 1, 0, none⟩) l.length l.length] 64)).alloc (.cells #[.slice (some ⟨b, o, none⟩) l.length c] 25)); simpa using this
  have v2 : W0.heap[w.heap.size + 1 + 1]? = some (.cells (madeCells #[Value.int .i64 0] l.length) 3 (0, 0)) := by
    rw [hW0, heap_alloc_old _ _ (by simp), heap_alloc_old _ _ (by simp)]
    have := heap_alloc_new ((w.alloc (.cells #[.slice (some ⟨b, o, none⟩) l.length c] 25)).alloc (.cells #[.func (.func 55) #[] #[]] 66)) (.cells (madeCells #[Value.int .i64 0] l.length) 3)
    simpa using this
  have v3 : Boxed W0 (w.heap.size + 1 + 1 + 1) 64 (.slice (some ⟨w.heap.size + 1 + 1, 0, none⟩) l.length l.length) := by rw [hW0]; have := ((Boxed.new (((w.alloc (.cells #[.slice (some ⟨b, o, none⟩) l.length c] 25)).alloc (.cells #[.func (.func 55) #[] #[]] 66)).alloc (.cells (madeCells #[Value.int .i64 0] l.length) 3)) 64 (.slice (some ⟨w.heap.size + 1 + 1, 0, none⟩) l.length l.length)).alloc (.cells #[.slice (some ⟨b, o, none⟩) l.length c] 25)); simpa using this
  have v4 : Boxed W0 (w.heap.size + 1 + 1 + 1 + 1) 25 (.slice (some ⟨b, o, none⟩) l.length c) := by rw [hW0]; have := Boxed.new ((((w.alloc (.cells #[.slice (some ⟨b, o, none⟩) l.length c] 25)).alloc (.cells #[.func (.func 55) #[] #[]] 66)).alloc (.cells (madeCells #[Value.int .i64 0] l.length) 3)).alloc (.cells #[.slice (some ⟨w.heap.size + 1 + 1, 0, none⟩) l.length l.length] 64)) 25 (.slice (some ⟨b, o, none⟩) l.length c); simpa using this
  have vT : Told W0 (w.heap.size + 1 + 1) l Tr.val (bdV 0) [] := ⟨_, v2, by simp [madeCells], fun i hi => ⟨0, by simp [madeCells, hi, Nat.mod_one], Int.le_refl _, by unfold bdV; omega⟩, fun _ x hx => by simp at hx⟩
  rw [← hW0]
  clear hW0 v2 hmk
  refine wpIn_rangeFunc_ownH rfl (by omega) (gf := 63) (lb := #[.pointer (some ⟨w.heap.size + 1 + 1 + 1 + 1, 0, none⟩)]) rfl trivial (enters_of Try.func63 (by kernel_rfl) rfl)
    (back_stopsAt (fun x : Fin l.length => x.1) (fun x => (l[x.1]).k) (fun x => (l[x.1]).n) (List.finRange l.length).reverse 5 (by omega) (w.heap.size + 1 + 1 + 1 + 1) w.heap.size b o c l (by omega) (backL l) W0 hbw v4.lt hB0.size v4.cell ⟨Nat.lt_of_lt_of_le hbw hB0.size, fun i hi => ⟨(hB0.cell (p := ⟨b, o + i * 2, none⟩) hbw).trans (hrow.2 i hi).1, (hB0.cell (p := ⟨b, o + i * 2 + 1, none⟩) hbw).trans (hrow.2 i hi).2⟩⟩) kpB_t (fun W l' o1 o2 hl' h1 h2 h3 => ⟨belowK_b hB0.size W l' o1 o2 hl' h1 h2 h3, by
      rw [World.putObj_heap_other (by have := v4.lt; omega)]⟩) (Below.refl _ _) (fun _ => rfl)
    (fun pre W => (Boxed W w.heap.size 25 (.slice (some ⟨b, o, none⟩) l.length c) ∧ Boxed W (w.heap.size + 1) 66 (.func (.func 55) #[] #[]) ∧ Boxed W (w.heap.size + 1 + 1 + 1) 64 (.slice (some ⟨w.heap.size + 1 + 1, 0, none⟩) l.length l.length) ∧ Told W (w.heap.size + 1 + 1) l Tr.val (bdV pre.length) pre ∧ w.heap.size + 1 + 1 + 1 + 1 + 1 ≤ W.heap.size) ∧ Below w.heap.size w W)
    (fun _ _ _ => False)
    (OwnFrom.and (Own.from (fun s A B row hs hg hr => by
      obtain ⟨h0, h1, h2, h3, h4⟩ := hs
      exact ⟨blk_cells h0 hg hr, blk_cells h1 hg hr, blk_cells h2 hg hr, h3.cells hg hr, Nat.le_trans h4 hg.size⟩) _) (ownFrom_below (Nat.le_refl _) hB0.size))
    (fun _ _ _ _ _ hs _ _ => hs)
    ⟨⟨v0, v1, v3, vT, by omega⟩, hB0⟩
    (fun x a' W => ∃ Bx, w.heap.size + 1 + 1 + 1 + 1 < Bx ∧ W.heap[Bx]? = some (.cells #[.int .i64 (l[x.1]).k, .int .i64 (l[x.1]).n] 55 (0, 0)) ∧ a' = { tmps := #[.slice (some ⟨b, o, none⟩) l.length c, .func (.func 55) #[] #[], .pointer (some ⟨w.heap.size, 0, none⟩), .pointer (some ⟨w.heap.size + 1, 0, none⟩), .slice none 0 0, .pointer (some ⟨w.heap.size + 1 + 1 + 1, 0, none⟩), .int .i64 (x.1 : Int), .pointer (some ⟨Bx, 0, none⟩), undef, undef, .slice (some ⟨b, o, none⟩) l.length c, .int .i64 (l.length : Int), .slice (some ⟨w.heap.size + 1 + 1, 0, none⟩) l.length l.length, .slice (some ⟨b, o, none⟩) l.length c, .func (.func 63) #[] #[.pointer (some ⟨w.heap.size + 1 + 1 + 1 + 1, 0, none⟩)], .int .i64 (x.1 : Int), .agg #[.int .i64 (l[x.1]).k, .int .i64 (l[x.1]).n], undef, undef, undef, undef, undef, undef, undef, undef, undef, undef, undef, undef, undef, undef, undef, undef, undef, undef, undef, undef, undef, undef, undef, undef, undef, undef, undef, undef, undef, undef, undef, undef], defers := [] })
    (fun x a' _ X Y row hs hg hr => by obtain ⟨Bx, h1, h2, h3⟩ := hs; exact ⟨Bx, h1, blk_cells h2 hg (fun r e => (hr r e).2), h3⟩)
    ?assign ?body ?done ?stop
  case assign =>
    rintro y pre x W K ⟨⟨b0, b1, b3, bT, hsz⟩, hB⟩ hK
    gi_wp2
    refine hK _ _ ((KeepsOthers.alloc _ _).from _) ⟨(Below.refl _ W).alloc hB.size _, heap_alloc_old _ _ (by omega)⟩ ⟨⟨b0.alloc _, b1.alloc _, b3.alloc _, bT.at (heap_alloc_old _ _ (by omega)), by simp; omega⟩, hB.alloc hB.size _⟩ ⟨W.heap.size, by omega, heap_alloc_new W _, rfl⟩
  case body =>
    rintro y pre x a' W hl' ⟨r, hr⟩ ⟨⟨b0, b1, b3, bT, hsz⟩, hB⟩ ⟨Bx, hBx, bX, rfl⟩ hlt
    obtain ⟨s, hs⟩ := HSub.out x.1 x.2
    have hcell : l[x.1] = s.x := hs.cell x.2
    have hx0 : (0 : Int) ≤ (x.1 : Int) := by omega
    have hxl : (x.1 : Int) < (l.length : Int) := by have := x.2; omega
    have hxl' := x.2
    have c0 := b0.cell
    have c1 := b1.cell
    have c3 := b3.cell
    rw [hcell] at bX ⊢
    have HT := hide bT
    obtain ⟨cur, u1, u2, u3, u4⟩ := bT
    have HU4 := hide u4
    clear u4
    obtain ⟨z, z1, -, -⟩ := u3 x.1 x.2
    have hT1 : w.heap.size + 1 + 1 < W.heap.size := by omega
    have HBW := hide hB
    have d0 := (cell_of_blk bX 0).trans rfl
    have d1 := (cell_of_blk bX 1).trans rfl
    cases s with
    | ld n =>
      simp only [Tr.x] at bX d0 d1 ⊢
      gi_wp2_with fail
      have HAll : Hid (∀ W1 : World, (∀ k, k < W.heap.size → k ≠ w.heap.size + 1 + 1 → W1.heap[k]? = W.heap[k]?) → W1.cell? ⟨w.heap.size + 1, 0, none⟩ = some (.func (.func 55) #[] #[]) ∧ W1.cell? ⟨w.heap.size + 1 + 1 + 1, 0, none⟩ = some (.slice (some ⟨w.heap.size + 1 + 1, 0, none⟩) l.length l.length) ∧ W1.cell? ⟨Bx, 0, none⟩ = some (.int .i64 1) ∧ W1.cell? ⟨Bx, 1, none⟩ = some (.int .i64 n)) := hide (fun W1 h => ⟨(World.cell?_of_block (w := W) (h (w.heap.size + 1) (by omega) (by omega))).trans c1, (World.cell?_of_block (w := W) (h (w.heap.size + 1 + 1 + 1) (by omega) (by omega))).trans c3, (World.cell?_of_block (w := W) (h Bx (Array.getElem?_eq_some_iff.1 bX).1 (by omega))).trans d0, (World.cell?_of_block (w := W) (h Bx (Array.getElem?_eq_some_iff.1 bX).1 (by omega))).trans d1⟩)
      refine wpIn_region_round (S := fun W1 => W1.cell? ⟨w.heap.size + 1, 0, none⟩ = some (.func (.func 55) #[] #[]) ∧ W1.cell? ⟨w.heap.size + 1 + 1 + 1, 0, none⟩ = some (.slice (some ⟨w.heap.size + 1 + 1, 0, none⟩) l.length l.length) ∧ W1.cell? ⟨Bx, 0, none⟩ = some (.int .i64 1) ∧ W1.cell? ⟨Bx, 1, none⟩ = some (.int .i64 n)) (by kernel_rfl) (by kernel_rfl) (by rintro ⟨a1, w1, h1⟩; exact h1) (HAll.out _ (fun _ _ _ => rfl)) (fun hHeld => ?_)
      refine wpAnyH_take (i := 0) (oi := _) (v := ?_) rfl (by kernel_rfl) (by kernel_rfl) (by kernel_rfl) (fun _ _ _ h => h) (Or.inl ⟨by rfl, ?_⟩) (by assumption) ?_
      rotate_left 1
      · (intro w hSw; (try dsimp only at hSw); (first | (go_simp; done) | (go_simp; with_reducible rfl)))
      try simp only [Act.put, List.getElem_toArray, List.getElem_cons_zero, List.getElem_cons_succ, List.setIfInBounds_toArray, List.set_cons_zero, List.set_cons_succ]
      refine wpAnyH_take (i := 1) (oi := _) (v := ?_) rfl (by kernel_rfl) (by kernel_rfl) (by kernel_rfl) (fun _ _ _ h => h) (Or.inl ⟨by rfl, ?_⟩) (by assumption) ?_
      rotate_left 1
      · (intro w hSw; (try dsimp only at hSw); (first | (go_simp; done) | (go_simp; with_reducible rfl)))
      try simp only [Act.put, List.getElem_toArray, List.getElem_cons_zero, List.getElem_cons_succ, List.setIfInBounds_toArray, List.set_cons_zero, List.set_cons_succ]
      refine wpAnyH_take (i := 2) (oi := _) (v := ?_) rfl (by kernel_rfl) (by kernel_rfl) (by kernel_rfl) (fun _ _ _ h => h) (Or.inl ⟨by rfl, ?_⟩) (by assumption) ?_
      rotate_left 1
      · (intro w hSw; (try dsimp only at hSw); (first | (go_simp; done) | (go_simp; with_reducible rfl)))
      try simp only [Act.put, List.getElem_toArray, List.getElem_cons_zero, List.getElem_cons_succ, List.setIfInBounds_toArray, List.set_cons_zero, List.set_cons_succ]
      refine wpAnyH_take (i := 3) (oi := _) (v := ?_) rfl (by kernel_rfl) (by kernel_rfl) (by kernel_rfl) (fun _ _ _ h => h) (Or.inl ⟨by rfl, ?_⟩) (by assumption) ?_
      rotate_left 1
      · (intro w hSw; (try dsimp only at hSw); (first | (go_simp; done) | (go_simp; with_reducible rfl)))
      try simp only [Act.put, List.getElem_toArray, List.getElem_cons_zero, List.getElem_cons_succ, List.setIfInBounds_toArray, List.set_cons_zero, List.set_cons_succ]
      refine wpAnyH_ready (rs := [4]) (by kernel_rfl) (by simp) ?_
      refine AllReadyH.cons (o := _) rfl (fun K hK => ?_) AllReadyH.nil
      go_simp
      (with_reducible refine Calls.mono (valueBy_leaf _ _) ?_)
      rintro r W1 ⟨rfl, hb1⟩
      have hbW : Below W.heap.size W W1 := ⟨hb1.os, hb1.tape, hb1.output, hb1.size, hb1.block⟩
      (try go_wp2_with fail)
      refine hK.out _ _ (HAll.out _ (fun k h1 _ => hbW.block k h1)) (fun hHeld => ?_)
      clear hK K
      try simp only [Act.put, List.getElem_toArray, List.getElem_cons_zero, List.getElem_cons_succ, List.setIfInBounds_toArray, List.set_cons_zero, List.set_cons_succ]
      have e1 := (hbW.block (w.heap.size + 1 + 1) hT1).trans u1
      have t0 := (cell_of_blk e1 x.1).trans z1
      have tf := unfrozen_of_blk e1 x.1
      have E1 := hide e1
      clear e1
      refine wpAnyH_take (i := 5) (oi := _) (v := ?_) rfl (by kernel_rfl) (by kernel_rfl) (by kernel_rfl) (fun _ _ _ h => h) (Or.inl ⟨by rfl, ?_⟩) (by assumption) ?_
      rotate_left 1
      · (intro w hSw; (try dsimp only at hSw); (first | (go_simp; done) | (go_simp; with_reducible rfl)))
      try simp only [Act.put, List.getElem_toArray, List.getElem_cons_zero, List.getElem_cons_succ, List.setIfInBounds_toArray, List.set_cons_zero, List.set_cons_succ]
      refine wpAnyH_ready (rs := [6]) (by kernel_rfl) (by simp) ?_
      refine AllReadyH.cons (o := _) rfl (fun K hK => ?_) AllReadyH.nil
      go_simp
      refine hK.out _ _ (HAll.out _ (fun k h1 h2 => (Below.heap_setCell _ _ _ _ h2).trans (hbW.block k h1))) (fun hHeld => ?_)
      clear hK K
      try simp only [Act.put, List.getElem_toArray, List.getElem_cons_zero, List.getElem_cons_succ, List.setIfInBounds_toArray, List.set_cons_zero, List.set_cons_succ]
      refine wpAnyH_done (by kernel_rfl) ?_ _
      clear hHeld
      have hk : ∀ (v : Value) k, k < W.heap.size → k ≠ w.heap.size + 1 + 1 → (W1.setCell ⟨w.heap.size + 1 + 1, x.1, none⟩ v).heap[k]? = W.heap[k]? := fun v k h1 h2 => (Below.heap_setCell _ _ _ _ h2).trans (hbW.block k h1)
      have hsW := hbW.size
      refine ⟨((KeepsOthers.of_grownBy (grown_of hbW) (fun j o e => by cases e)).trans (KeepsOthers.setCell _ _ _)).from _, ⟨(hbW.mono hB.size).setCell (p := ⟨w.heap.size + 1 + 1, x.1, none⟩) (by simp; omega) _, hk _ _ (by omega) (by omega)⟩, ⟨(hk _ _ (by omega) (by omega)).trans b0, (hk _ _ (by omega) (by omega)).trans b1, (hk _ _ (by omega) (by omega)).trans b3, ?_, by simp [World.setCell]; omega⟩, (hB.trans (hbW.mono hB.size)).setCell (p := ⟨w.heap.size + 1 + 1, x.1, none⟩) (by simp; omega) _⟩
      rw [show (pre ++ [x]).length = pre.length + 1 by simp]
      exact HT.out.step (v := Tr.val (.ld n)) (fun cur2 e2 => blk_setCell ((hbW.block (w.heap.size + 1 + 1) hT1).trans e2) _) (by unfold bdV; omega) (lV_bd _ _) (fun _ s2 hs2 => by rw [hs2.eq hs])
    | op k1 a2 b2 =>
      simp only [Tr.x] at bX d0 d1 ⊢
      have ho : k1 ≠ 1 := op_ne hs.1.1
      obtain ⟨hka, hkb⟩ := hs.kids
      have hla := hka.lt'
      have hlb := hkb.lt'
      have HCp := hide (HPu.out W hB x.1 k1 a2 b2 hs)
      obtain ⟨J1, hJ1⟩ : ∃ J1, J1 = x.1 + 1 := ⟨_, rfl⟩
      have hpa := a2.flat_pos
      rw [← hJ1] at HCp hka hkb hla hlb
      obtain ⟨J2, hJ2⟩ : ∃ J2, J2 = J1 + a2.flat.length := ⟨_, rfl⟩
      rw [← hJ2] at HCp hkb hlb
      obtain ⟨J3, hJ3⟩ : ∃ J3, J3 = J2 + b2.flat.length := ⟨_, rfl⟩
      rw [← hJ3] at HCp
      obtain ⟨za, za1, za2, za3⟩ := u3 J1 hla
      obtain ⟨zb, zb1, zb2, zb3⟩ := u3 J2 hlb
      have hj1 : (0 : Int) ≤ (J1 : Int) := by omega
      have hj2 : (0 : Int) ≤ (J2 : Int) := by omega
      have hj1l : (J1 : Int) < (l.length : Int) := by omega
      have hj2l : (J2 : Int) < (l.length : Int) := by omega
      have n1 : x.1 ≠ J1 := by omega
      have n2 : x.1 ≠ J2 := by omega
      have HTwo := hide (fun w => valueBy_two k1 0 za zb w ho ⟨za2, by unfold bdV at za3; omega⟩ ⟨zb2, by unfold bdV at zb3; omega⟩)
      have HGB := hide (gV_bd pre.length k1 za zb ⟨za2, za3⟩ ⟨zb2, zb3⟩)
      have HGE : Hid (pre ++ [x] <+: (List.finRange l.length).reverse → doV k1 za zb = Tr.val (.op k1 a2 b2)) := hide (fun hp => by
        have q1 := HU4.out (prefix_init hp) _ (backL_pre hp J1 (by omega) hla) a2 hka
        have q2 := HU4.out (prefix_init hp) _ (backL_pre hp J2 (by omega) hlb) b2 hkb
        simp only at q1 q2
        rw [za1] at q1
        rw [zb1] at q2
        simp only [Option.some.injEq, Value.int.injEq, true_and] at q1 q2
        rw [q1, q2]
        exact gV_val _ _ _)
      clear hka hkb hpa hJ1 hJ2 hJ3 za2 za3 zb2 zb3
      gi_wp2_with fail
      refine ⟨trivial, (CallsIn.inRound y (callsIn_wide.2 HCp.out)).mono ?_⟩
      rintro e W2 ⟨rfl, hb2⟩
      have hs2 := hb2.size
      gi_wp2_with fail
      obtain ⟨Wc, hWc⟩ : ∃ Wc, Wc = (W2.alloc (.cells #[.int .i64 (J1 : Int), .int .i64 (J2 : Int)] 60)).alloc (.cells #[.int .i64 (J2 : Int), .int .i64 (J3 : Int)] 60) := ⟨_, rfl⟩
      have hsC : Wc.heap.size = W2.heap.size + 1 + 1 := by rw [hWc]; simp
      have hbC : Below W.heap.size W Wc := by rw [hWc]; exact (hb2.alloc hs2 _).alloc (by simp; omega) _
      have y8 : Wc.heap[W2.heap.size]? = some (.cells #[.int .i64 (J1 : Int), .int .i64 (J2 : Int)] 60 (0, 0)) := by rw [hWc, heap_alloc_old _ _ (by simp)]; exact heap_alloc_new W2 _
      have y9 : Wc.heap[W2.heap.size + 1]? = some (.cells #[.int .i64 (J2 : Int), .int .i64 (J3 : Int)] 60 (0, 0)) := by rw [hWc]; have := heap_alloc_new (W2.alloc (.cells #[.int .i64 (J1 : Int), .int .i64 (J2 : Int)] 60)) (.cells #[.int .i64 (J2 : Int), .int .i64 (J3 : Int)] 60); simpa using this
      rw [← hWc]
      clear hWc hb2
      have w1f := (World.cell?_of_block (a := ⟨w.heap.size + 1, 0, none⟩) (w := W) (hbC.block (w.heap.size + 1) (by omega))).trans c1
      have w3f := (World.cell?_of_block (a := ⟨w.heap.size + 1 + 1 + 1, 0, none⟩) (w := W) (hbC.block (w.heap.size + 1 + 1 + 1) (by omega))).trans c3
      have wx0 := (World.cell?_of_block (a := ⟨Bx, 0, none⟩) (w := W) (hbC.block Bx (Array.getElem?_eq_some_iff.1 bX).1)).trans d0
      have wx1 := (World.cell?_of_block (a := ⟨Bx, 1, none⟩) (w := W) (hbC.block Bx (Array.getElem?_eq_some_iff.1 bX).1)).trans d1
      have hBxl := (Array.getElem?_eq_some_iff.1 bX).1
      have w8 := (cell_of_blk y8 0).trans rfl
      have w9 := (cell_of_blk y9 0).trans rfl
      have e0 := (hbC.block (w.heap.size + 1 + 1) hT1).trans u1
      have wa := (cell_of_blk e0 J1).trans za1
      have wb := (cell_of_blk e0 J2).trans zb1
      have HAll : Hid (∀ W1 : World, (∀ k, k < Wc.heap.size → k ≠ w.heap.size + 1 + 1 → W1.heap[k]? = Wc.heap[k]?) → W1.cell? ⟨w.heap.size + 1 + 1, J1, none⟩ = some (.int .i64 za) → W1.cell? ⟨w.heap.size + 1 + 1, J2, none⟩ = some (.int .i64 zb) → W1.cell? ⟨w.heap.size + 1, 0, none⟩ = some (.func (.func 55) #[] #[]) ∧ W1.cell? ⟨w.heap.size + 1 + 1 + 1, 0, none⟩ = some (.slice (some ⟨w.heap.size + 1 + 1, 0, none⟩) l.length l.length) ∧ W1.cell? ⟨Bx, 0, none⟩ = some (.int .i64 k1) ∧ W1.cell? ⟨Bx, 1, none⟩ = some (.int .i64 0) ∧ W1.cell? ⟨W2.heap.size, 0, none⟩ = some (.int .i64 (J1 : Int)) ∧ W1.cell? ⟨W2.heap.size + 1, 0, none⟩ = some (.int .i64 (J2 : Int)) ∧ W1.cell? ⟨w.heap.size + 1 + 1, J1, none⟩ = some (.int .i64 za) ∧ W1.cell? ⟨w.heap.size + 1 + 1, J2, none⟩ = some (.int .i64 zb)) := hide (fun W1 h g1 g2 => ⟨(World.cell?_of_block (w := Wc) (h (w.heap.size + 1) (by omega) (by omega))).trans w1f, (World.cell?_of_block (w := Wc) (h (w.heap.size + 1 + 1 + 1) (by omega) (by omega))).trans w3f, (World.cell?_of_block (w := Wc) (h Bx (by omega) (by omega))).trans wx0, (World.cell?_of_block (w := Wc) (h Bx (by omega) (by omega))).trans wx1, (World.cell?_of_block (w := Wc) (h W2.heap.size (by omega) (by omega))).trans w8, (World.cell?_of_block (w := Wc) (h (W2.heap.size + 1) (by omega) (by omega))).trans w9, g1, g2⟩)
      refine wpIn_region_round (S := fun W1 => W1.cell? ⟨w.heap.size + 1, 0, none⟩ = some (.func (.func 55) #[] #[]) ∧ W1.cell? ⟨w.heap.size + 1 + 1 + 1, 0, none⟩ = some (.slice (some ⟨w.heap.size + 1 + 1, 0, none⟩) l.length l.length) ∧ W1.cell? ⟨Bx, 0, none⟩ = some (.int .i64 k1) ∧ W1.cell? ⟨Bx, 1, none⟩ = some (.int .i64 0) ∧ W1.cell? ⟨W2.heap.size, 0, none⟩ = some (.int .i64 (J1 : Int)) ∧ W1.cell? ⟨W2.heap.size + 1, 0, none⟩ = some (.int .i64 (J2 : Int)) ∧ W1.cell? ⟨w.heap.size + 1 + 1, J1, none⟩ = some (.int .i64 za) ∧ W1.cell? ⟨w.heap.size + 1 + 1, J2, none⟩ = some (.int .i64 zb)) (by kernel_rfl) (by kernel_rfl) (by rintro ⟨a1, w1, h1⟩; exact h1) (HAll.out _ (fun _ _ _ => rfl) wa wb) (fun hHeld => ?_)
      refine wpAnyH_take (i := 0) (oi := _) (v := ?_) rfl (by kernel_rfl) (by kernel_rfl) (by kernel_rfl) (fun _ _ _ h => h) (Or.inl ⟨by rfl, ?_⟩) (by assumption) ?_
      rotate_left 1
      · (intro w hSw; (try dsimp only at hSw); (first | (go_simp; done) | (go_simp; with_reducible rfl)))
      try simp only [Act.put, List.getElem_toArray, List.getElem_cons_zero, List.getElem_cons_succ, List.setIfInBounds_toArray, List.set_cons_zero, List.set_cons_succ]
      refine wpAnyH_take (i := 1) (oi := _) (v := ?_) rfl (by kernel_rfl) (by kernel_rfl) (by kernel_rfl) (fun _ _ _ h => h) (Or.inl ⟨by rfl, ?_⟩) (by assumption) ?_
      rotate_left 1
      · (intro w hSw; (try dsimp only at hSw); (first | (go_simp; done) | (go_simp; with_reducible rfl)))
      try simp only [Act.put, List.getElem_toArray, List.getElem_cons_zero, List.getElem_cons_succ, List.setIfInBounds_toArray, List.set_cons_zero, List.set_cons_succ]
      refine wpAnyH_take (i := 2) (oi := _) (v := ?_) rfl (by kernel_rfl) (by kernel_rfl) (by kernel_rfl) (fun _ _ _ h => h) (Or.inl ⟨by rfl, ?_⟩) (by assumption) ?_
      rotate_left 1
      · (intro w hSw; (try dsimp only at hSw); (first | (go_simp; done) | (go_simp; with_reducible rfl)))
      try simp only [Act.put, List.getElem_toArray, List.getElem_cons_zero, List.getElem_cons_succ, List.setIfInBounds_toArray, List.set_cons_zero, List.set_cons_succ]
      refine wpAnyH_take (i := 3) (oi := _) (v := ?_) rfl (by kernel_rfl) (by kernel_rfl) (by kernel_rfl) (fun _ _ _ h => h) (Or.inl ⟨by rfl, ?_⟩) (by assumption) ?_
      rotate_left 1
      · (intro w hSw; (try dsimp only at hSw); (first | (go_simp; done) | (go_simp; with_reducible rfl)))
      try simp only [Act.put, List.getElem_toArray, List.getElem_cons_zero, List.getElem_cons_succ, List.setIfInBounds_toArray, List.set_cons_zero, List.set_cons_succ]
      refine wpAnyH_take (i := 4) (oi := _) (v := ?_) rfl (by kernel_rfl) (by kernel_rfl) (by kernel_rfl) (fun _ _ _ h => h) (Or.inl ⟨by rfl, ?_⟩) (by assumption) ?_
      rotate_left 1
      · (intro w hSw; (try dsimp only at hSw); (first | (go_simp; done) | (go_simp; with_reducible rfl)))
      try simp only [Act.put, List.getElem_toArray, List.getElem_cons_zero, List.getElem_cons_succ, List.setIfInBounds_toArray, List.set_cons_zero, List.set_cons_succ]
      refine wpAnyH_take (i := 5) (oi := _) (v := ?_) rfl (by kernel_rfl) (by kernel_rfl) (by kernel_rfl) (fun _ _ _ h => h) (Or.inl ⟨by rfl, ?_⟩) (by assumption) ?_
      rotate_left 1
      · (intro w hSw; (try dsimp only at hSw); (first | (go_simp; done) | (go_simp; with_reducible rfl)))
      try simp only [Act.put, List.getElem_toArray, List.getElem_cons_zero, List.getElem_cons_succ, List.setIfInBounds_toArray, List.set_cons_zero, List.set_cons_succ]
      refine wpAnyH_take (i := 6) (oi := _) (v := ?_) rfl (by kernel_rfl) (by kernel_rfl) (by kernel_rfl) (fun _ _ _ h => h) (Or.inl ⟨by rfl, ?_⟩) (by assumption) ?_
      rotate_left 1
      · (intro w hSw; (try dsimp only at hSw); (first | (go_simp; done) | (go_simp; with_reducible rfl)))
      try simp only [Act.put, List.getElem_toArray, List.getElem_cons_zero, List.getElem_cons_succ, List.setIfInBounds_toArray, List.set_cons_zero, List.set_cons_succ]
      refine wpAnyH_take (i := 7) (oi := _) (v := ?_) rfl (by kernel_rfl) (by kernel_rfl) (by kernel_rfl) (fun _ _ _ h => h) (Or.inl ⟨by rfl, ?_⟩) (by assumption) ?_
      rotate_left 1
      · (intro w hSw; (try dsimp only at hSw); (first | (go_simp; done) | (go_simp; with_reducible rfl)))
      try simp only [Act.put, List.getElem_toArray, List.getElem_cons_zero, List.getElem_cons_succ, List.setIfInBounds_toArray, List.set_cons_zero, List.set_cons_succ]
      refine wpAnyH_take (i := 8) (oi := _) (v := ?_) rfl (by kernel_rfl) (by kernel_rfl) (by kernel_rfl) (fun _ _ _ h => h) (Or.inl ⟨by rfl, ?_⟩) (by assumption) ?_
      rotate_left 1
      · (intro w hSw; (try dsimp only at hSw); (first | (go_simp; done) | (go_simp; with_reducible rfl)))
      try simp only [Act.put, List.getElem_toArray, List.getElem_cons_zero, List.getElem_cons_succ, List.setIfInBounds_toArray, List.set_cons_zero, List.set_cons_succ]
      refine wpAnyH_take (i := 9) (oi := _) (v := ?_) rfl (by kernel_rfl) (by kernel_rfl) (by kernel_rfl) (fun _ _ _ h => h) (Or.inl ⟨by rfl, ?_⟩) (by assumption) ?_
      rotate_left 1
      · (intro w hSw; (try dsimp only at hSw); (first | (go_simp; done) | (go_simp; with_reducible rfl)))
      try simp only [Act.put, List.getElem_toArray, List.getElem_cons_zero, List.getElem_cons_succ, List.setIfInBounds_toArray, List.set_cons_zero, List.set_cons_succ]
      refine wpAnyH_take (i := 10) (oi := _) (v := ?_) rfl (by kernel_rfl) (by kernel_rfl) (by kernel_rfl) (fun _ _ _ h => h) (Or.inl ⟨by rfl, ?_⟩) (by assumption) ?_
      rotate_left 1
      · (intro w hSw; (try dsimp only at hSw); (first | (go_simp; done) | (go_simp; with_reducible rfl)))
      try simp only [Act.put, List.getElem_toArray, List.getElem_cons_zero, List.getElem_cons_succ, List.setIfInBounds_toArray, List.set_cons_zero, List.set_cons_succ]
      refine wpAnyH_take (i := 11) (oi := _) (v := ?_) rfl (by kernel_rfl) (by kernel_rfl) (by kernel_rfl) (fun _ _ _ h => h) (Or.inl ⟨by rfl, ?_⟩) (by assumption) ?_
      rotate_left 1
      · (intro w hSw; (try dsimp only at hSw); (first | (go_simp; done) | (go_simp; with_reducible rfl)))
      try simp only [Act.put, List.getElem_toArray, List.getElem_cons_zero, List.getElem_cons_succ, List.setIfInBounds_toArray, List.set_cons_zero, List.set_cons_succ]
      refine wpAnyH_take (i := 12) (oi := _) (v := ?_) rfl (by kernel_rfl) (by kernel_rfl) (by kernel_rfl) (fun _ _ _ h => h) (Or.inl ⟨by rfl, ?_⟩) (by assumption) ?_
      rotate_left 1
      · (intro w hSw; (try dsimp only at hSw); (first | (go_simp; done) | (go_simp; with_reducible rfl)))
      try simp only [Act.put, List.getElem_toArray, List.getElem_cons_zero, List.getElem_cons_succ, List.setIfInBounds_toArray, List.set_cons_zero, List.set_cons_succ]
      refine wpAnyH_take (i := 13) (oi := _) (v := ?_) rfl (by kernel_rfl) (by kernel_rfl) (by kernel_rfl) (fun _ _ _ h => h) (Or.inl ⟨by rfl, ?_⟩) (by assumption) ?_
      rotate_left 1
      · (intro w hSw; (try dsimp only at hSw); (first | (go_simp; done) | (go_simp; with_reducible rfl)))
      try simp only [Act.put, List.getElem_toArray, List.getElem_cons_zero, List.getElem_cons_succ, List.setIfInBounds_toArray, List.set_cons_zero, List.set_cons_succ]
      refine wpAnyH_ready (rs := [14]) (by kernel_rfl) (by simp) ?_
      refine AllReadyH.cons (o := _) rfl (fun K hK => ?_) AllReadyH.nil
      go_simp
      (with_reducible refine Calls.mono (HTwo.out _) ?_)
      rintro r W1 ⟨rfl, hb1⟩
      have hbV : Below Wc.heap.size Wc W1 := ⟨hb1.os, hb1.tape, hb1.output, hb1.size, hb1.block⟩
      have hbW : Below W.heap.size W W1 := hbC.trans (hbV.mono hbC.size)
      have e2 := (hbV.block (w.heap.size + 1 + 1) (by omega)).trans e0
      (try go_wp2_with fail)
      refine hK.out _ _ (HAll.out _ (fun k h1 _ => hbV.block k h1) ((cell_of_blk e2 J1).trans za1) ((cell_of_blk e2 J2).trans zb1)) (fun hHeld => ?_)
      clear hK K
      try simp only [Act.put, List.getElem_toArray, List.getElem_cons_zero, List.getElem_cons_succ, List.setIfInBounds_toArray, List.set_cons_zero, List.set_cons_succ]
      have e1 := (hbW.block (w.heap.size + 1 + 1) hT1).trans u1
      have t0 := (cell_of_blk e1 x.1).trans z1
      have tf := unfrozen_of_blk e1 x.1
      have E1 := hide e1
      clear e1
      refine wpAnyH_take (i := 15) (oi := _) (v := ?_) rfl (by kernel_rfl) (by kernel_rfl) (by kernel_rfl) (fun _ _ _ h => h) (Or.inl ⟨by rfl, ?_⟩) (by assumption) ?_
      rotate_left 1
      · (intro w hSw; (try dsimp only at hSw); (first | (go_simp; done) | (go_simp; with_reducible rfl)))
      try simp only [Act.put, List.getElem_toArray, List.getElem_cons_zero, List.getElem_cons_succ, List.setIfInBounds_toArray, List.set_cons_zero, List.set_cons_succ]
      refine wpAnyH_ready (rs := [16]) (by kernel_rfl) (by simp) ?_
      refine AllReadyH.cons (o := _) rfl (fun K hK => ?_) AllReadyH.nil
      go_simp
      refine hK.out _ _ (HAll.out _ (fun k h1 h2 => (Below.heap_setCell _ _ _ _ h2).trans (hbV.block k h1)) ((cell_of_blk (blk_setCell E1.out _) J1).trans (by rw [Array.getElem?_setIfInBounds_ne n1]; exact za1)) ((cell_of_blk (blk_setCell E1.out _) J2).trans (by rw [Array.getElem?_setIfInBounds_ne n2]; exact zb1))) (fun hHeld => ?_)
      clear hK K
      try simp only [Act.put, List.getElem_toArray, List.getElem_cons_zero, List.getElem_cons_succ, List.setIfInBounds_toArray, List.set_cons_zero, List.set_cons_succ]
      refine wpAnyH_done (by kernel_rfl) ?_ _
      clear hHeld
      have hk : ∀ (v : Value) k, k < W.heap.size → k ≠ w.heap.size + 1 + 1 → (W1.setCell ⟨w.heap.size + 1 + 1, x.1, none⟩ v).heap[k]? = W.heap[k]? := fun v k h1 h2 => (Below.heap_setCell _ _ _ _ h2).trans (hbW.block k h1)
      have hsW := hbW.size
      refine ⟨((KeepsOthers.of_grownBy (grown_of hbW) (fun j o e => by cases e)).trans (KeepsOthers.setCell _ _ _)).from _, ⟨(hbW.mono hB.size).setCell (p := ⟨w.heap.size + 1 + 1, x.1, none⟩) (by simp; omega) _, hk _ _ (by omega) (by omega)⟩, ⟨(hk _ _ (by omega) (by omega)).trans b0, (hk _ _ (by omega) (by omega)).trans b1, (hk _ _ (by omega) (by omega)).trans b3, ?_, by simp [World.setCell]; omega⟩, (hB.trans (hbW.mono hB.size)).setCell (p := ⟨w.heap.size + 1 + 1, x.1, none⟩) (by simp; omega) _⟩
      rw [show (pre ++ [x]).length = pre.length + 1 by simp]
      exact HT.out.step (v := doV k1 za zb) (fun cur2 e2 => blk_setCell ((hbW.block (w.heap.size + 1 + 1) hT1).trans e2) _) (by unfold bdV; omega) (HGB.out) (fun hp s2 hs2 => by rw [hs2.eq hs]; exact HGE.out hp)
  case done =>
    rintro D ys W hD rfl ⟨⟨b0, b1, b3, bT, hsz⟩, hB⟩ hK
    have c3 := b3.cell
    obtain ⟨cur, u1, u2, u3, u4⟩ := bT
    have HU4 := hide u4
    clear u4
    gi_wp2_with fail
    refine ⟨by simp, .inl ⟨_, _, rfl, run_takeDeferred hK, ?_⟩⟩
    have k1 := blk_cells u1 (grownBy_putObj' _ D (.deferred none)) (fun r e => by cases e; exact ⟨_, hK, rfl⟩)
    refine ⟨_, results_tmp rfl _ _ _, _, rfl, (Array.getElem?_eq_some_iff.1 k1).1, fun i s hs => (cell_of_blk k1 i).trans (HU4.out (List.prefix_refl _) ⟨i, hs.lt'⟩ (by simp) s hs), hB.trans (belowK_b (w := w) (Nat.le_refl _) W D _ _ (by omega) hK rfl rfl)⟩
  case stop =>
    rintro D c pre W _ _ h _
    exact h.elim

end Go.Proofs.Ytiphcjbmoekkkaa.L

/-
  Types in the place of a type's variables, by the specification: contracts of l5Instance and IsInstance. Conditions: at most 1048576 cells.
-/
import Derived.Test.YtjffignbiabmaabTyEb
import Derived.Test.YtjffignbiabmaabTyN
namespace Go.Proofs.Ytjffignbiabmaab.Y
open Go.Proofs.Ytjffignbiabmaab.W
open Go.ChangeShapes Go.WideShapes Go.ChangeAt Go.RowKit
set_option linter.unusedVariables false

theorem infoBo : (Try.prog.info? 4).map (fun i => (i.zero, i.size, i.bytes)) = some (some (.bool false), 1, 1) := by kernel_rfl
theorem mkT (w : World) : (Instr.makeSlice 62 (.int .i64 31) (.int .i64 31)).run Try.prog w = .ok (.slice (some ⟨w.heap.size, 0, none⟩) 31 31) (w.alloc (.cells (madeCells #[.int .i64 0, .int .i64 0, .slice none 0 0] 93) 64)) := by
  obtain ⟨i, hi, hz, hs, hb⟩ := infoPartsT infoT
  have := run_make (P := Try.prog) w 62 64 i _ Try.underlying62 hi hz .i64 .i64 31 31 (by omega) (Int.le_refl _) (by rw [hb]; omega) (by omega)
  rw [hs, show (Value.agg #[.int .i64 0, .int .i64 0, .slice none 0 0]).cells = #[.int .i64 0, .int .i64 0, .slice none 0 0] from by simp [Value.cells]] at this
  simpa using this
theorem mkB (w : World) : (Instr.makeSlice 111 (.int .i64 31) (.int .i64 31)).run Try.prog w = .ok (.slice (some ⟨w.heap.size, 0, none⟩) 31 31) (w.alloc (.cells (madeCells #[.bool false] 31) 4)) := by
  obtain ⟨i, hi, hz, hs, hb⟩ := infoPartsT infoBo
  have := run_make (P := Try.prog) w 111 4 i _ Try.underlying111 hi hz .i64 .i64 31 31 (by omega) (Int.le_refl _) (by rw [hb]; omega) (by omega)
  rw [hs, show (Value.bool false).cells = #[.bool false] from by simp [Value.cells]] at this
  simpa using this
def oT : Obj := .cells (madeCells #[.int .i64 0, .int .i64 0, .slice none 0 0] 93) 64
def oB : Obj := .cells (madeCells #[.bool false] 31) 4
theorem made_b (n : Nat) (hn : n < 31) : (madeCells #[.bool false] 31)[n]? = some (.bool false) := by
  have : (madeCells #[.bool false] 31) = Array.replicate 31 (.bool false) := by kernel_rfl
  rw [this]; simp [hn]
theorem ST.made {w : World} {H K : Nat} (h1 : w.heap[H]? = some oT) (h2 : w.heap[K]? = some oB) : ST w H K noS := by
  refine ⟨⟨_, h1, by decide +kernel⟩, ⟨_, h2, by decide +kernel⟩, fun n hn => ?_, fun n hn v hv => by cases hv⟩
  rw [cell_of_blk h2, made_b n hn]
  rfl

theorem ot_two {w0 wa : World} {o1 o2 : Obj} {H K : Nat} (h : Ot H K ((w0.alloc o1).alloc o2).drew wa) (hH : w0.heap.size ≤ H) (hK : w0.heap.size ≤ K) : Below w0.heap.size w0 wa := by
  have hs : w0.heap.size ≤ ((w0.alloc o1).alloc o2).heap.size := by simp; omega
  refine ⟨h.os, h.tape, h.output, Nat.le_trans hs h.size, fun k hk => ?_⟩
  rw [h.block k (Nat.lt_of_lt_of_le hk hs) (by omega) (by omega)]
  exact (heap_alloc_old (w0.alloc o1) o2 (by simp; omega)).trans (heap_alloc_old w0 o1 hk)

set_option maxRecDepth 20000 in
set_option maxHeartbeats 4000000 in
theorem l5Instance_any (x y : Cc) (ka kb : F) (s1 s2 : Value) (P1 P2 : Nat → Prop) (w : World) (hx : (F.cons x ka .nil).ok) (hy : (F.cons y kb .nil).ok) (hl1 : ka.flat.length ≤ 60) (hl2 : kb.flat.length ≤ 60) (hT1 : KidT w P1 ka s1) (hT2 : KidT w P2 kb s2) :
    Calls Try.prog 46 #[.agg #[.int .i64 x.k, .int .i64 x.n, s1], .agg #[.int .i64 y.k, .int .i64 y.n, s2]] w fun e w' => e = .returned (.bool (inst (.cons x ka .nil) (.cons y kb .nil))) ∧ Below w.heap.size w w' := by
  have hin : inst (.cons x ka .nil) (.cons y kb .nil) = (mt1 x ka y kb noS).isSome := by
    unfold inst
    rw [mtF_cons]
    cases mt1 x ka y kb noS <;> rfl
  rw [hin]
  clear hin
  have HC := hide (fun (H K : Nat) (w' : World) (hHK : H ≠ K) (hH : w.heap.size ≤ H) (hK : w.heap.size ≤ K) (hB : Below w.heap.size w w') (h1 : w'.heap[H]? = some oT) (h2 : w'.heap[K]? = some oB) => l5Match_any kb x y ka s1 s2 H K noS w' hx hy hl1 hl2 hHK (hT1.keep hB.size (fun g _ h2 => ⟨hB.block g h2, by omega, by omega⟩)) (hT2.keep hB.size (fun g _ h2 => ⟨hB.block g h2, by omega, by omega⟩)) (ST.made h1 h2))
  obtain ⟨ad1, c1, rfl⟩ := hT1.form
  obtain ⟨ad2, c2, rfl⟩ := hT2.form
  obtain ⟨K1, hK1⟩ : ∃ K1, K1 = ka.len := ⟨_, rfl⟩
  obtain ⟨K2, hK2⟩ : ∃ K2, K2 = kb.len := ⟨_, rfl⟩
  rw [← hK1, ← hK2] at HC ⊢
  clear hT1 hT2 hK1 hK2 hx hy
  obtain ⟨R, hR⟩ : ∃ R, R = (mt1 x ka y kb noS).isSome := ⟨_, rfl⟩
  rw [← hR] at HC ⊢
  clear hR
  go_enter Try.func46, Try.ntmps46
  go_wp2_with fail
  obtain ⟨w0, hw0⟩ : ∃ w0, w0 = (w.alloc (.cells #[.int .i64 x.k, .int .i64 x.n, .slice ad1 K1 c1] 64)).alloc (.cells #[.int .i64 y.k, .int .i64 y.n, .slice ad2 K2 c2] 64) := ⟨_, rfl⟩
  have hB0 : Below w.heap.size w w0 := by rw [hw0]; exact ((Below.refl _ _).alloc (Nat.le_refl _) _).alloc (by simp) _
  have hb1 : w0.heap[w.heap.size]? = some (.cells #[.int .i64 x.k, .int .i64 x.n, .slice ad1 K1 c1] 64) := by rw [hw0, heap_alloc_old _ _ (by simp)]; exact heap_alloc_new _ _
  have hb2 : w0.heap[w.heap.size + 1]? = some (.cells #[.int .i64 y.k, .int .i64 y.n, .slice ad2 K2 c2] 64) := by rw [hw0]; have := heap_alloc_new (w.alloc (.cells #[.int .i64 x.k, .int .i64 x.n, .slice ad1 K1 c1] 64)) (.cells #[.int .i64 y.k, .int .i64 y.n, .slice ad2 K2 c2] 64); simpa using this
  have hsz0 : w.heap.size + 1 < w0.heap.size := by rw [hw0]; simp
  rw [← hw0]
  have a0 : w0.cell? ⟨w.heap.size, 0, none⟩ = some (.int .i64 x.k) := (cell_of_blk hb1 0).trans rfl
  have a1 : w0.cell? ⟨w.heap.size, 1, none⟩ = some (.int .i64 x.n) := (cell_of_blk hb1 1).trans rfl
  have a2 : w0.cell? ⟨w.heap.size, 2, none⟩ = some (.slice ad1 K1 c1) := (cell_of_blk hb1 2).trans rfl
  have a3 : w0.cell? ⟨w.heap.size + 1, 0, none⟩ = some (.int .i64 y.k) := (cell_of_blk hb2 0).trans rfl
  have a4 : w0.cell? ⟨w.heap.size + 1, 1, none⟩ = some (.int .i64 y.n) := (cell_of_blk hb2 1).trans rfl
  have a5 : w0.cell? ⟨w.heap.size + 1, 2, none⟩ = some (.slice ad2 K2 c2) := (cell_of_blk hb2 2).trans rfl
  have HB0 := hide hB0
  have hBB : ∀ o1 o2 : Obj, Below w.heap.size w ((w0.alloc o1).alloc o2).drew := fun o1 o2 => belowDrew ((HB0.out.alloc (by omega) _).alloc (by simp; omega) _)
  have HBB := hide hBB
  have b1 : ∀ o1 o2 : Obj, ((w0.alloc o1).alloc o2).drew.heap[w0.heap.size]? = some o1 := fun o1 o2 => (heap_alloc_old (w0.alloc o1) o2 (by simp)).trans (heap_alloc_new w0 o1)
  have b2 : ∀ o1 o2 : Obj, ((w0.alloc o1).alloc o2).drew.heap[w0.heap.size + 1]? = some o2 := fun o1 o2 => by
    have := heap_alloc_new (w0.alloc o1) o2
    rw [World.size_alloc] at this
    exact this
  have HC1 := hide (HC.out w0.heap.size (w0.heap.size + 1) ((w0.alloc oT).alloc oB).drew (by omega) (by omega) (by omega) (HBB.out _ _) (b1 _ _) (b2 _ _))
  have HC2 := hide (HC.out (w0.heap.size + 1) w0.heap.size ((w0.alloc oB).alloc oT).drew (by omega) (by omega) (by omega) (HBB.out _ _) (b2 _ _) (b1 _ _))
  have h1 := mkT
  have h2 := mkB
  clear hw0 hb1 hb2 hB0 hBB b1 b2 HC
  unfold oT oB at HC1 HC2
  go_region_held3 (fun w' => w'.cell? ⟨w.heap.size, 0, none⟩ = some (.int .i64 x.k) ∧ w'.cell? ⟨w.heap.size, 1, none⟩ = some (.int .i64 x.n) ∧ w'.cell? ⟨w.heap.size, 2, none⟩ = some (.slice ad1 K1 c1) ∧ w'.cell? ⟨w.heap.size + 1, 0, none⟩ = some (.int .i64 y.k) ∧ w'.cell? ⟨w.heap.size + 1, 1, none⟩ = some (.int .i64 y.n) ∧ w'.cell? ⟨w.heap.size + 1, 2, none⟩ = some (.slice ad2 K2 c2)) (go_keep)
    (first
      | (go_at_call 79; (with_reducible refine Calls.mono HC1.out ?_); rintro e wa ⟨rfl, hOa, -⟩; have hBa := ot_two hOa (by omega) (by omega); have HBa : Hid (Below w.heap.size w wa) := hide (HB0.out.trans (hBa.mono HB0.out.size)); have fa0 := (hBa.cell (p := ⟨w.heap.size, 0, none⟩) (by show w.heap.size < _; omega)).trans a0; have fa1 := (hBa.cell (p := ⟨w.heap.size, 1, none⟩) (by show w.heap.size < _; omega)).trans a1; have fa2 := (hBa.cell (p := ⟨w.heap.size, 2, none⟩) (by show w.heap.size < _; omega)).trans a2; have fa3 := (hBa.cell (p := ⟨w.heap.size + 1, 0, none⟩) (by show w.heap.size + 1 < _; omega)).trans a3; have fa4 := (hBa.cell (p := ⟨w.heap.size + 1, 1, none⟩) (by show w.heap.size + 1 < _; omega)).trans a4; have fa5 := (hBa.cell (p := ⟨w.heap.size + 1, 2, none⟩) (by show w.heap.size + 1 < _; omega)).trans a5; clear hOa hBa)
      | (go_at_call 79; (with_reducible refine Calls.mono HC2.out ?_); rintro e wa ⟨rfl, hOa, -⟩; have hBa := ot_two hOa (by omega) (by omega); have HBa : Hid (Below w.heap.size w wa) := hide (HB0.out.trans (hBa.mono HB0.out.size)); have fa0 := (hBa.cell (p := ⟨w.heap.size, 0, none⟩) (by show w.heap.size < _; omega)).trans a0; have fa1 := (hBa.cell (p := ⟨w.heap.size, 1, none⟩) (by show w.heap.size < _; omega)).trans a1; have fa2 := (hBa.cell (p := ⟨w.heap.size, 2, none⟩) (by show w.heap.size < _; omega)).trans a2; have fa3 := (hBa.cell (p := ⟨w.heap.size + 1, 0, none⟩) (by show w.heap.size + 1 < _; omega)).trans a3; have fa4 := (hBa.cell (p := ⟨w.heap.size + 1, 1, none⟩) (by show w.heap.size + 1 < _; omega)).trans a4; have fa5 := (hBa.cell (p := ⟨w.heap.size + 1, 2, none⟩) (by show w.heap.size + 1 < _; omega)).trans a5; clear hOa hBa))
  all_goals
    go_wp2_with fail
    go_ret
    exact ⟨rfl, HBa.out⟩

set_option maxRecDepth 20000 in
set_option maxHeartbeats 4000000 in
theorem specInst_any (ad1 ad2 : Option Addr) (c1 c2 : Nat) (la lb : List Cc) (w : World) (hl1 : la.length ≤ 1048576) (hl2 : lb.length ≤ 1048576) (h1 : CRow w ad1 la) (h2 : CRow w ad2 lb) :
    Calls Try.prog 22 #[.slice ad1 la.length c1, .slice ad2 lb.length c2] w fun e w' => e = .returned (.tuple #[.bool (insR la lb), .bool (goodT la && goodT lb)]) ∧ Below w.heap.size w w' := by
  have HC1 := hide (l5Tree_any ad1 c1 la w hl1 h1)
  have HC2 := hide (fun (w' : World) (hb : Below w.heap.size w w') => l5Tree_any ad2 c2 lb w' hl2 (h2.below hb))
  clear h1 h2
  cases hA : treeT la with
  | none =>
    have hga : goodT la = false := by unfold goodT; rw [hA]; rfl
    have hr : insR la lb = false := by unfold insR; rw [hA]
    rw [hA] at HC1
    rw [hga, hr, Bool.false_and]
    clear hA hga hr
    go_enter Try.func22, Try.ntmps22
    go_wp2_with fail
    refine Calls.mono HC1.out ?_
    rintro e w1 ⟨hb1, k, n, sad, sn, sc, rfl⟩
    have hB1 : Below w.heap.size w (w1.alloc (.cells #[.int .i64 k, .int .i64 n, .slice sad sn sc] 64)) := hb1.alloc hb1.size _
    have HC3 := hide (HC2.out _ hB1)
    clear HC2
    go_wp2_with fail
    refine Calls.mono HC3.out ?_
    rintro e w2 ⟨hb2, ho2⟩
    obtain ⟨k2, n2, sad2, sn2, sc2, ok2, he2⟩ : ∃ (k n : Int) (sad : Option Addr) (sn sc : Nat) (ok : Bool), e = .returned (.tuple #[.agg #[.int .i64 k, .int .i64 n, .slice sad sn sc], .bool ok]) := by
      cases hT : treeT lb with
      | none => rw [hT] at ho2; obtain ⟨k, n, sad, sn, sc, rfl⟩ := ho2; exact ⟨_, _, _, _, _, _, rfl⟩
      | some b =>
        rw [hT] at ho2
        obtain ⟨x', k', s', -, rfl, hTr⟩ := ho2
        obtain ⟨a', c', rfl⟩ := hTr.form
        exact ⟨_, _, _, _, _, _, rfl⟩
    subst he2
    clear ho2
    go_wp2_with fail
    exact bodyPost_ret (v := .tuple #[.bool false, .bool false]) (by simp [results, Try.results22, go_sem]) rfl ⟨rfl, (hB1.trans (hb2.mono hB1.size)).alloc (Nat.le_trans hB1.size hb2.size) _⟩
  | some a0 =>
    have hga : goodT la = true := by unfold goodT; rw [hA]; rfl
    obtain ⟨t1, t2, t3, t4, -⟩ := treeT_flat hA
    obtain ⟨x, ka, rfl⟩ := F.len_1 t3
    have hkf1 : ka.flat.length ≤ 60 := by rw [t1] at t4; simp [F.flat] at t4; omega
    rw [hA] at HC1
    cases hBt : treeT lb with
    | none =>
      have hgb : goodT lb = false := by unfold goodT; rw [hBt]; rfl
      have hr : insR la lb = false := by unfold insR; rw [hA, hBt]
      rw [hBt] at HC2
      rw [hga, hgb, hr, Bool.true_and]
      clear hA hga hgb hr hBt t1 t2 t3 t4
      go_enter Try.func22, Try.ntmps22
      go_wp2_with fail
      refine Calls.mono HC1.out ?_
      rintro e w1 ⟨hb1, x', k', s1, he1, rfl, hT1⟩
      obtain ⟨sad, sc, rfl⟩ := hT1.form
      have hB1 : Below w.heap.size w (w1.alloc (.cells #[.int .i64 x'.k, .int .i64 x'.n, .slice sad k'.len sc] 64)) := hb1.alloc hb1.size _
      have HC3 := hide (HC2.out _ hB1)
      clear HC2 he1 hT1
      go_wp2_with fail
      refine Calls.mono HC3.out ?_
      rintro e w2 ⟨hb2, k2, n2, sad2, sn2, sc2, rfl⟩
      go_wp2_with fail
      exact bodyPost_ret (v := .tuple #[.bool false, .bool false]) (by simp [results, Try.results22, go_sem]) rfl ⟨rfl, (hB1.trans (hb2.mono hB1.size)).alloc (Nat.le_trans hB1.size hb2.size) _⟩
    | some b0 =>
      have hgb : goodT lb = true := by unfold goodT; rw [hBt]; rfl
      have hr : insR la lb = inst (.cons x ka .nil) b0 := by unfold insR; rw [hA, hBt]
      obtain ⟨u1, u2, u3, u4, -⟩ := treeT_flat hBt
      obtain ⟨y, kb, rfl⟩ := F.len_1 u3
      have hkf2 : kb.flat.length ≤ 60 := by rw [u1] at u4; simp [F.flat] at u4; omega
      rw [hBt] at HC2
      rw [hga, hgb, hr, Bool.true_and]
      have HD := hide (fun (s1 s2 : Value) (P1 P2 : Nat → Prop) (w' : World) (h1 : KidT w' P1 ka s1) (h2 : KidT w' P2 kb s2) => l5Instance_any x y ka kb s1 s2 P1 P2 w' t2 u2 hkf1 hkf2 h1 h2)
      obtain ⟨R, hR⟩ : ∃ R, R = inst (.cons x ka .nil) (.cons y kb .nil) := ⟨_, rfl⟩
      rw [← hR] at HD ⊢
      clear hA hga hgb hr hBt t1 t2 t3 t4 u1 u2 u3 u4 hR hkf1 hkf2
      go_enter Try.func22, Try.ntmps22
      go_wp2_with fail
      refine Calls.mono HC1.out ?_
      rintro e w1 ⟨hb1, x', k', s1, he1, rfl, hT1⟩
      simp only [F.cons.injEq, and_true] at he1
      obtain ⟨rfl, rfl⟩ := he1
      have hT1w := hT1
      obtain ⟨sad, sc, rfl⟩ := hT1.form
      obtain ⟨K1, hK1⟩ : ∃ K1, K1 = ka.len := ⟨_, rfl⟩
      rw [← hK1] at hT1 ⊢
      have hB1 : Below w.heap.size w (w1.alloc (.cells #[.int .i64 x.k, .int .i64 x.n, .slice sad K1 sc] 64)) := hb1.alloc hb1.size _
      have HC3 := hide (HC2.out _ hB1)
      have HT1 := hide (hT1.below ((Below.refl w1.heap.size w1).alloc (Nat.le_refl _) (.cells #[.int .i64 x.k, .int .i64 x.n, .slice sad K1 sc] 64)))
      clear HC2 hT1 hT1w hK1
      go_wp2_with fail
      refine Calls.mono HC3.out ?_
      rintro e w2 ⟨hb2, y', k2, s2, he2, rfl, hT2⟩
      simp only [F.cons.injEq, and_true] at he2
      obtain ⟨rfl, rfl⟩ := he2
      obtain ⟨sad2, sc2, rfl⟩ := hT2.form
      obtain ⟨K2, hK2⟩ : ∃ K2, K2 = kb.len := ⟨_, rfl⟩
      rw [← hK2] at hT2 ⊢
      have hB2 : Below w.heap.size w (w2.alloc (.cells #[.int .i64 y.k, .int .i64 y.n, .slice sad2 K2 sc2] 64)) := (hB1.trans (hb2.mono hB1.size)).alloc (Nat.le_trans hB1.size hb2.size) _
      have c0 : w2.heap[w1.heap.size]? = some (.cells #[.int .i64 x.k, .int .i64 x.n, .slice sad K1 sc] 64) := (hb2.block _ (by simp)).trans (heap_alloc_new w1 _)
      have hlt : w1.heap.size < w2.heap.size := (Array.getElem?_eq_some_iff.1 c0).1
      have a0 : w2.cell? ⟨w1.heap.size, 0, none⟩ = some (.int .i64 x.k) := (cell_of_blk c0 0).trans rfl
      have a1 : w2.cell? ⟨w1.heap.size, 1, none⟩ = some (.int .i64 x.n) := (cell_of_blk c0 1).trans rfl
      have a2 : w2.cell? ⟨w1.heap.size, 2, none⟩ = some (.slice sad K1 sc) := (cell_of_blk c0 2).trans rfl
      have HD1 := hide (HD.out _ _ _ _ (w2.alloc (.cells #[.int .i64 y.k, .int .i64 y.n, .slice sad2 K2 sc2] 64)) ((HT1.out.below hb2).below ((Below.refl _ _).alloc (Nat.le_refl _) _)) (hT2.below ((Below.refl _ _).alloc (Nat.le_refl _) _)))
      clear HD hT2 hK2 hb2 c0 HC3
      go_wp2_with fail
      refine Calls.mono HD1.out ?_
      rintro e w3 ⟨rfl, hb3⟩
      go_wp2_with fail
      exact bodyPost_ret (v := .tuple #[.bool R, .bool true]) (by simp [results, Try.results22, go_sem]) rfl ⟨rfl, hB2.trans (hb3.mono hB2.size)⟩
end Go.Proofs.Ytjffignbiabmaab.Y

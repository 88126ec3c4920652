/-
  PlacesFor and ValueOf, the program's and the specification's: contracts. Conditions: at most 1048576 cells.
-/
import Derived.Test.YtiphcjbmoekkkaaPlX
namespace Go.Proofs.Ytiphcjbmoekkkaa.L
open Go.Proofs.Ytiphcjbmoekkkaa.W
open Go.ChangeShapes Go.WideShapes Go.ChangeAt Go.RowKit
set_option linter.unusedVariables false

/-- The tree that a good row is. -/
noncomputable def trOf (l : List Cc) : Tr := if h : goodT l = true then Classical.choose (good_tr h) else .ld 0
theorem trOf_good {l : List Cc} (h : goodT l = true) : (trOf l).ok ∧ l = (trOf l).flat ∧ l.length ≤ 40 ∧ treeT l = some (.cons (trOf l).x (trOf l).k .nil) := by
  unfold trOf
  rw [dif_pos h]
  exact Classical.choose_spec (good_tr h)
noncomputable def pvR (l : List Cc) : Int := if goodT l = true then (trOf l).pv else 0
noncomputable def vlR (l : List Cc) : Int := if goodT l = true then (trOf l).val else 0

set_option maxHeartbeats 1000000 in
theorem implPlaces_any (b o c : Nat) (l : List Cc) (w : World) (hl : l.length ≤ 1048576) (hc : l.length ≤ c) (h : CRow w (some ⟨b, o, none⟩) l) :
    Calls Try.prog 15 #[.slice (some ⟨b, o, none⟩) l.length c] w fun e w' => e = .returned (.tuple #[.int .i64 (pvR l), .bool (goodT l)]) ∧ Below w.heap.size w w' := by
  have HG := hide (implGoodT_any b o c l w hl hc h)
  cases hg : goodT l with
  | false =>
    have hr : pvR l = 0 := by unfold pvR; rw [if_neg (by rw [hg]; simp)]
    rw [hr]
    rw [hg] at HG
    clear hr h
    go_enter Try.func15, Try.ntmps15
    go_wp2_with fail
    refine HG.out.mono ?_
    rintro e w1 ⟨rfl, hb1⟩
    go_wp2_with fail
    exact bodyPost_ret (v := .tuple #[.int .i64 0, .bool false]) (by simp [results, Try.results15, go_sem]) rfl ⟨rfl, hb1⟩
  | true =>
    have hr : pvR l = Tr.pv (trOf l) := by unfold pvR; rw [if_pos hg]
    rw [hr]
    rw [hg] at HG
    obtain ⟨t1, t2, t3, -⟩ := trOf_good hg
    have hrow : CRowAt w b o l := by
      rcases h with h | ⟨b', o', e, h⟩
      · have := (trOf l).flat_pos; rw [← t2, h] at this; simp at this
      · simp only [Option.some.injEq, Addr.mk.injEq, and_true] at e
        obtain ⟨rfl, rfl⟩ := e
        exact h
    have hs0 : Sub l 0 (trOf l) := by have := Sub.root t1; rwa [← t2] at this
    have HT := hide (fun (w' : World) (hb : Below w.heap.size w w') => placesBy_told b o c l (trOf l) w' t1 t2 t3 hc ⟨Nat.lt_of_lt_of_le hrow.1 hb.size, fun i hi => ⟨(hb.cell (p := ⟨b, o + i * 2, none⟩) hrow.1).trans (hrow.2 i hi).1, (hb.cell (p := ⟨b, o + i * 2 + 1, none⟩) hrow.1).trans (hrow.2 i hi).2⟩⟩)
    have hpos : (0 : Int) < (l.length : Int) := by have := hs0.lt'; omega
    have HS := hide hs0
    clear hs0 hrow t1 t2 t3 hr h
    go_enter Try.func15, Try.ntmps15
    go_wp2_with fail
    refine HG.out.mono ?_
    rintro e w1 ⟨rfl, hb1⟩
    go_wp2_with fail
    refine (HT.out w1 hb1).mono ?_
    rintro e w2 ⟨g, rfl, hg2, hc2, hb2⟩
    have c0 := hc2 0 _ HS.out
    have hB2 : Below w.heap.size w w2 := hb1.trans (hb2.mono hb1.size)
    clear hc2 hb2 hb1
    go_wp2_with fail
    exact bodyPost_ret (v := .tuple #[.int .i64 (Tr.pv (trOf l)), .bool true]) (by simp [results, Try.results15, go_sem]) rfl ⟨rfl, hB2⟩

set_option maxHeartbeats 1000000 in
theorem implValue_any (b o c : Nat) (l : List Cc) (w : World) (hl : l.length ≤ 1048576) (hc : l.length ≤ c) (h : CRow w (some ⟨b, o, none⟩) l) :
    Calls Try.prog 32 #[.slice (some ⟨b, o, none⟩) l.length c] w fun e w' => e = .returned (.tuple #[.int .i64 (vlR l), .bool (goodT l)]) ∧ Below w.heap.size w w' := by
  have HG := hide (implGoodT_any b o c l w hl hc h)
  cases hg : goodT l with
  | false =>
    have hr : vlR l = 0 := by unfold vlR; rw [if_neg (by rw [hg]; simp)]
    rw [hr]
    rw [hg] at HG
    clear hr h
    go_enter Try.func32, Try.ntmps32
    go_wp2_with fail
    refine HG.out.mono ?_
    rintro e w1 ⟨rfl, hb1⟩
    go_wp2_with fail
    exact bodyPost_ret (v := .tuple #[.int .i64 0, .bool false]) (by simp [results, Try.results32, go_sem]) rfl ⟨rfl, hb1⟩
  | true =>
    have hr : vlR l = Tr.val (trOf l) := by unfold vlR; rw [if_pos hg]
    rw [hr]
    rw [hg] at HG
    obtain ⟨t1, t2, t3, -⟩ := trOf_good hg
    have hrow : CRowAt w b o l := by
      rcases h with h | ⟨b', o', e, h⟩
      · have := (trOf l).flat_pos; rw [← t2, h] at this; simp at this
      · simp only [Option.some.injEq, Addr.mk.injEq, and_true] at e
        obtain ⟨rfl, rfl⟩ := e
        exact h
    have hs0 : Sub l 0 (trOf l) := by have := Sub.root t1; rwa [← t2] at this
    have HT := hide (fun (w' : World) (hb : Below w.heap.size w w') => valueBy_told b o c l (trOf l) w' t1 t2 t3 hc ⟨Nat.lt_of_lt_of_le hrow.1 hb.size, fun i hi => ⟨(hb.cell (p := ⟨b, o + i * 2, none⟩) hrow.1).trans (hrow.2 i hi).1, (hb.cell (p := ⟨b, o + i * 2 + 1, none⟩) hrow.1).trans (hrow.2 i hi).2⟩⟩)
    have hpos : (0 : Int) < (l.length : Int) := by have := hs0.lt'; omega
    have HS := hide hs0
    clear hs0 hrow t1 t2 t3 hr h
    go_enter Try.func32, Try.ntmps32
    go_wp2_with fail
    refine HG.out.mono ?_
    rintro e w1 ⟨rfl, hb1⟩
    go_wp2_with fail
    refine (HT.out w1 hb1).mono ?_
    rintro e w2 ⟨g, rfl, hg2, hc2, hb2⟩
    have c0 := hc2 0 _ HS.out
    have hB2 : Below w.heap.size w w2 := hb1.trans (hb2.mono hb1.size)
    clear hc2 hb2 hb1
    go_wp2_with fail
    exact bodyPost_ret (v := .tuple #[.int .i64 (Tr.val (trOf l)), .bool true]) (by simp [results, Try.results32, go_sem]) rfl ⟨rfl, hB2⟩

set_option maxHeartbeats 1000000 in
theorem specPlaces_any (ad : Option Addr) (c : Nat) (l : List Cc) (w : World) (hl : l.length ≤ 1048576) (h : CRow w ad l) :
    Calls Try.prog 14 #[.slice ad l.length c] w fun e w' => e = .returned (.tuple #[.int .i64 (pvR l), .bool (goodT l)]) ∧ Below w.heap.size w w' := by
  cases hg : goodT l with
  | false =>
    have hr : pvR l = 0 := by unfold pvR; rw [if_neg (by rw [hg]; simp)]
    rw [hr]
    have HT := hide (l13Tree_bad ad c l w hl h hg)
    clear hr h
    go_enter Try.func14, Try.ntmps14
    go_wp2_with fail
    refine HT.out.mono ?_
    rintro e w1 ⟨hb1, k, n, p, sad, sn, sc, rfl⟩
    go_wp2_with fail
    exact bodyPost_ret (v := .tuple #[.int .i64 0, .bool false]) (by simp [results, Try.results14, go_sem]) rfl ⟨rfl, hb1.alloc hb1.size _⟩
  | true =>
    have hr : pvR l = Tr.pv (trOf l) := by unfold pvR; rw [if_pos hg]
    rw [hr]
    obtain ⟨t1, t2, t3, t4⟩ := trOf_good hg
    have HT := hide (l13Tree_tr ad c l w hl h (trOf l) t4)
    have ht5 : (trOf l).flat.length ≤ 1048576 := by rw [← t2]; exact hl
    obtain ⟨T, hTe⟩ : ∃ T, T = trOf l := ⟨_, rfl⟩
    rw [← hTe] at HT t1 ht5 ⊢
    clear hr h t2 t3 t4 hTe
    go_enter Try.func14, Try.ntmps14
    go_wp2_with fail
    refine HT.out.mono ?_
    rintro e w1 ⟨hb1, v, rfl, hv⟩
    have HV := hide hv
    obtain ⟨ad1, l1, c1, rfl⟩ := hv.form
    clear hv
    have hB2 : ∀ B, Below w.heap.size w (w1.alloc B) := fun B => hb1.alloc hb1.size _
    have HB2 := hide hB2
    clear hB2
    go_wp2_with fail
    refine Calls.mono (l13Places_any T 0 _ _ _ t1 ht5 (HV.out.below ((Below.refl _ _).alloc (Nat.le_refl _) _))) ?_
    rintro e w2 ⟨rfl, hb2⟩
    have hB3 := (HB2.out _).trans (hb2.mono (HB2.out _).size)
    go_wp2_with fail
    exact bodyPost_ret (v := .tuple #[.int .i64 (Tr.pv T), .bool true]) (by simp [results, Try.results14, go_sem]; try rfl) rfl ⟨rfl, hB3⟩

set_option maxHeartbeats 1000000 in
theorem specValue_any (ad : Option Addr) (c : Nat) (l : List Cc) (w : World) (hl : l.length ≤ 1048576) (h : CRow w ad l) :
    Calls Try.prog 31 #[.slice ad l.length c] w fun e w' => e = .returned (.tuple #[.int .i64 (vlR l), .bool (goodT l)]) ∧ Below w.heap.size w w' := by
  cases hg : goodT l with
  | false =>
    have hr : vlR l = 0 := by unfold vlR; rw [if_neg (by rw [hg]; simp)]
    rw [hr]
    have HT := hide (l13Tree_bad ad c l w hl h hg)
    clear hr h
    go_enter Try.func31, Try.ntmps31
    go_wp2_with fail
    refine HT.out.mono ?_
    rintro e w1 ⟨hb1, k, n, p, sad, sn, sc, rfl⟩
    go_wp2_with fail
    exact bodyPost_ret (v := .tuple #[.int .i64 0, .bool false]) (by simp [results, Try.results31, go_sem]) rfl ⟨rfl, hb1.alloc hb1.size _⟩
  | true =>
    have hr : vlR l = Tr.val (trOf l) := by unfold vlR; rw [if_pos hg]
    rw [hr]
    obtain ⟨t1, t2, t3, t4⟩ := trOf_good hg
    have HT := hide (l13Tree_tr ad c l w hl h (trOf l) t4)
    have ht5 : (trOf l).flat.length ≤ 1048576 := by rw [← t2]; exact hl
    obtain ⟨T, hTe⟩ : ∃ T, T = trOf l := ⟨_, rfl⟩
    rw [← hTe] at HT t1 ht5 ⊢
    clear hr h t2 t3 t4 hTe
    go_enter Try.func31, Try.ntmps31
    go_wp2_with fail
    refine HT.out.mono ?_
    rintro e w1 ⟨hb1, v, rfl, hv⟩
    have HV := hide hv
    obtain ⟨ad1, l1, c1, rfl⟩ := hv.form
    clear hv
    have hB2 : ∀ B, Below w.heap.size w (w1.alloc B) := fun B => hb1.alloc hb1.size _
    have HB2 := hide hB2
    clear hB2
    go_wp2_with fail
    refine Calls.mono (l13Value_any T 0 _ _ _ t1 (HV.out.below ((Below.refl _ _).alloc (Nat.le_refl _) _))) ?_
    rintro e w2 ⟨rfl, hb2⟩
    have hB3 := (HB2.out _).trans (hb2.mono (HB2.out _).size)
    go_wp2_with fail
    exact bodyPost_ret (v := .tuple #[.int .i64 (Tr.val T), .bool true]) (by simp [results, Try.results31, go_sem]; try rfl) rfl ⟨rfl, hB3⟩

end Go.Proofs.Ytiphcjbmoekkkaa.L

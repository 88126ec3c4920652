/-
  The text of an expression: contracts of both ExprText. Conditions: at most 1048576 parts; texts of at most 1048576 bytes; the tables read as their texts lay them.
-/
import Derived.Test.YtjffignbiabmaaaDoorXtX
namespace Go.Proofs.YtjffignbiabmaaaDoor.W.T
open Go.ChangeShapes Go.WideShapes Go.ChangeAt Go.RowKit
set_option linter.unusedVariables false

/-- What ExprText tells. -/
def xtT (l : List Xx) : ByteArray × Bool := match treeE l with
  | none => (⟨#[]⟩, false)
  | some e => (joinS (tks e 1), joinOk (tks e 1))
theorem xt_all {e : E} (h : e.ok) : (tks e 1).all goodT = true := by
  rw [List.all_eq_true]; exact tks_good e 1 h
theorem tk_size {x : Tk} (h : goodT x = true) : x.t.size ≤ 1048576 := by
  have h2 := txt_size (show goodB x.k x.n x.t x.a = true from h)
  unfold txtOf at h2
  split at h2
  · rename_i hk
    have h' : goodB x.k x.n x.t x.a = true := h
    simp [goodB, hk] at h'
    have := h'.2.2
    have e : x.t.toList.length = 0 := by rw [this]; rfl
    have e2 : x.t.size = x.t.toList.length := by rw [Lib.toList_data, Array.length_toList]; rfl
    omega
  · omega

set_option maxRecDepth 20000 in
set_option maxHeartbeats 2000000 in
theorem implText_any (ad : Option Addr) (c : Nat) (l : List Xx) (w : World) (hl : l.length ≤ 1048576) (hs : ∀ x ∈ l, x.t.size ≤ 1048576) (hR : W.Row w ad l) (hS : SgTab w) (hT : Tab w) :
    Calls Tryd.prog 22 #[.slice ad l.length c] w fun e w' => e = .returned (.tuple #[.string (xtT l).1, .bool (xtT l).2]) ∧ Below w.heap.size w w' := by
  have HG := hide (implGoodE_any ad c l w hl hs hR hS)
  rw [goodE_tree] at HG
  cases hTr : treeE l with
  | none =>
    rw [hTr] at HG
    have e1 : xtT l = (⟨#[]⟩, false) := by unfold xtT; rw [hTr]
    rw [e1]
    simp only [Option.isSome_none] at HG
    clear hR hS hT hs e1
    go_enter Tryd.func22, Tryd.ntmps22
    go_wp2_with fail
    refine Calls.mono HG.out ?_
    rintro e w1 ⟨rfl, hb1⟩
    go_wp2_with fail
    exact bodyPost_ret (v := .tuple #[.string ⟨#[]⟩, .bool false]) (by simp [results, Tryd.results22, go_sem]) rfl ⟨rfl, hb1⟩
  | some t =>
    rw [hTr] at HG
    obtain ⟨u1, u2, u3, -⟩ := treeE_flat hTr
    have e1 : xtT l = (joinS (tks t 1), joinOk (tks t 1)) := by unfold xtT; rw [hTr]
    rw [e1]
    simp only [Option.isSome_some] at HG
    have HC := hide (fun (w' : World) (hb : Below w.heap.size w w') => tokensAt_any ad c l u3 t u2 1 0 [] w' (hR.below hb) (hS.below hb) (by rw [List.drop_zero, List.append_nil]; exact u1))
    have htl := (tks_len t 1).1
    have hll : t.flat.length ≤ 40 := by rw [← u1]; exact u3
    have HJ := hide (fun (ad' : Option Addr) (c' : Nat) (w' : World) (hb : Below w.heap.size w w') (h : Row w' ad' (tks t 1)) => implJoin_any ad' c' (tks t 1) w' (by omega) (fun x hx => tk_size (tks_good t 1 u2 x hx)) h (hT.below hb))
    unfold TAOut at HC
    obtain ⟨L, hL⟩ : ∃ L, L = tks t 1 := ⟨_, rfl⟩
    rw [← hL] at HC HJ ⊢
    obtain ⟨P, hP⟩ : ∃ P : Nat, P = 0 + t.flat.length := ⟨_, rfl⟩
    rw [← hP] at HC
    clear hR hS hT hs e1 hTr u1 u2 u3 htl hll hL hP
    go_enter Tryd.func22, Tryd.ntmps22
    go_wp2_with fail
    refine Calls.mono HG.out ?_
    rintro e w1 ⟨rfl, hb1⟩
    go_wp2_with fail
    refine Calls.mono (HC.out _ hb1) ?_
    rintro e w2 ⟨v2, rfl, hown2, hb2⟩
    obtain ⟨ad2, c2, rfl, hR2⟩ := own_row hown2 rfl rfl
    have hB2 : Below w.heap.size w w2 := hb1.trans (hb2.mono hb1.size)
    have HR2 := hide hR2
    clear hown2 hb2 hR2
    go_wp2_with fail
    refine Calls.mono (HJ.out _ _ _ hB2 HR2.out) ?_
    rintro e w3 ⟨rfl, hb3⟩
    go_wp2_with fail
    exact bodyPost_ret (v := .tuple #[.string (joinS L), .bool (joinOk L)]) (by simp [results, Tryd.results22, go_sem]) rfl ⟨rfl, hB2.trans (hb3.mono hB2.size)⟩

set_option maxRecDepth 20000 in
set_option maxHeartbeats 2000000 in
theorem specText_any (ad : Option Addr) (c : Nat) (l : List Xx) (w : World) (hl : l.length ≤ 1048576) (hs : ∀ x ∈ l, x.t.size ≤ 1048576) (hR : W.Row w ad l) :
    Calls Tryd.prog 20 #[.slice ad l.length c] w fun e w' => e = .returned (.tuple #[.string (xtT l).1, .bool (xtT l).2]) ∧ Below w.heap.size w w' := by
  have HG := hide (l2Tree_any ad c l w hl hs hR)
  cases hTr : treeE l with
  | none =>
    rw [hTr] at HG
    have e1 : xtT l = (⟨#[]⟩, false) := by unfold xtT; rw [hTr]
    rw [e1]
    clear hR hs e1
    go_enter Tryd.func20, Tryd.ntmps20
    go_wp2_with fail
    refine Calls.mono HG.out ?_
    rintro e w1 ⟨hb1, k, n, t, sad, sn, sc, rfl⟩
    go_wp2_with fail
    exact bodyPost_ret (v := .tuple #[.string ⟨#[]⟩, .bool false]) (by simp [results, Tryd.results20, go_sem]) rfl ⟨rfl, hb1.alloc hb1.size _⟩
  | some t =>
    rw [hTr] at HG
    obtain ⟨u1, u2, u3, -⟩ := treeE_flat hTr
    have e1 : xtT l = (joinS (tks t 1), joinOk (tks t 1)) := by unfold xtT; rw [hTr]
    rw [e1]
    have hll : t.flat.length ≤ 40 := by rw [← u1]; exact u3
    have hall := xt_all u2
    have htl := (tks_len t 1).1
    have HS1 : Hid (∀ (s : Value) (w1 w2 : World), TrK w1 w.heap.size t s → Below w1.heap.size w1 w2 → Calls Tryd.prog 53 #[.agg #[.int .i64 t.head.k, .int .i64 t.head.n, .string t.head.t, s], .int .i64 1, .slice none 0 0] w2 fun x w' => ∃ v', x = .returned v' ∧ (∃ ad' c', v' = .slice ad' (tks t 1).length c') ∧ Below w2.heap.size w2 w') := hide (fun s w1 w2 hT hb => by
      refine (l2Signs_any t u2 1 s (.slice none 0 0) w.heap.size w2.heap.size 0 [] w2 w2 (hT.below hb) (Below.refl _ _) (Nat.le_refl _) (Nat.le_refl _) (by omega) (World.ownsRow_nil _ _ _ _)).mono ?_
      rintro x w' ⟨v', rfl, ho, hg⟩
      obtain ⟨ad', c', rfl⟩ := xOwn_form ho
      rw [Nat.zero_add]
      exact ⟨_, rfl, ⟨_, _, rfl⟩, hg.below (Below.refl _ _) (Nat.le_refl _) (fun k hk => by simp [Value.ownBlock] at hk)⟩)
    have HTx : Hid (∀ (s : Value) (w1 w2 : World), TrK w1 w.heap.size t s → Below w1.heap.size w1 w2 → Calls Tryd.prog 54 #[.agg #[.int .i64 t.head.k, .int .i64 t.head.n, .string t.head.t, s]] w2 fun x w' => x = .returned (.string (joinTo (tks t 1) (tks t 1).length)) ∧ Below w2.heap.size w2 w') := hide (fun s w1 w2 hT hb => l2Text_any t u2 s w.heap.size w2 (hT.below hb) hll (tks t 1) rfl (fun i hi => tks_good t 1 u2 _ (List.getElem_mem hi)))
    obtain ⟨L, hL⟩ : ∃ L, L = tks t 1 := ⟨_, rfl⟩
    rw [← hL] at HS1 HTx hall htl ⊢
    have hlL : L.length ≤ 120 := by omega
    have hlL' : ¬ (120 : Int) < (L.length : Int) := by omega
    have hok : joinOk L = decide ((joinTo L L.length).size ≤ 300) := by unfold joinOk; rw [hall, decide_eq_true hlL]; rfl
    obtain ⟨J, hJ⟩ : ∃ J, J = joinTo L L.length := ⟨_, rfl⟩
    rw [← hJ] at HTx hok
    have hjs : joinS L = if joinOk L = true then J else ⟨#[]⟩ := by unfold joinS; rw [hJ]
    rw [hjs, hok]
    clear hR hs e1 hTr u1 u2 u3 hL htl hll hall hJ hjs hok
    obtain ⟨hd, hhd⟩ : ∃ hd, hd = t.head := ⟨_, rfl⟩
    by_cases h3 : J.size ≤ 300
    · have h3' : ¬ (300 : Int) < (J.size : Int) := by omega
      rw [decide_eq_true h3, if_pos rfl]
      clear h3
      go_enter Tryd.func20, Tryd.ntmps20
      go_wp2_with fail
      refine Calls.mono HG.out ?_
      rintro e w1 ⟨hb1, s1, rfl, hT1⟩
      have HT1 := hide hT1
      obtain ⟨sad, sn, sc, rfl⟩ := TrK.form hT1
      have HS2 := hide (fun (w2 : World) (hb : Below w1.heap.size w1 w2) => HS1.out (.slice sad sn sc) w1 w2 HT1.out hb)
      have HTx2 := hide (fun (w2 : World) (hb : Below w1.heap.size w1 w2) => HTx.out (.slice sad sn sc) w1 w2 HT1.out hb)
      clear hT1 HG HS1 HTx HT1
      rw [← hhd] at HS2 HTx2 ⊢
      clear hhd
      go_wp2_with fail
      have hbA : Below w1.heap.size w1 (w1.alloc (.cells #[.int .i64 hd.k, .int .i64 hd.n, .string hd.t, .slice sad sn sc] 79)) := (Below.refl _ _).alloc (Nat.le_refl _) _
      refine Calls.mono (HS2.out _ hbA) ?_
      rintro e w2 ⟨v2, rfl, ⟨ad2, c2, rfl⟩, hb2⟩
      have d0 : w2.cell? ⟨w1.heap.size, 0, none⟩ = some (.int .i64 hd.k) := (hb2.cell (p := ⟨w1.heap.size, 0, none⟩) (by simp)).trans (by rw [cell_of_blk (heap_alloc_new w1 _)]; rfl)
      have d1 : w2.cell? ⟨w1.heap.size, 1, none⟩ = some (.int .i64 hd.n) := (hb2.cell (p := ⟨w1.heap.size, 1, none⟩) (by simp)).trans (by rw [cell_of_blk (heap_alloc_new w1 _)]; rfl)
      have d2 : w2.cell? ⟨w1.heap.size, 2, none⟩ = some (.string hd.t) := (hb2.cell (p := ⟨w1.heap.size, 2, none⟩) (by simp)).trans (by rw [cell_of_blk (heap_alloc_new w1 _)]; rfl)
      have d3 : w2.cell? ⟨w1.heap.size, 3, none⟩ = some (.slice sad sn sc) := (hb2.cell (p := ⟨w1.heap.size, 3, none⟩) (by simp)).trans (by rw [cell_of_blk (heap_alloc_new w1 _)]; rfl)
      have hB12 : Below w1.heap.size w1 w2 := hbA.trans (hb2.mono (by simp))
      clear hb2 HS2 hbA
      go_wp2_with fail
      refine Calls.mono (HTx2.out _ hB12) ?_
      rintro e w3 ⟨rfl, hb3⟩
      have hB3 : Below w.heap.size w w3 := hb1.trans ((hB12.trans (hb3.mono hB12.size)).mono hb1.size)
      clear hb3 hB12 HTx2
      go_wp2_with fail
      exact bodyPost_ret (v := .tuple #[.string J, .bool true]) (by simp [results, Tryd.results20, go_sem]) rfl ⟨rfl, hB3⟩
    · have h3' : (300 : Int) < (J.size : Int) := by omega
      rw [decide_eq_false h3, if_neg (by decide)]
      clear h3
      go_enter Tryd.func20, Tryd.ntmps20
      go_wp2_with fail
      refine Calls.mono HG.out ?_
      rintro e w1 ⟨hb1, s1, rfl, hT1⟩
      have HT1 := hide hT1
      obtain ⟨sad, sn, sc, rfl⟩ := TrK.form hT1
      have HS2 := hide (fun (w2 : World) (hb : Below w1.heap.size w1 w2) => HS1.out (.slice sad sn sc) w1 w2 HT1.out hb)
      have HTx2 := hide (fun (w2 : World) (hb : Below w1.heap.size w1 w2) => HTx.out (.slice sad sn sc) w1 w2 HT1.out hb)
      clear hT1 HG HS1 HTx HT1
      rw [← hhd] at HS2 HTx2 ⊢
      clear hhd
      go_wp2_with fail
      have hbA : Below w1.heap.size w1 (w1.alloc (.cells #[.int .i64 hd.k, .int .i64 hd.n, .string hd.t, .slice sad sn sc] 79)) := (Below.refl _ _).alloc (Nat.le_refl _) _
      refine Calls.mono (HS2.out _ hbA) ?_
      rintro e w2 ⟨v2, rfl, ⟨ad2, c2, rfl⟩, hb2⟩
      have d0 : w2.cell? ⟨w1.heap.size, 0, none⟩ = some (.int .i64 hd.k) := (hb2.cell (p := ⟨w1.heap.size, 0, none⟩) (by simp)).trans (by rw [cell_of_blk (heap_alloc_new w1 _)]; rfl)
      have d1 : w2.cell? ⟨w1.heap.size, 1, none⟩ = some (.int .i64 hd.n) := (hb2.cell (p := ⟨w1.heap.size, 1, none⟩) (by simp)).trans (by rw [cell_of_blk (heap_alloc_new w1 _)]; rfl)
      have d2 : w2.cell? ⟨w1.heap.size, 2, none⟩ = some (.string hd.t) := (hb2.cell (p := ⟨w1.heap.size, 2, none⟩) (by simp)).trans (by rw [cell_of_blk (heap_alloc_new w1 _)]; rfl)
      have d3 : w2.cell? ⟨w1.heap.size, 3, none⟩ = some (.slice sad sn sc) := (hb2.cell (p := ⟨w1.heap.size, 3, none⟩) (by simp)).trans (by rw [cell_of_blk (heap_alloc_new w1 _)]; rfl)
      have hB12 : Below w1.heap.size w1 w2 := hbA.trans (hb2.mono (by simp))
      clear hb2 HS2 hbA
      go_wp2_with fail
      refine Calls.mono (HTx2.out _ hB12) ?_
      rintro e w3 ⟨rfl, hb3⟩
      have hB3 : Below w.heap.size w w3 := hb1.trans ((hB12.trans (hb3.mono hB12.size)).mono hb1.size)
      clear hb3 hB12 HTx2
      go_wp2_with fail
      exact bodyPost_ret (v := .tuple #[.string ⟨#[]⟩, .bool false]) (by simp [results, Tryd.results20, go_sem]) rfl ⟨rfl, hB3⟩
end Go.Proofs.YtjffignbiabmaaaDoor.W.T

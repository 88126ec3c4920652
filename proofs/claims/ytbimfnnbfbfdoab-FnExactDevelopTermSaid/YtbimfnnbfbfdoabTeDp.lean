/-
  The program's DevelopTerm. Conditions: at most 1048576 cells.
-/
import Derived.Test.YtbimfnnbfbfdoabTeDi
namespace Go.Proofs.Ytbimfnnbfbfdoab.W
open Go.ChangeShapes Go.WideShapes Go.ChangeAt Go.RowKit
set_option linter.unusedVariables false

/-- The cells of a term developed. -/
def dvR (l : List Cc) : Option (List Cc) := match treeT l with | some (.cons x k _) => (dv x k).map (fun p => p.1 :: p.2.flat) | _ => none

set_option maxRecDepth 20000 in
set_option maxHeartbeats 2000000 in
theorem implDevelop_good (ad : Option Addr) (c : Nat) (l : List Cc) (x : Cc) (k : F) (w : World) (hl : l.length ≤ 1048576) (hc : l.length ≤ c) (ht : treeT l = some (.cons x k .nil)) (h : CRow w ad l) :
    Calls Try.prog 12 #[.slice ad l.length c] w fun e w' => RS w (dvR l) e w' := by
  have hr : dvR l = (dv x k).map (fun p => p.1 :: p.2.flat) := by unfold dvR; rw [ht]
  have hg : goodT l = true := by unfold goodT; rw [ht]; rfl
  have HC := hide (implGoodT_any ad c l w hl h)
  rw [hg] at HC
  obtain ⟨e1, ho, -, e4, -⟩ := treeT_flat ht
  obtain ⟨g1, l1, o1, -⟩ := ho
  have hok : okT x k := ⟨g1, l1, o1⟩
  have e5 : l = x :: (k.flat ++ []) := by rw [e1]; simp [F.flat]
  obtain ⟨b, o, rfl, hrow⟩ : ∃ b o, ad = some ⟨b, o, none⟩ ∧ CRowAt w b o l := by
    rcases h with h0 | h0
    · rw [e5] at h0; cases h0
    · exact h0
  have e6 : (k.flat ++ []).length + 1 = l.length := by rw [e5]; simp
  have HDv := hide (fun (w' : World) (hb : Below w.heap.size w w') => developedAhead_any k x [] b o c w' hok (by omega) (by omega) (by rw [← e5]; exact hrow.below hb))
  rw [e6] at HDv
  rw [hr]
  have hk6 : k.flat.length + 1 ≤ 600 := by rw [e5] at e4; simpa using e4
  have HP6 := hide (fun p hv => dv_600 hok hk6 (p := p) hv)
  obtain ⟨D, hD⟩ : ∃ D, D = dv x k := ⟨_, rfl⟩
  rw [← hD] at HDv HP6 ⊢
  clear ht hr hg h e1 e4 g1 l1 o1 hok e5 e6 hrow hD
  go_enter Try.func12, Try.ntmps12
  go_wp2_with fail
  refine Calls.mono HC.out ?_
  rintro e w1 ⟨rfl, hb1⟩
  clear HC
  go_wp2_with fail
  refine Calls.mono (HDv.out _ hb1) ?_
  rintro e w2 ⟨hdo, hb2⟩
  have hB2 : Below w.heap.size w w2 := hb1.trans (hb2.mono hb1.size)
  clear HDv
  cases D with
  | none =>
    obtain ⟨a1, n1, c1, a2, n2, c2, rfl⟩ := hdo
    go_wp2_with fail
    exact bodyPost_ret (v := .tuple #[.slice none 0 0, .bool false]) (by simp [results, Try.results12, go_sem]) rfl ⟨_, rfl, World.ownsRow_nil _ _ _ _, hB2⟩
  | some p =>
    obtain ⟨s', q', rfl, -, ho'⟩ := hdo
    have hp6 := HP6.out p rfl
    have HO2 := hide (iOwn_lower ho' hb1.size)
    obtain ⟨ad2, c2, rfl, hc2, hrow2⟩ := cOwn_row ho'
    have HG2 := hide (implGoodT_any ad2 c2 (p.1 :: p.2.flat) w2 (by simp; omega) hrow2)
    obtain ⟨PN, hPN⟩ : ∃ PN, PN = (p.1 :: p.2.flat).length := ⟨_, rfl⟩
    rw [← hPN] at HG2 HO2 ⊢
    have HPN := hide hPN
    clear ho' hc2 hrow2 hPN HP6
    go_wp2_with fail
    refine Calls.mono HG2.out ?_
    rintro e w3 ⟨rfl, hb3⟩
    have hB3 : Below w.heap.size w w3 := hB2.trans (hb3.mono hB2.size)
    have HO3 := hide (tOwn_keep HO2.out (fun k _ hk => hb3.block k hk))
    clear HG2 HO2
    cases hgd : goodT (p.1 :: p.2.flat) with
    | false =>
      go_wp2_with fail
      refine bodyPost_ret (v := .tuple #[.slice none 0 0, .bool false]) (by simp [results, Try.results12, go_sem]) rfl ⟨.slice none 0 0, by simp [rB, hgd], ?_, hB3⟩
      simp only [Option.map_some, rL, gd, hgd]
      exact World.ownsRow_nil _ _ _ _
    | true =>
      go_wp2_with fail
      refine bodyPost_ret (v := .tuple #[.slice ad2 PN c2, .bool true]) (by simp [results, Try.results12, go_sem]) rfl ⟨.slice ad2 PN c2, by simp [rB, hgd], ?_, hB3⟩
      simp only [Option.map_some, rL, gd, hgd, if_true]
      rw [← HPN.out]
      exact HO3.out

set_option maxHeartbeats 1000000 in
theorem implDevelop_any (ad : Option Addr) (c : Nat) (l : List Cc) (w : World) (hl : l.length ≤ 1048576) (hc : l.length ≤ c) (h : CRow w ad l) :
    Calls Try.prog 12 #[.slice ad l.length c] w fun e w' => RS w (dvR l) e w' := by
  cases ht : treeT l with
  | some t =>
    obtain ⟨x, k, rfl⟩ := F.len_1 (treeT_flat ht).2.2.1
    exact implDevelop_good ad c l x k w hl hc ht h
  | none =>
    have hr : dvR l = none := by unfold dvR; rw [ht]
    rw [hr]
    have HC := hide (implGoodT_any ad c l w hl h)
    rw [show goodT l = false by unfold goodT; rw [ht]; rfl] at HC
    clear h ht hr
    go_enter Try.func12, Try.ntmps12
    go_wp2_with fail
    refine Calls.mono HC.out ?_
    rintro e w1 ⟨rfl, hb1⟩
    go_wp2_with fail
    exact bodyPost_ret (v := .tuple #[.slice none 0 0, .bool false]) (by simp [results, Try.results12, go_sem]) rfl ⟨_, rfl, World.ownsRow_nil _ _ _ _, hb1⟩
end Go.Proofs.Ytbimfnnbfbfdoab.W

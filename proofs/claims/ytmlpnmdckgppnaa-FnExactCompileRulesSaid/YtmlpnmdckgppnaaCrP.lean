/-
  CompileRules of the program. Conditions: none but those that each theorem states. Written by wip/build/mk_crp.py.
-/
import Derived.Test.YtmlpnmdckgppnaaCrO
import Derived.Test.YtmlpnmdckgppnaaPaG
import Derived.Deep.RegionHeld3
namespace Go.Proofs.Ytmlpnmdckgppnaa.W
open Go.ChangeShapes Go.WideShapes Go.ChangeAt Go.RowKit
set_option linter.unusedVariables false
set_option linter.unusedSimpArgs false

/-- Rules as patterns. -/
def psOf (D : List Int) : List (List Pt) → List (Pt × F)
  | [] => []
  | l :: L => match treeT D 40 l with
    | some (.cons x k _) => (x, k) :: psOf D L
    | _ => psOf D L
theorem psOf_ok {D : List Int} : ∀ {L : List (List Pt)} {R : F}, rulesF D L = some R → L = (psOf D L).map pcells ∧ ∀ a ∈ psOf D L, (F.cons a.1 a.2 .nil).ok D ∧ a.2.flat.length ≤ 39
  | [], R, h => ⟨rfl, fun a ha => by cases ha⟩
  | l :: L, R, h => by
    rw [rulesF] at h
    cases h1 : treeT D 40 l with
    | none => rw [h1] at h; cases h
    | some b =>
      rw [h1] at h
      cases h2 : rulesF D L with
      | none => rw [h2] at h; simp at h
      | some r =>
        obtain ⟨f1, f2, f3, f4, -⟩ := treeT_flat h1
        obtain ⟨e1, e2⟩ := psOf_ok h2
        cases b with
        | nil => simp [F.len] at f3
        | cons x k b' =>
          have hb : b' = .nil := F.len_0 (by simp [F.len] at f3; omega)
          subst hb
          have hl : l = x :: k.flat := by rw [f1]; simp [F.flat]
          have hp : psOf D (l :: L) = (x, k) :: psOf D L := by rw [psOf, h1]
          rw [hp]
          refine ⟨by rw [List.map_cons, ← e1]; show _ = (x :: k.flat) :: L; rw [← hl], fun a ha => ?_⟩
          rcases List.mem_cons.1 ha with e | ha
          · subst e
            refine ⟨f2, ?_⟩
            rw [hl] at f4
            simp at f4 ⊢
            omega
          · exact e2 a ha
theorem begL_sz : ∀ (i : Nat) (ps : List (Pt × F)), (∀ a ∈ ps, a.2.flat.length ≤ 39) → lsz (begL i ps) ≤ 40 * ps.length
  | i, [], _ => by simp [begL, lsz]
  | i, a :: ps, h => by
    have h1 := begL_sz (i + 1) ps (fun b hb => h b (List.mem_cons_of_mem a hb))
    have h2 := h a (by simp)
    have h3 : qsz (begQ i a).q ≤ 40 := by
      unfold begQ
      dsimp only
      split
      · simp [qsz]
      · simp [qsz, Ak.sz]; omega
    have h4 : lsz (begL i (a :: ps)) = qsz (begQ i a).q + lsz (begL (i + 1) ps) := by simp [begL, lsz]
    rw [List.length_cons]
    omega
theorem begL_all {P : Aq → Prop} : ∀ (i : Nat) (ps : List (Pt × F)), (∀ j a, a ∈ ps → P (begQ j a)) → ∀ r ∈ begL i ps, P r
  | i, [], _, r, hr => by cases hr
  | i, a :: ps, h, r, hr => by
    rcases List.mem_cons.1 hr with e | hr
    · subst e; exact h i a (by simp)
    · exact begL_all (i + 1) ps (fun j b hb => h j b (List.mem_cons_of_mem a hb)) r hr
theorem begL_ok {D : List Int} {ps : List (Pt × F)} (h : ∀ a ∈ ps, (F.cons a.1 a.2 .nil).ok D ∧ a.2.flat.length ≤ 39) (hn : ps.length ≤ 8) : SdOk D 1001 (begL 0 ps) := by
  have h1 := begL_sz 0 ps (fun a ha => (h a ha).2)
  refine ⟨by omega, by omega, by rw [begL_len]; omega, begL_all 0 ps (fun j a ha => ?_), begL_all 0 ps (fun j a ha => ?_)⟩
  · unfold begQ
    dsimp only
    split
    · exact ⟨List.Pairwise.nil, fun a ha => by cases ha⟩
    · rename_i hk
      exact ⟨List.pairwise_singleton _ _, fun b hb => by rw [List.mem_singleton.1 hb]; exact hk⟩
  · unfold begQ
    dsimp only
    split
    · intro b hb; cases hb
    · intro b hb
      rw [List.mem_singleton.1 hb]
      exact ⟨(h a ha).1, by have := (h a ha).2; simp; omega⟩
/-- All nodes, one too many at most. -/
def crN (D : List Int) (L : List (List Pt)) : List Nd := cmpP D.length 1001 (begL 0 (psOf D L)) []
/-- What CompileRules tells. -/
def crR (D : List Int) (L : List (List Pt)) : List Nd × Bool := if goodR D L = true ∧ (crN D L).length ≤ 200 then (crN D L, true) else ([], false)
theorem crR_no {D : List Int} {L : List (List Pt)} (h : ¬ (goodR D L = true ∧ (crN D L).length ≤ 200)) : crR D L = ([], false) := if_neg h
theorem crR_yes {D : List Int} {L : List (List Pt)} (h : goodR D L = true) (h2 : (crN D L).length ≤ 200) : crR D L = (crN D L, true) := if_pos ⟨h, h2⟩
theorem Off.allB {w w' : World} (h : Off (fun _ => False) w w') : Below w.heap.size w w' := ⟨h.os, h.tape, h.output, h.size, fun k hk => h.block k hk (fun h => h)⟩
theorem goodR_facts {D : List Int} {L : List (List Pt)} (h : goodR D L = true) : goodD D = true ∧ L = (psOf D L).map pcells ∧ (psOf D L).length = L.length ∧ L.length ≤ 8 ∧ ∀ a ∈ psOf D L, (F.cons a.1 a.2 .nil).ok D ∧ a.2.flat.length ≤ 39 := by
  obtain ⟨R, hR⟩ := Option.isSome_iff_exists.1 (show (ruT D L).isSome = true from h)
  unfold ruT at hR
  split at hR
  · rename_i hc
    obtain ⟨e1, e2⟩ := psOf_ok hR
    exact ⟨hc.1, e1, by rw [← List.length_map (f := pcells), ← e1], hc.2, e2⟩
  · cases hR
/-- What both sides tell. -/
def CrPost (w : World) (D : List Int) (L : List (List Pt)) (e : Ending) (w' : World) : Prop :=
  ∃ v xs O, e = .returned (.tuple #[v, .bool (crR D L).2]) ∧ NVx w.heap.size O w' v xs (crR D L).1 ∧ Below w.heap.size w w'
theorem CrPost.no {w w' : World} {D : List Int} {L : List (List Pt)} (h : ¬ (goodR D L = true ∧ (crN D L).length ≤ 200)) (hb : Below w.heap.size w w') : CrPost w D L (.returned (.tuple #[.slice none 0 0, .bool false])) w' :=
  ⟨.slice none 0 0, [], fun _ => False, by rw [crR_no h], by rw [crR_no h]; exact NVx.nil _ _, hb⟩

set_option maxRecDepth 20000 in
set_option maxHeartbeats 8000000 in
theorem implCompile_any (vd : Value) (D : List Int) (vq : Value) (L : List (List Pt)) (w : World) (hD : DRow w vd D) (hq : QV w vq L) :
    Calls Try.prog 9 #[vd, vq] w fun e w' => CrPost w D L e w' := by
  have hB0' := hD
  obtain ⟨da, dc, rfl, hDr, hDl⟩ := id hD
  obtain ⟨qa, qc, rfl, hqr, hqs, hqc⟩ := id hq
  have HD := hide hD
  have HQ := hide hqr
  have HQs := hide hqs
  have hB0 : Below w.heap.size w (w.alloc (.cells #[.slice da D.length dc] 31)) := (Below.refl _ _).alloc (Nat.le_refl _) _
  have HX0 := hide (Bx.new w #[.slice da D.length dc] 31)
  have HG := hide (implGoodR_any (.agg #[.slice da D.length dc]) D (.slice qa L.length qc) L _ (hD.below hB0) (hq.below hB0))
  have HNo : Hid (∀ w', ¬ (goodR D L = true ∧ (crN D L).length ≤ 200) → Below w.heap.size w w' → CrPost w D L (.returned (.tuple #[.slice none 0 0, .bool false])) w') := hide (fun w' h hb => CrPost.no h hb)
  clear hD hq hB0' hDr hqr hqs
  go_enter Try.func9, Try.ntmps9
  go_upto_region 1 with fail
  obtain ⟨W1, hW1⟩ : ∃ W1, W1 = w.alloc (.cells #[.slice da D.length dc] 31) := ⟨_, rfl⟩
  have hs1 : W1.heap.size = w.heap.size + 1 := by rw [hW1]; simp
  rw [← hW1] at hB0 HX0 HG ⊢
  obtain ⟨B2, hB2⟩ : ∃ B2, B2 = w.heap.size := ⟨_, rfl⟩
  rw [← hB2] at HX0 ⊢
  clear hW1 hB2
  have cx := HX0.out.c 0
  go_wp2_with fail
  refine Calls.mono HG.out ?_
  clear HG cx
  rintro e w2 ⟨rfl, hb2⟩
  have hB2 : Below w.heap.size w w2 := hB0.trans (hb2.mono (by omega))
  have HX2 := hide (HX0.out.below hb2 HX0.out.lt)
  clear hb2 HX0
  cases hg : goodR D L with
  | false =>
    have HRe := hide (HNo.out w2 (by rw [hg]; simp) hB2)
    clear hg
    go_wp2_with fail
    exact bodyPost_ret (v := .tuple #[.slice none 0 0, .bool false]) (by simp [results, Try.results9, go_sem]) rfl HRe.out
  | true =>
    obtain ⟨f1, f2, f3, f4, f5⟩ := goodR_facts hg
    have Hg := hide hg
    have Hf1 := hide f1
    have HSd := hide (begL_ok f5 (by omega))
    obtain ⟨ps, hps⟩ : ∃ ps, ps = psOf D L := ⟨_, rfl⟩
    have HN : Hid (crN D L = cmpP D.length 1001 (begL 0 ps) []) := hide (by rw [hps]; rfl)
    rw [← hps] at HSd f2 f3
    have HQ2 : Hid (QRow w qa (ps.map pcells) ∧ QSm (ps.map pcells)) := hide (by rw [← f2]; exact ⟨HQ.out, HQs.out⟩)
    have HA := hide (askingAll_any qa qc ps w2.drew (HQ2.out.1.below (belowDrew8' hB2)) HQ2.out.2 (by omega))
    rw [f3] at HA
    have Hf3 := hide f3
    have hf4 := f4
    clear hg f1 f2 f3 f5 f4 hps HQ HQs
    go_upto_region 3 with fail
    have cx := HX2.out.c 0
    have k0 : w2.drew.cell? ⟨B2, 0, none⟩ = some (.slice da D.length dc) := by simpa using cx
    have hBd : Below w.heap.size w w2.drew := belowDrew8' hB2
    clear cx
    refine wp_region_noPanic ?_
    refine wp_region_held_drew (S := fun w' => w'.cell? ⟨B2, 0, none⟩ = some (.slice da D.length dc)) (by kernel_rfl) k0 (fun hHeld => ?_)
    refine wpAnyH_take (i := 0) (oi := _) (v := ?_) rfl (by kernel_rfl) (by kernel_rfl) (by kernel_rfl) (fun _ _ _ h => h) (Or.inl ⟨by rfl, ?_⟩) (by assumption) ?_
    rotate_left 1
    · (intro w hSw; (try dsimp only at hSw); (first | (go_simp; done) | (go_simp; with_reducible rfl)))
    try simp only [Act.put, List.getElem_toArray, List.getElem_cons_zero, List.getElem_cons_succ, List.setIfInBounds_toArray, List.set_cons_zero, List.set_cons_succ]
    refine wpAnyH_take (i := 1) (oi := _) (v := ?_) rfl (by kernel_rfl) (by kernel_rfl) (by kernel_rfl) (fun _ _ _ h => h) (Or.inl ⟨by rfl, ?_⟩) (by assumption) ?_
    rotate_left 1
    · (intro w hSw; (try dsimp only at hSw); (first | (go_simp; done) | (go_simp; with_reducible rfl)))
    try simp only [Act.put, List.getElem_toArray, List.getElem_cons_zero, List.getElem_cons_succ, List.setIfInBounds_toArray, List.set_cons_zero, List.set_cons_succ]
    refine wpAnyH_ready (rs := [2]) (by kernel_rfl) (by simp) ?_
    refine AllReadyH.cons (o := _) rfl (fun K hK => ?_) AllReadyH.nil
    go_simp
    (with_reducible refine Calls.mono (HA.out) ?_)
    rintro r w3 ⟨v3, xs3, rfl, hown3, hQ3, hb3⟩
    have hB3 : Below w.heap.size w w3 := hBd.trans (hb3.mono hBd.size)
    have hX3 := HX2.out.drew.below hb3 HX2.out.lt
    have k3 : w3.cell? ⟨B2, 0, none⟩ = some (.slice da D.length dc) := by simpa using hX3.c 0
    have hAq : AqS (fun _ => False) w3 v3 (begL 0 ps) := ⟨xs3, by rw [begL_len]; exact RowX.ofOwn (by rw [Hf3.out]; exact hown3) (fun k _ h => h), hQ3⟩
    have HC := hide (withNodes_any (.agg #[.slice da D.length dc]) D Hf1.out 1001 w.heap.size (fun _ => False) (.slice none 0 0) [] [] v3 (begL 0 ps) w3 (fun w' h => HD.out.below (hB3.trans (h.allB.mono hB3.size))) (NVx.nil _ _) hB3.size hAq HSd.out (by simp) (by simp [tot]))
    have HX3 := hide hX3
    obtain ⟨a3, c3, e3⟩ := own_form hown3
    subst e3
    clear HA hown3 hQ3 hb3 hX3 hAq
    (try go_wp2_with fail)
    refine hK.out _ _ k3 (fun hHeld => ?_)
    clear hK K
    try simp only [Act.put, List.getElem_toArray, List.getElem_cons_zero, List.getElem_cons_succ, List.setIfInBounds_toArray, List.set_cons_zero, List.set_cons_succ]
    refine wpAnyH_ready (rs := [3]) (by kernel_rfl) (by simp) ?_
    refine AllReadyH.cons (o := _) rfl (fun K hK => ?_) AllReadyH.nil
    go_simp
    (with_reducible refine Calls.mono (HC.out) ?_)
    rintro r w4 ⟨v4, O4, xs4, rfl, hN4, hof4, hO4⟩
    have hb4 := hof4.allB
    have hB4 : Below w.heap.size w w4 := hB3.trans (hb4.mono hB3.size)
    have hX4 := HX3.out.below hb4 HX3.out.lt
    have k4 : w4.cell? ⟨B2, 0, none⟩ = some (.slice da D.length dc) := by simpa using hX4.c 0
    have HN4 := hide hN4
    obtain ⟨a4, c4, e4⟩ := own_form hN4.own
    subst e4
    clear HC hN4 hof4 hO4 hb4 hX4
    (try go_wp2_with fail)
    refine hK.out _ _ k4 (fun hHeld => ?_)
    clear hK K
    try simp only [Act.put, List.getElem_toArray, List.getElem_cons_zero, List.getElem_cons_succ, List.setIfInBounds_toArray, List.set_cons_zero, List.set_cons_succ]
    refine wpAnyH_take (i := 4) (oi := _) (v := ?_) rfl (by kernel_rfl) (by kernel_rfl) (by kernel_rfl) (fun _ _ _ h => h) (Or.inl ⟨by rfl, ?_⟩) (by assumption) ?_
    rotate_left 1
    · (intro w hSw; (try dsimp only at hSw); (first | (go_simp; done) | (go_simp; with_reducible rfl)))
    try simp only [Act.put, List.getElem_toArray, List.getElem_cons_zero, List.getElem_cons_succ, List.setIfInBounds_toArray, List.set_cons_zero, List.set_cons_succ]
    refine wpAnyH_done (by kernel_rfl) ?_ _
    refine NoPanic.normal ?_
    clear hHeld
    rw [← HN.out] at HN4 ⊢
    obtain ⟨nC, hnC⟩ : ∃ nC, nC = (crN D L).length := ⟨_, rfl⟩
    have HnC := hide hnC
    rw [← hnC] at HN4 ⊢
    clear hnC k0 k3 k4 hHeld HX3 HX2 hBd
    by_cases hbig : 200 < nC
    · have hbig' : (200 : Int) < (nC : Int) := by omega
      have HRe := hide (HNo.out w4 (by have := HnC.out; rintro ⟨-, h⟩; omega) hB4)
      go_wp2_with fail
      exact bodyPost_ret (v := .tuple #[.slice none 0 0, .bool false]) (by simp [results, Try.results9, go_sem]) rfl HRe.out
    · have hbig' : ¬ (200 : Int) < (nC : Int) := by omega
      have HY := hide (crR_yes Hg.out (by have := HnC.out; omega))
      go_wp2_with fail
      refine bodyPost_ret (v := .tuple #[.slice a4 nC c4, .bool true]) (by simp [results, Try.results9, go_sem]) rfl ⟨_, xs4, O4, by rw [HY.out], ?_, hB4⟩
      rw [HY.out]
      exact HN4.out
end Go.Proofs.Ytmlpnmdckgppnaa.W

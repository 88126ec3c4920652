/-
  CompileRules of the specification. No condition but those that the theorem states.
-/
import Derived.Test.YtmlpnmdckgppnaaCsH
import Derived.Test.YtmlpnmdckgppnaaCrP
namespace Go.Proofs.Ytmlpnmdckgppnaa.W
open Go.ChangeShapes Go.WideShapes Go.ChangeAt Go.RowKit
set_option linter.unusedVariables false
set_option linter.unusedSimpArgs false

/-- The patterns of a row of trees. -/
def tops : F → List (Pt × F)
  | .nil => []
  | .cons x k r => (x, k) :: tops r
theorem tops_app : ∀ (a b : F), tops (a.app b) = tops a ++ tops b
  | .nil, b => rfl
  | .cons x k r, b => by simp only [F.app, tops, tops_app r b, List.cons_append]
theorem tops_len : ∀ a : F, (tops a).length = a.len
  | .nil => rfl
  | .cons x k r => by simp [tops, tops_len r, F.len]; try omega
theorem psOf_tops {D : List Int} : ∀ {L : List (List Pt)} {R : F}, rulesF D L = some R → psOf D L = tops R
  | [], R, h => by simp [rulesF] at h; subst h; rfl
  | l :: L, R, h => by
    rw [rulesF] at h
    cases h1 : treeT D 40 l with
    | none => rw [h1] at h; cases h
    | some b =>
      rw [h1] at h
      cases h2 : rulesF D L with
      | none => rw [h2] at h; simp at h
      | some r =>
        rw [h2] at h
        simp at h
        subst h
        obtain ⟨f1, f2, f3, f4, -⟩ := treeT_flat h1
        cases b with
        | nil => simp [F.len] at f3
        | cons x k b' =>
          have hb : b' = .nil := F.len_0 (by simp [F.len] at f3; omega)
          subst hb
          have hp : psOf D (l :: L) = (x, k) :: psOf D L := by rw [psOf, h1]
          rw [hp, tops_app, psOf_tops h2]
          rfl
theorem begL_snoc (a : F) (x : Pt) (k : F) : begL 0 (tops (a.app (.cons x k .nil))) = begL 0 (tops a) ++ [begQ a.len (x, k)] := by
  rw [tops_app, begL_app, tops_len, Nat.zero_add]; rfl

set_option maxRecDepth 20000 in
set_option maxHeartbeats 8000000 in
theorem specCompile_any (vd : Value) (D : List Int) (vq : Value) (L : List (List Pt)) (w : World) (hD : DRow w vd D) (hq : QV w vq L) :
    Calls Try.prog 6 #[vd, vq] w fun e w' => CrPost w D L e w' := by
  obtain ⟨i2, hi2, hx0, hx1, hx2⟩ := infoPartsT infoQ
  have Hq := hide hi2
  obtain ⟨da, dc, rfl, hDr, hDl⟩ := id hD
  obtain ⟨qa, qc, rfl, hqr, hqs, hqc⟩ := id hq
  have HD := hide hD
  have hB0 : Below w.heap.size w (w.alloc (.cells #[.slice da D.length dc] 31)) := (Below.refl _ _).alloc (Nat.le_refl _) _
  have HX0 := hide (Bx.new w #[.slice da D.length dc] 31)
  have HC := hide (l8Rules_any (.agg #[.slice da D.length dc]) D (.slice qa L.length qc) L _ (hD.below hB0) (hq.below hB0))
  obtain ⟨T, hT⟩ : ∃ T, T = ruT D L := ⟨_, rfl⟩
  rw [← hT] at HC
  have HT := hide hT
  clear hD hq hDr hqr hqs hT hi2
  go_enter Try.func6, Try.ntmps6
  go_upto_region 1 with fail
  obtain ⟨W1, hW1⟩ : ∃ W1, W1 = w.alloc (.cells #[.slice da D.length dc] 31) := ⟨_, rfl⟩
  have hs1 : w.heap.size < W1.heap.size := by rw [hW1]; simp
  rw [← hW1] at hB0 HX0 HC ⊢
  obtain ⟨B2, hB2⟩ : ∃ B2, B2 = w.heap.size := ⟨_, rfl⟩
  rw [← hB2] at HX0 ⊢
  clear hW1 hB2
  have cx := HX0.out.c 0
  go_wp2_with fail
  refine Calls.mono HC.out ?_
  clear HC cx
  rintro e w2 ⟨hb2, hP⟩
  have HB2 := hide (hB0.trans (hb2.mono (by omega)))
  have HX2 := hide (HX0.out.below hb2 HX0.out.lt)
  clear hb2 HX0 hB0 hs1
  cases T with
  | none =>
    obtain rfl : e = .returned (.tuple #[.slice none 0 0, .bool false]) := hP
    have hg : ¬ (goodR D L = true ∧ (crN D L).length ≤ 200) := by
      rintro ⟨h, -⟩
      unfold goodR at h
      rw [← HT.out] at h
      cases h
    have HRe := hide (CrPost.no hg HB2.out)
    clear hg
    go_wp2_with fail
    exact bodyPost_ret (v := .tuple #[.slice none 0 0, .bool false]) (by simp [results, Try.results6, go_sem]) rfl HRe.out
  | some R =>
    obtain ⟨s, rfl, hK⟩ : ∃ s, e = .returned (.tuple #[s, .bool true]) ∧ KidT w2 (fun g => W1.heap.size < g) R s := hP
    obtain ⟨sa, sc, rfl⟩ := hK.form
    have hg : goodR D L = true := by unfold goodR; rw [← HT.out]; rfl
    obtain ⟨f1, f2, f3, f4, f5⟩ := goodR_facts hg
    have hr : rulesF D L = some R := by
      have h := HT.out
      unfold ruT at h
      split at h
      · exact h.symm
      · cases h
    obtain ⟨g1, g2⟩ := rulesF_len hr
    have g3 := psOf_tops hr
    have Hg := hide hg
    have Hf1 := hide f1
    have HSd := hide (begL_ok f5 (by omega))
    have HN : Hid (crN D L = cmpP D.length 1001 (begL 0 (tops R)) []) := hide (by rw [← g3]; rfl)
    rw [g3] at HSd
    have HOk := hide g2
    have HKt : Hid (∀ (u : Value) (W : World), (∀ k, u.ownBlock = some k → w2.heap.size ≤ k) → Below w2.heap.size w2 W → KidT W (fun g => ¬ ObO (fun _ => False) u g) R (.slice sa R.len sc)) := hide (fun u W hu hb => hK.keep hb.size (fun k hk hlt => ⟨hb.block k hlt, fun h => by
      rcases h with h | h
      · exact h
      · have := hu k h; omega⟩))
    obtain ⟨nR, hnR⟩ : ∃ m, m = R.len := ⟨_, rfl⟩
    have hnR8 : nR ≤ 8 := by omega
    have HnR := hide hnR
    rw [← hnR] at HKt ⊢
    clear hK hg f1 f2 f3 f4 f5 hr g1 g2 g3 hnR HT
    go_wp2_with fail
    go_loopw [8, 21] (fun v8 i w' => ∃ (a b : F) (ys : List Value), R = a.app b ∧ i = .int .i64 a.len ∧ w'.ownsRow w2.heap.size 53 3 v8 a.len ys ∧ SqC (ObO (fun _ => False) v8) w' ys (begL 0 (tops a)) ∧ Below w2.heap.size w2 w') (fun _ i _ => nR - (intOf i).toNat)
    case atStart => exact ⟨.nil, R, [], rfl, rfl, World.ownsRow_nil _ _ _ _, SqC.nil _ _, Below.refl _ _⟩
    case round =>
      obtain ⟨a, bF, ys, hfe, rfl, hO, hV, hB⟩ := hrel
      have Hge := hide (own_ge hO)
      have Hlt := hide hO.lt
      have HOw := hide hO
      have HV := hide hV
      have HB := hide hB
      obtain ⟨a9, c9, e9⟩ := own_form hO
      obtain ⟨na, hna⟩ : ∃ na, na = a.len := ⟨_, rfl⟩
      have Hna := hide hna
      rw [← hna] at e9 HOw ⊢
      subst e9
      clear hO hV hB
      cases bF with
      | nil =>
        have he : R = a := by rw [hfe, F.app_nil]
        subst he
        have hnn : na = nR := by rw [hna, HnR.out]
        subst hnn
        have hX := HX2.out.below HB.out HX2.out.lt
        have HX3 := hide hX
        have HSq : Hid (SqR (fun _ => False) wr (.slice a9 na c9) (begL 0 (tops R))) := hide ⟨ys, by rw [begL_len, tops_len, ← hna]; exact RowX.ofOwn HOw.out (fun k _ h => h), HV.out.later (Off.refl _ _) (fun i hi => .inl (.inl hi))⟩
        have hB3 : Below w.heap.size w wr := HB2.out.trans (HB.out.mono HB2.out.size)
        have HC := hide (l8Compile_any (.agg #[.slice da D.length dc]) D Hf1.out 1001 w.heap.size (fun _ => False) (.slice none 0 0) [] [] (.slice a9 na c9) (begL 0 (tops R)) wr (fun w' h => HD.out.below (hB3.trans (h.allB.mono hB3.size))) (NVx.nil _ _) hB3.size HSq.out HSd.out (by simp) (by simp [tot]))
        obtain ⟨h1, h2, h3⟩ := cmp_same D.length 1001 (begL 0 (tops R)) [] HSd.out.lok HSd.out.sz (by simp)
        rw [← HN.out] at h3
        rw [h3] at HC
        have HB3 := hide hB3
        have cx := hX.c 0
        clear hX hB3 h1 h2 h3 hfe hna HSq HOw HV
        go_wp2_with fail
        refine Calls.mono HC.out ?_
        clear HC cx
        rintro e w4 ⟨v4, b4, O4, xs4, rfl, hP4, hof4, -⟩
        have HB4 := hide (HB3.out.trans (hof4.allB.mono HB3.out.size))
        clear hof4
        by_cases hbig : 200 < (crN D L).length
        · rw [if_pos hbig] at hP4
          obtain ⟨rfl, rfl⟩ : b4 = false ∧ v4 = .slice none 0 0 := hP4
          have HRe := hide (CrPost.no (D := D) (L := L) (by rintro ⟨-, h⟩; omega) HB4.out)
          clear hbig
          go_wp2_with fail
          exact bodyPost_ret (v := .tuple #[.slice none 0 0, .bool false]) (by simp [results, Try.results6, go_sem]) rfl HRe.out
        · rw [if_neg hbig] at hP4
          obtain ⟨rfl, hN4⟩ : b4 = true ∧ NVx w.heap.size O4 w4 v4 xs4 (crN D L) := hP4
          have HY := hide (crR_yes Hg.out (by omega))
          have HN4 := hide hN4
          obtain ⟨a4, c4, e4⟩ := own_form hN4.own
          subst e4
          obtain ⟨nC, hnC⟩ : ∃ nC, nC = (crN D L).length := ⟨_, rfl⟩
          have HnC := hide hnC
          rw [← hnC] at HN4 ⊢
          clear hN4 hnC hbig
          go_wp2_with fail
          refine bodyPost_ret (v := .tuple #[.slice a4 nC c4, .bool true]) (by simp [results, Try.results6, go_sem]) rfl ⟨_, xs4, O4, by rw [HY.out], ?_, HB4.out⟩
          rw [HY.out]
          exact HN4.out
      | cons x kk rs =>
        have hal : na < nR := by rw [HnR.out, hfe, F.app_len, hna]; simp [F.len]
        obtain ⟨gk, capk, sx, es, -, lk, hKx, k0, k1⟩ := (show KidT wr (fun g => ¬ ObO (fun _ => False) (.slice a9 na c9) g) (a.app (.cons x kk rs)) (.slice sa nR sc) from by rw [← hfe]; exact HKt.out _ _ Hge.out HB.out).kid
        obtain ⟨xa, xc, rfl⟩ := hKx.form
        simp only [Value.slice.injEq] at es
        obtain ⟨rfl, -, rfl⟩ := es
        have hgc := goodC_con ((F.app_ok D a (.cons x kk rs)).1 (hfe ▸ HOk.out)).2.1
        have hfe2 : R = (a.app (.cons x kk .nil)).app rs := by rw [hfe, F.app_assoc]; rfl
        have hln2 : (a.app (.cons x kk .nil)).len = na + 1 := by rw [F.app_len, hna]; simp [F.len]
        have Hfe2 := hide hfe2
        have Hln2 := hide hln2
        have HBs : Hid (begL 0 (tops (a.app (.cons x kk .nil))) = begL 0 (tops a) ++ [begQ na (x, kk)]) := hide (by rw [begL_snoc, hna])
        have HKx := hide hKx
        have Hgc := hide hgc
        rw [← hna] at k0 k1
        obtain ⟨tx, htx⟩ : ∃ tx, tx = tcon x := ⟨_, rfl⟩
        have Htx := hide htx
        obtain ⟨nx, hnx⟩ : ∃ nx, nx = kk.len := ⟨_, rfl⟩
        rw [← htx] at k0
        rw [← hnx] at k1 HKx
        have hna' : (na : Int) < (nR : Int) := by omega
        have hna0 : (0 : Int) ≤ (na : Int) := by omega
        clear htx hnx hgc hKx hfe hfe2 hln2 hna
        go_upto_region 8 with fail
        clear k0 k1
        have hbA : Below wr.heap.size wr (wr.alloc (.cells #[.int .i64 tx, .slice xa nx xc] 50)) := (Below.refl _ _).alloc (Nat.le_refl _) _
        have HXB := hide (Bx.new wr #[.int .i64 tx, .slice xa nx xc] 50)
        obtain ⟨W5, hW5⟩ : ∃ W5, W5 = wr.alloc (.cells #[.int .i64 tx, .slice xa nx xc] 50) := ⟨_, rfl⟩
        rw [← hW5] at hbA HXB ⊢
        obtain ⟨B8, hB8⟩ : ∃ B8, B8 = wr.heap.size := ⟨_, rfl⟩
        rw [← hB8] at HXB ⊢
        clear hW5 hB8
        have hsA := hbA.size
        have hC0 := l8Asks_any (ObO (fun _ => False) (.slice a9 na c9)) (.agg #[.int .i64 (na : Int), .slice none 0 0, .slice none 0 0]) ⟨(na : Int), []⟩ (.slice none 0 0) [] (.slice xa nx xc) x kk W5 (fun g hg => by
          rcases hg with hg | hg
          · exact hg.elim
          · have := (Hlt.out g hg).2; omega) (SqS.empty _ _ _) (fun w' _ => ⟨iv_nil w', cap_nil⟩) (HKx.out.below hbA) Hgc.out (by simp)
        have hC1 : Calls Try.prog 20 #[.agg #[.int .i64 (na : Int), .slice none 0 0, .slice none 0 0], .slice none 0 0, .agg #[.int .i64 tx, .slice xa nx xc]] W5 fun e w' => ∃ v', e = .returned v' ∧ SqS (ObO (fun _ => False) (.slice a9 na c9)) w' v' (begQ na (x, kk)) ∧ Below W5.heap.size W5 w' := by rw [Htx.out]; exact hC0
        have HC := hide hC1
        have cx := HXB.out.c 0
        have cy := HXB.out.c 1
        have HbA := hide hbA
        obtain ⟨rq, hrq⟩ : ∃ rq, rq = begQ na (x, kk) := ⟨_, rfl⟩
        have hrr : rq.rule = (na : Int) := by rw [hrq]; rfl
        rw [← hrq] at HC HBs
        have Hrr := hide hrr
        clear hC0 hC1 hsA hbA hrq hrr
        go_wp2_with fail
        refine Calls.mono HC.out ?_
        clear HC cx cy HXB
        rintro e w6 ⟨v', rfl, hS', hb6⟩
        have hb8 : Below wr.heap.size wr w6 := HbA.out.trans (hb6.mono HbA.out.size)
        obtain ⟨a3, d3, a4, d4, e⟩ := hS'.form
        subst e
        rw [Hrr.out] at hS' ⊢
        have HS8 := hide hS'
        obtain ⟨m', hm'⟩ : ∃ m', m' = rq.q.length := ⟨_, rfl⟩
        rw [← hm'] at HS8 ⊢
        have HO8 := hide (own_keep HOw.out (w' := w6) (fun k _ hk => hb8.block k hk))
        have HV8 := hide (HV.out.later (Off.of_below hb8) (fun i hi => .inl hi))
        have HB8 := hide (HB.out.trans (hb8.mono HB.out.size))
        have hs8 := HB8.out.size
        clear hb6 hb8 hS' hm'
        go_wp2_with (at_builtin; refine wpList_append_sep rfl _ _ 48 rfl w2.heap.size 53 i2 (.agg #[.int .i64 0, .slice none 0 0, .slice none 0 0]) 3 56 Try.underlying48 Hq.out hx0 hx1 hx2 rfl (by decide) _ _ _ rfl (HO8.out.alloc _) ⟨w6.heap.size, 0, none⟩ 1 1 [.int .i64 (na : Int), .slice a3 m' d3, .slice a4 m' d4] rfl rfl ?c1 ?c2 ?c3 ?c4 ?c5 ?_)
        case c1 => exact threeC_cells (heap_alloc_new w6 _)
        case c2 => intro u hu; simp only [List.mem_cons, List.not_mem_nil, or_false] at hu; rcases hu with rfl | rfl | rfl <;> rfl
        case c3 => unfold maxLen; omega
        case c4 => omega
        case c5 => simp; omega
        intro v10 w9 hown9 hgrow hap
        have hb66 : Below w6.heap.size w6 (w6.alloc (.cells #[.int .i64 (na : Int), .slice a3 m' d3, .slice a4 m' d4] 53)) := (Below.refl _ _).alloc (Nat.le_refl _) _
        obtain ⟨W7, hW7⟩ : ∃ W7, W7 = w6.alloc (.cells #[.int .i64 (na : Int), .slice a3 m' d3, .slice a4 m' d4] 53) := ⟨_, rfl⟩
        rw [← hW7] at hgrow hap hb66
        clear hW7
        have hs67 := hb66.size
        have hof : Off (ObO (fun _ => False) (.slice a9 na c9)) w6 w9 := (Off.of_below hb66).trans (Off.of_grown hgrow (fun k h => .inr h)) (fun i hi => .inl hi)
        have hbg : Below w2.heap.size W7 w9 := (Below.refl _ _).grown hgrow (by omega) (fun k h => (Hlt.out k h).1)
        have hb69 : Below w2.heap.size w6 w9 := (hb66.mono (by omega)).trans hbg
        have hsn := HV8.out.snoc (r := rq) (by rw [Hrr.out]; exact HS8.out)
        have HQ9 := hide (hsn.later hof (O' := ObO (fun _ => False) v10) (fun i h => by
          rcases h with h | h
          · exact .inl (.inl h)
          · rcases hap i h with h | h
            · exact .inl (.inr h)
            · exact .inr (by omega)))
        have HB9 := hide (HB8.out.trans hb69)
        have HO9 : Hid (w9.ownsRow w2.heap.size 53 3 v10 (na + 1) (ys ++ [.int .i64 rq.rule, .slice a3 m' d3, .slice a4 m' d4])) := hide (by rw [Hrr.out]; exact hown9)
        obtain ⟨a10, c10, e10⟩ := own_form hown9
        clear hof hbg hb69 hb66 hap hgrow hown9 hsn
        subst e10
        go_wp2_with fail
        exact ⟨⟨a.app (.cons x kk .nil), rs, _, Hfe2.out, by rw [Hln2.out]; go_num, by rw [Hln2.out]; exact HO9.out, by rw [HBs.out]; exact HQ9.out, HB9.out⟩, by simp [intOf]; omega⟩
end Go.Proofs.Ytmlpnmdckgppnaa.W

/-
  Both BackEdges. Conditions: none but those that each theorem states. Written by wip/build/mk_grb.py.
-/
import Derived.Test.YtangkpbehpgmiaaGrK
namespace Go.Proofs.Ytangkpbehpgmiaa.W
open Go.ChangeShapes Go.WideShapes Go.ChangeAt Go.RowKit Go.Joins
set_option linter.unusedVariables false

theorem wpList_append_r {w : World} {ops : Array Oper} {rest : List Oper} {o : Oper} {a : Act} {Q : Exit → Act → World → Prop} (hgd : o.guard = none) (s x : Operand)
    (ho : o.op = .call { callee := .builtin .append, args := #[s, x], argTypes := #[22, 22] })
    (base : Nat) (v : Value) (n : Nat) (xs : List Value) (hs : a.eval s = v) (hown : w.ownsRow base 31 1 v n xs) (g : Nat) (y : Value) (hx : a.eval x = .slice (some ⟨g, 0, none⟩) 1 1) (hy : w.cell? ⟨g, 0, none⟩ = some y) (h1 : y.oneCell' = true) (hnm : n + 1 ≤ 1048576) (hbase : base ≤ w.heap.size)
    (h : ∀ v' w', w'.ownsRow base 31 1 v' (n + 1) (xs ++ [y]) → w.grownBy w' v.ownBlock → wpList Try.prog ops Q rest (a.put o.dst v') w') : wpList Try.prog ops Q (o :: rest) a w := by
  obtain ⟨i0, hi0, hzz⟩ := Option.map_eq_some_iff.1 infoIS
  simp only [Prod.mk.injEq] at hzz
  obtain ⟨hz0, hz1, hz2⟩ := hzz
  refine wpList_plain hgd fun K hK => ?_
  obtain ⟨v', w', hr, g2, g3, -⟩ := run_append_sep (P := Try.prog) w base 22 o.type 31 i0 (.slice none 0 0) 1 24 Try.underlying22 hi0 hz0 hz1 hz2 (by simp [Value.cells]) (by decide) v n xs hown ⟨g, 0, none⟩ 1 1 [y] rfl (fun j u hu => by
    obtain rfl : j = 0 := by have := (List.getElem?_eq_some_iff.1 hu).1; simp at this; omega
    rw [Addr.add_lit]
    simp at hu
    rw [← hu]; exact hy) (fun u hu => by simp at hu; rw [hu]; exact h1) (by unfold maxLen; omega) (by omega) hbase
  unfold Oper.wp execOp
  simp only [ho, resolve, invoke, builtin, Sem.run_bind, Sem.run_pure, Result.andThen_ok, List.map_toArray, List.map_cons, List.map_nil, hs, hx, hr]
  exact hK _ _ (h v' w' g2 g3)

/-- The back edges of block k to these. -/
noncomputable def bRow (L : List (List Int)) (k : Nat) (xs : List Int) : List (List Int) := (xs.filter (fun x => dm L k x.toNat)).map (fun x => [(k : Int), x])
/-- The back edges of the first j blocks. -/
noncomputable def bAll (L : List (List Int)) : Nat → List (List Int)
  | 0 => []
  | j + 1 => bAll L j ++ bRow L j (L.getD j [])
noncomputable def beR (L : List (List Int)) : List (List Int) := if goodG L = true then bAll L L.length else []
theorem bRow_len (L : List (List Int)) (k : Nat) (xs : List Int) : (bRow L k xs).length ≤ xs.length := by
  unfold bRow; rw [List.length_map]; exact List.length_filter_le _ _
theorem bRow_two (L : List (List Int)) (k : Nat) (xs : List Int) : ∀ l ∈ bRow L k xs, l.length = 2 := by
  intro l hl
  obtain ⟨x, -, rfl⟩ := List.mem_map.1 hl
  rfl
theorem bAll_len {L : List (List Int)} (hg : GG L) : ∀ j, j ≤ L.length → (bAll L j).length ≤ j * 12
  | 0, _ => by simp [bAll]
  | j + 1, h => by
    have ih := bAll_len hg j (by omega)
    have h1 := bRow_len L j (L.getD j [])
    have h2 := (hg.2.2 j (by omega)).len
    have h3 := hg.2.1
    have h4 : L.getD j [] = L[j] := by rw [List.getD_eq_getElem?_getD, List.getElem?_eq_getElem (by omega)]; rfl
    rw [bAll, List.length_append]
    rw [h4] at h1 ⊢
    omega
theorem bAll_two (L : List (List Int)) : ∀ j, ∀ l ∈ bAll L j, l.length = 2
  | 0, l, h => by simp [bAll] at h
  | j + 1, l, h => by
    rw [bAll] at h
    rcases List.mem_append.1 h with h | h
    · exact bAll_two L j l h
    · exact bRow_two _ _ _ l h
theorem beR_sm (L : List (List Int)) : (beR L).length ≤ 600 ∧ ∀ l ∈ beR L, l.length ≤ 600 := by
  unfold beR
  split
  · rename_i h
    have hg := goodG_iff.1 h
    have h1 := bAll_len hg L.length (Nat.le_refl _)
    have h2 := hg.2.1
    exact ⟨by omega, fun l hl => by rw [bAll_two L _ l hl]; omega⟩
  · exact ⟨by simp, by simp⟩
theorem beR_QSm (L : List (List Int)) : QSm (beR L) := by
  have := beR_sm L
  exact ⟨by omega, fun l hl => by have := this.2 l hl; omega⟩
theorem bRow_take {L : List (List Int)} {k : Nat} {l : List Int} {m : Nat} (h : m < l.length) : bRow L k (l.take (m + 1)) = bRow L k (l.take m) ++ if dm L k (l[m]).toNat = true then [[(k : Int), l[m]]] else [] := by
  unfold bRow
  rw [List.take_add_one, List.getElem?_eq_getElem h, List.filter_append, List.map_append]
  cases e : dm L k (l[m]).toNat <;> simp [e]

set_option maxHeartbeats 8000000 in
theorem specBack_any (v : Value) (L : List (List Int)) (w : World) (h : GRow w v L) :
    Calls Try.prog 29 #[v] w fun e w' => ∃ v', e = .returned (.tuple #[v', .bool (goodG L)]) ∧ QV w' v' (beR L) ∧ Below w.heap.size w w' := by
  obtain ⟨ad, c, rfl, hR, hs, hlc⟩ := h
  have hB0 : Below w.heap.size w (w.alloc (.cells #[.slice ad L.length c] 27)) := (Below.refl _ _).alloc (Nat.le_refl _) _
  have HX := hide (Bx.new w #[.slice ad L.length c] 27)
  have HV : Hid (∀ w', Below w.heap.size w w' → GRow w' (.agg #[.slice ad L.length c]) L) := hide (fun w' hb => ⟨ad, c, rfl, hR.below hb, hs, hlc⟩)
  have hR0 := hR
  clear hR hs hlc
  go_enter Try.func29, Try.ntmps29
  go_wp2_with fail
  refine Calls.mono (specGoodG_any _ L _ (HV.out _ hB0)) ?_
  rintro e w1 ⟨rfl, hb⟩
  have hB1 := hB0.trans (hb.mono hB0.size)
  have HX1 := hide (HX.out.below hb HX.out.lt)
  clear hb hB0 HX
  have cx := HX1.out.c
  have lx := HX1.out.lt
  by_cases hg : goodG L = true
  · have HRe : Hid (beR L = bAll L L.length) := hide (by rw [beR, if_pos hg])
    have HGG := hide (goodG_iff.1 hg)
    have hl12 := HGG.out.2.1
    have Hg := hide hg
    rw [hg]
    clear hg
    go_wp2_with fail
    refine Calls.mono (l10Dom_any _ L _ (HV.out _ hB1) HGG.out) ?_
    rintro e w3 ⟨S, rfl, -, hQ, hb⟩
    have HY3 := hide hQ
    have hB3 := hB1.trans (hb.mono hB1.size)
    have HX3 := hide (HX1.out.below hb HX1.out.lt)
    clear hQ hb cx lx HX1 hB1
    have cx := HX3.out.c
    have lx := HX3.out.lt
    go_wp2_with fail
    clear cx lx
    go_loopw [5, 18] (fun v5 i w' => ∃ j : Nat, j ≤ L.length ∧ i = .int .i64 j ∧ OO w' w3.heap.size v5 (bAll L j) ∧ Below w3.heap.size w3 w') (fun _ i _ => L.length - (intOf i).toNat)
    case atStart => exact ⟨0, by omega, rfl, OO.nil _ _, Below.refl _ _⟩
    case round =>
      obtain ⟨j, hj, rfl, hO, hB⟩ := hrel
      have HO := hide hO
      have HB := hide hB
      obtain ⟨a5, c5, rfl⟩ := hO.form
      clear hO hB
      by_cases hlt : j < L.length
      · have hlt' : (j : Int) < (L.length : Int) := by omega
        have HBw := hide (hB3.trans (HB.out.mono hB3.size))
        obtain ⟨b, oo, v, rfl, hb, p0w, pv⟩ := QRow.at hR0 (Below.refl _ _) hlt
        have p0 := (HBw.out.cell (p := ⟨b, oo + j, none⟩) hb).trans p0w
        obtain ⟨ad1, c1, rfl, pr, -⟩ := pv
        obtain ⟨l, hl1⟩ : ∃ l, l = L[j] := ⟨_, rfl⟩
        rw [← hl1] at p0 pr
        have HL := hide hl1
        have HP := hide pr
        have hll : l.length ≤ 12 := by
          have := (HGG.out.2.2 j hlt).len
          rw [← hl1] at this
          omega
        have hal := bAll_len HGG.out j (by omega)
        clear hl1 pr p0w
        go_wp2_with fail
        clear p0 HBw
        go_loopw [5, 25] (fun v5 i w' => ∃ m : Nat, m ≤ l.length ∧ i = .int .i64 m ∧ OO w' w3.heap.size v5 (bAll L j ++ bRow L j (l.take m)) ∧ Below w3.heap.size w3 w') (fun _ i _ => l.length - (intOf i).toNat)
        case atStart => exact ⟨0, by omega, rfl, by have := HO.out; simpa [bRow] using this, HB.out⟩
        case round =>
          clear HO HB
          obtain ⟨m, hm, rfl, hO, hB⟩ := hrel
          have HO := hide hO
          have HB := hide hB
          obtain ⟨a6, c6, rfl⟩ := hO.form
          clear hO hB
          obtain ⟨LN, hLN⟩ : ∃ LN, LN = (bAll L j ++ bRow L j (l.take m)).length := ⟨_, rfl⟩
          rw [← hLN] at HO ⊢
          have HLN := hide hLN
          clear hLN
          by_cases hlm : m < l.length
          · have hlm' : (m : Int) < (l.length : Int) := by omega
            have HBw := hide (hB3.trans (HB.out.mono hB3.size))
            obtain ⟨b1, o1, rfl, hb1, p0⟩ := IRow.iat HP.out HBw.out hlm
            have hmem : l[m] ∈ L[j] := by rw [← HL.out]; exact List.getElem_mem hlm
            have hbd := (HGG.out.2.2 j hlt).mem hmem
            have htk := bRow_take (L := L) (k := j) hlm
            obtain ⟨X, hX⟩ : ∃ X : Nat, l[m] = (X : Int) := ⟨l[m].toNat, by omega⟩
            rw [hX] at p0 hbd htk
            rw [show ((X : Int)).toNat = X by omega] at htk
            have hX12 : X < 12 := by omega
            have hX12' : (X : Int) < 12 := by omega
            have hj12 : j < 12 := by omega
            have hj12' : (j : Int) < 12 := by omega
            have HTk := hide htk
            have hbl := bRow_len L j (l.take m)
            have hbl2 : LN ≤ 300 := by
              rw [HLN.out, List.length_append]
              rw [List.length_take] at hbl
              omega
            clear hX hmem htk hbl
            obtain ⟨y, cy, hNy⟩ := (HY3.out.below HB.out).at (q := j) (by rw [dls_len]; exact hlt)
            rw [dls_at] at hNy
            obtain ⟨ay, cyy, rfl, -⟩ := hNy.form
            have hyl := dl_len L j
            have HNy := hide hNy
            obtain ⟨DL, hDL⟩ : ∃ DL, DL = dl L j := ⟨_, rfl⟩
            rw [← hDL] at cy HNy hyl
            have HMm : Hid (decide ((X : Int) ∈ DL) = dm L j X) := hide (by rw [hDL, Bool.eq_iff_iff, decide_eq_true_eq, dl_mem HGG.out, dm_iff])
            clear hNy hDL
            go_wp2_with fail
            refine Calls.mono (l1Has_v _ DL X _ HNy.out (by omega)) ?_
            rintro e w6 ⟨rfl, hw⟩
            obtain rfl := hw.symm
            rw [HMm.out]
            clear p0 cy
            obtain ⟨q, hq⟩ : ∃ q, q = dm L j X := ⟨_, rfl⟩
            rw [← hq] at HTk ⊢
            clear hq
            cases q with
            | false =>
              have HE : Hid (bAll L j ++ bRow L j (l.take m) = bAll L j ++ bRow L j (l.take (m + 1))) := hide (by rw [HTk.out]; simp)
              rw [HE.out] at HO
              go_wp2_with fail
              exact ⟨⟨m + 1, by omega, by go_num, HO.out, HB.out⟩, by simp [intOf]; omega⟩
            | true =>
              have HE : Hid (bAll L j ++ bRow L j (l.take (m + 1)) = (bAll L j ++ bRow L j (l.take m)) ++ [[(j : Int), (X : Int)]]) := hide (by rw [HTk.out]; simp)
              obtain ⟨vs, hvs⟩ := HO.out
              have HVs := hide hvs
              clear hvs
              obtain ⟨W1, hW1⟩ : ∃ W1, W1 = (wr.alloc (.cells #[.int .i64 (j : Int), .int .i64 (X : Int)] 3)).alloc (.cells #[.slice (some ⟨wr.heap.size, 0, none⟩) 2 2] 31) := ⟨_, rfl⟩
              have hb1 : Below wr.heap.size wr W1 := by rw [hW1]; exact ((Below.refl _ _).alloc (Nat.le_refl _) _).alloc (by simp) _
              have hx1 : W1.ownsRow wr.heap.size 3 1 (.slice (some ⟨wr.heap.size, 0, none⟩) 2 2) 2 (ic [(j : Int), (X : Int)]) := by
                rw [hW1]
                exact ⟨rfl, .inr ⟨wr.heap.size, 2, _, rfl, Nat.le_refl _, (Bx.new wr #[.int .i64 (j : Int), .int .i64 (X : Int)] 3).alloc _, Nat.le_refl _, by unfold maxLen; omega, rfl, rfl⟩⟩
              have hy1 : W1.cell? ⟨wr.heap.size + 1, 0, none⟩ = some (.slice (some ⟨wr.heap.size, 0, none⟩) 2 2) := by
                rw [hW1]
                simp
              have hob := own_keep HVs.out.own (fun k _ hk => hb1.block k hk)
              rw [← HLN.out] at hob
              have HW1 := hide hW1
              have hbw := HB.out.size
              have Hb1 := hide hb1
              have Hx1 := hide hx1
              have Hy1 := hide hy1
              have Hob := hide hob
              have hs1 := hb1.size
              clear hW1 hb1 hx1 hy1 hob
              go_wp2_with (at_builtin; rw [← HW1.out]; refine wpList_append_r rfl _ _ rfl w3.heap.size _ LN _ rfl Hob.out (wr.heap.size + 1) _ rfl Hy1.out rfl (by omega) (by omega) ?_)
              intro v6 w6 hO6 hg6
              have HO6 := hide (HVs.out.snoc (l := [(j : Int), (X : Int)]) hbw Hb1.out Hx1.out (by rw [← HLN.out]; exact hO6) hg6)
              rw [← HE.out] at HO6
              have HB6 := hide (HB.out.trans ((Hb1.out.mono hbw).trans (grown_below hg6 (by omega) (own_ge HVs.out.own))))
              clear hO6 hg6 Hob Hx1 Hy1 Hb1 HW1
              go_wp2_with fail
              exact ⟨⟨m + 1, by omega, by go_num, HO6.out, HB6.out⟩, by simp [intOf]; omega⟩
          · have HE : Hid (bAll L j ++ bRow L j (l.take m) = bAll L (j + 1)) := hide (by
              rw [bAll, List.take_of_length_le (by omega), HL.out]
              simp [hlt])
            rw [HE.out] at HO
            go_wp2_with fail
            exact ⟨⟨j + 1, by omega, by go_num, HO.out, HB.out⟩, by simp [intOf]; omega⟩
      · have HE : Hid (bAll L j = beR L) := hide (by rw [HRe.out, show j = L.length by omega])
        obtain ⟨LN, hLN⟩ : ∃ LN, LN = (bAll L j).length := ⟨_, rfl⟩
        rw [← hLN]
        have HLN := hide hLN
        clear hLN
        have HBw := hide (hB3.trans (HB.out.mono hB3.size))
        go_wp2_with fail
        refine bodyPost_ret (v := .tuple #[.slice a5 LN c5, .bool true]) (by simp [results, Try.results29, go_sem]) rfl ?_
        refine ⟨_, by rw [Hg.out], ?_, HBw.out⟩
        rw [HLN.out, ← HE.out]
        exact HO.out.qv (by rw [HE.out]; exact beR_QSm L)
  · have HRe : Hid (beR L = []) := hide (by rw [beR, if_neg hg])
    rw [Bool.not_eq_true] at hg
    have Hg := hide hg
    rw [hg]
    clear hg
    go_wp2_with fail
    refine bodyPost_ret (v := .tuple #[.slice none 0 0, .bool false]) (by simp [results, Try.results29, go_sem]) rfl ?_
    exact ⟨_, by rw [Hg.out], by rw [HRe.out]; exact ⟨none, 0, rfl, .inl rfl, ⟨by simp, by simp⟩, Nat.le_refl _⟩, hB1⟩

set_option maxHeartbeats 8000000 in
theorem implBack_any (v : Value) (L : List (List Int)) (w : World) (h : GRow w v L) :
    Calls Try.prog 30 #[v] w fun e w' => ∃ v', e = .returned (.tuple #[v', .bool (goodG L)]) ∧ OO w' w.heap.size v' (beR L) ∧ Below w.heap.size w w' := by
  obtain ⟨ad, c, rfl, hR, hs, hlc⟩ := h
  have hz := (zero_of_info dInfo).1
  have hB0 : Below w.heap.size w (w.alloc (.cells #[.slice ad L.length c] 27)) := (Below.refl _ _).alloc (Nat.le_refl _) _
  have HX := hide (Bx.new w #[.slice ad L.length c] 27)
  have HV : Hid (∀ w', Below w.heap.size w w' → GRow w' (.agg #[.slice ad L.length c]) L) := hide (fun w' hb => ⟨ad, c, rfl, hR.below hb, hs, hlc⟩)
  have hR0 := hR
  clear hR hs hlc
  go_enter Try.func30, Try.ntmps30
  go_wp2_with fail
  refine Calls.mono (implGoodG_any _ L _ (HV.out _ hB0)) ?_
  rintro e w1 ⟨rfl, hb⟩
  have hB1 := hB0.trans (hb.mono hB0.size)
  have HX1 := hide (HX.out.below hb HX.out.lt)
  clear hb hB0 HX
  have cx := HX1.out.c
  have lx := HX1.out.lt
  by_cases hg : goodG L = true
  · have HRe : Hid (beR L = bAll L L.length) := hide (by rw [beR, if_pos hg])
    have HGG := hide (goodG_iff.1 hg)
    have hl12 := HGG.out.2.1
    have Hg := hide hg
    rw [hg]
    clear hg
    go_wp2_with fail
    refine Calls.mono (dominators_any _ L _ (HV.out _ hB1) HGG.out) ?_
    rintro e w2 ⟨rfl, hb⟩
    have hB2 := hB1.trans (hb.mono hB1.size)
    have HX2 := hide (HX1.out.below hb HX1.out.lt)
    clear hb cx lx HX1 hB1
    have HX4 : Hid ((w2.alloc (.cells (dA fun _ _ => false) 53)).heap[w2.heap.size]? = some (.cells (dA fun _ _ => false) 53 (0, 0))) := hide (heap_alloc_new w2 _)
    go_upto_region 4 with (refine wpList_store_row rfl 53 _ _ rfl w2.heap.size _ rfl rfl 53 _ HX4.out (by rw [dA_size]; exact dSize) (by rw [dA_size, dA_size]) (dA_one _) ?_)
    rw [World.setRow_alloc_new]
    obtain ⟨w3, hw3⟩ : ∃ w3, w3 = w2.alloc (.cells (dA (dm L)) 53) := ⟨_, rfl⟩
    have hB3 : Below w.heap.size w w3 := by rw [hw3]; exact hB2.alloc hB2.size _
    have HY3 : Hid (Bx w3 w2.heap.size (dA (dm L)) 53) := hide (by rw [hw3]; exact Bx.new _ _ _)
    have HX3 : Hid (Bx w3 w.heap.size #[.slice ad L.length c] 27) := hide (by rw [hw3]; exact HX2.out.alloc _)
    rw [← hw3]
    obtain ⟨B4, hB4⟩ : ∃ B4, B4 = w2.heap.size := ⟨_, rfl⟩
    rw [← hB4] at HY3 ⊢
    clear hw3 hB4 HX4 hz HX2 hB2
    have cx := HX3.out.c
    have lx := HX3.out.lt
    go_wp2_with fail
    clear cx lx
    go_loopw [5, 18] (fun v5 i w' => ∃ j : Nat, j ≤ L.length ∧ i = .int .i64 j ∧ OO w' w3.heap.size v5 (bAll L j) ∧ Below w3.heap.size w3 w') (fun _ i _ => L.length - (intOf i).toNat)
    case atStart => exact ⟨0, by omega, rfl, OO.nil _ _, Below.refl _ _⟩
    case round =>
      obtain ⟨j, hj, rfl, hO, hB⟩ := hrel
      have HO := hide hO
      have HB := hide hB
      obtain ⟨a5, c5, rfl⟩ := hO.form
      clear hO hB
      by_cases hlt : j < L.length
      · have hlt' : (j : Int) < (L.length : Int) := by omega
        have HBw := hide (hB3.trans (HB.out.mono hB3.size))
        obtain ⟨b, oo, v, rfl, hb, p0w, pv⟩ := QRow.at hR0 (Below.refl _ _) hlt
        have p0 := (HBw.out.cell (p := ⟨b, oo + j, none⟩) hb).trans p0w
        obtain ⟨ad1, c1, rfl, pr, -⟩ := pv
        obtain ⟨l, hl1⟩ : ∃ l, l = L[j] := ⟨_, rfl⟩
        rw [← hl1] at p0 pr
        have HL := hide hl1
        have HP := hide pr
        have hll : l.length ≤ 12 := by
          have := (HGG.out.2.2 j hlt).len
          rw [← hl1] at this
          omega
        have hal := bAll_len HGG.out j (by omega)
        clear hl1 pr p0w
        go_wp2_with fail
        clear p0 HBw
        go_loopw [5, 25] (fun v5 i w' => ∃ m : Nat, m ≤ l.length ∧ i = .int .i64 m ∧ OO w' w3.heap.size v5 (bAll L j ++ bRow L j (l.take m)) ∧ Below w3.heap.size w3 w') (fun _ i _ => l.length - (intOf i).toNat)
        case atStart => exact ⟨0, by omega, rfl, by have := HO.out; simpa [bRow] using this, HB.out⟩
        case round =>
          clear HO HB
          obtain ⟨m, hm, rfl, hO, hB⟩ := hrel
          have HO := hide hO
          have HB := hide hB
          obtain ⟨a6, c6, rfl⟩ := hO.form
          clear hO hB
          obtain ⟨LN, hLN⟩ : ∃ LN, LN = (bAll L j ++ bRow L j (l.take m)).length := ⟨_, rfl⟩
          rw [← hLN] at HO ⊢
          have HLN := hide hLN
          clear hLN
          by_cases hlm : m < l.length
          · have hlm' : (m : Int) < (l.length : Int) := by omega
            have HBw := hide (hB3.trans (HB.out.mono hB3.size))
            obtain ⟨b1, o1, rfl, hb1, p0⟩ := IRow.iat HP.out HBw.out hlm
            have hmem : l[m] ∈ L[j] := by rw [← HL.out]; exact List.getElem_mem hlm
            have hbd := (HGG.out.2.2 j hlt).mem hmem
            have htk := bRow_take (L := L) (k := j) hlm
            obtain ⟨X, hX⟩ : ∃ X : Nat, l[m] = (X : Int) := ⟨l[m].toNat, by omega⟩
            rw [hX] at p0 hbd htk
            rw [show ((X : Int)).toNat = X by omega] at htk
            have hX12 : X < 12 := by omega
            have hX12' : (X : Int) < 12 := by omega
            have hj12 : j < 12 := by omega
            have hj12' : (j : Int) < 12 := by omega
            have HTk := hide htk
            have hbl := bRow_len L j (l.take m)
            have hbl2 : LN ≤ 300 := by
              rw [HLN.out, List.length_append]
              rw [List.length_take] at hbl
              omega
            clear hX hmem htk hbl
            have c4 : wr.cell? ⟨B4, j * 12 + X, none⟩ = some (.bool (dm L j X)) := by rw [((HY3.out.below HB.out HY3.out.lt)).c]; exact dA_cell _ hj12 hX12
            obtain ⟨q, hq⟩ : ∃ q, q = dm L j X := ⟨_, rfl⟩
            rw [← hq] at c4 HTk
            clear hq
            cases q with
            | false =>
              have HE : Hid (bAll L j ++ bRow L j (l.take m) = bAll L j ++ bRow L j (l.take (m + 1))) := hide (by rw [HTk.out]; simp)
              rw [HE.out] at HO
              go_wp2_with fail
              exact ⟨⟨m + 1, by omega, by go_num, HO.out, HB.out⟩, by simp [intOf]; omega⟩
            | true =>
              have HE : Hid (bAll L j ++ bRow L j (l.take (m + 1)) = (bAll L j ++ bRow L j (l.take m)) ++ [[(j : Int), (X : Int)]]) := hide (by rw [HTk.out]; simp)
              obtain ⟨vs, hvs⟩ := HO.out
              have HVs := hide hvs
              clear hvs
              obtain ⟨W1, hW1⟩ : ∃ W1, W1 = (wr.alloc (.cells #[.int .i64 (j : Int), .int .i64 (X : Int)] 3)).alloc (.cells #[.slice (some ⟨wr.heap.size, 0, none⟩) 2 2] 31) := ⟨_, rfl⟩
              have hb1 : Below wr.heap.size wr W1 := by rw [hW1]; exact ((Below.refl _ _).alloc (Nat.le_refl _) _).alloc (by simp) _
              have hx1 : W1.ownsRow wr.heap.size 3 1 (.slice (some ⟨wr.heap.size, 0, none⟩) 2 2) 2 (ic [(j : Int), (X : Int)]) := by
                rw [hW1]
                exact ⟨rfl, .inr ⟨wr.heap.size, 2, _, rfl, Nat.le_refl _, (Bx.new wr #[.int .i64 (j : Int), .int .i64 (X : Int)] 3).alloc _, Nat.le_refl _, by unfold maxLen; omega, rfl, rfl⟩⟩
              have hy1 : W1.cell? ⟨wr.heap.size + 1, 0, none⟩ = some (.slice (some ⟨wr.heap.size, 0, none⟩) 2 2) := by
                rw [hW1]
                simp
              have hob := own_keep HVs.out.own (fun k _ hk => hb1.block k hk)
              rw [← HLN.out] at hob
              have HW1 := hide hW1
              have hbw := HB.out.size
              have Hb1 := hide hb1
              have Hx1 := hide hx1
              have Hy1 := hide hy1
              have Hob := hide hob
              have hs1 := hb1.size
              clear hW1 hb1 hx1 hy1 hob
              go_wp2_with (at_builtin; rw [← HW1.out]; refine wpList_append_r rfl _ _ rfl w3.heap.size _ LN _ rfl Hob.out (wr.heap.size + 1) _ rfl Hy1.out rfl (by omega) (by omega) ?_)
              intro v6 w6 hO6 hg6
              have HO6 := hide (HVs.out.snoc (l := [(j : Int), (X : Int)]) hbw Hb1.out Hx1.out (by rw [← HLN.out]; exact hO6) hg6)
              rw [← HE.out] at HO6
              have HB6 := hide (HB.out.trans ((Hb1.out.mono hbw).trans (grown_below hg6 (by omega) (own_ge HVs.out.own))))
              clear hO6 hg6 Hob Hx1 Hy1 Hb1 HW1
              go_wp2_with fail
              exact ⟨⟨m + 1, by omega, by go_num, HO6.out, HB6.out⟩, by simp [intOf]; omega⟩
          · have HE : Hid (bAll L j ++ bRow L j (l.take m) = bAll L (j + 1)) := hide (by
              rw [bAll, List.take_of_length_le (by omega), HL.out]
              simp [hlt])
            rw [HE.out] at HO
            go_wp2_with fail
            exact ⟨⟨j + 1, by omega, by go_num, HO.out, HB.out⟩, by simp [intOf]; omega⟩
      · have HE : Hid (bAll L j = beR L) := hide (by rw [HRe.out, show j = L.length by omega])
        obtain ⟨LN, hLN⟩ : ∃ LN, LN = (bAll L j).length := ⟨_, rfl⟩
        rw [← hLN]
        have HLN := hide hLN
        clear hLN
        have HBw := hide (hB3.trans (HB.out.mono hB3.size))
        go_wp2_with fail
        refine bodyPost_ret (v := .tuple #[.slice a5 LN c5, .bool true]) (by simp [results, Try.results30, go_sem]) rfl ?_
        refine ⟨_, by rw [Hg.out], ?_, HBw.out⟩
        rw [HLN.out, ← HE.out]
        exact HO.out.lower hB3.size
  · have HRe : Hid (beR L = []) := hide (by rw [beR, if_neg hg])
    rw [Bool.not_eq_true] at hg
    have Hg := hide hg
    rw [hg]
    clear hg
    go_wp2_with fail
    refine bodyPost_ret (v := .tuple #[.slice none 0 0, .bool false]) (by simp [results, Try.results30, go_sem]) rfl ?_
    exact ⟨_, by rw [Hg.out], by rw [HRe.out]; exact OO.nil _ _, hB1⟩

end Go.Proofs.Ytangkpbehpgmiaa.W

/-
  Rows behind a constructor, by the program: contracts of opened and allOpened. Conditions: good data, rows of at most 1000 cells.
-/
import Derived.Test.YtfepljcblajfpabMsD
import Derived.Test.YtfepljcblajfpabPaM
import Derived.Test.YtfepljcblajfpabApS
namespace Go.Proofs.Ytfepljcblajfpab.W
open Go.ChangeShapes Go.WideShapes Go.ChangeAt Go.RowKit
set_option linter.unusedVariables false
set_option linter.unusedSimpArgs false

theorem opened_any (vd : Value) (D : List Int) (v : Value) (a : F) (c : Nat) (w : World) (hD : DRow w vd D) (hd : goodD D = true) (hc : c < D.length) (ha : a.ok D) (h0 : 1 ≤ a.len) (hv : PV w v a.flat) (hl : a.flat.length ≤ 1000) :
    Calls Try.prog 48 #[vd, v, .int .i64 (c : Int)] w fun e w' => OpOut D c a w v w' e ∧ Below w.heap.size w w' := by
  cases a with
  | nil => simp [F.len] at h0
  | cons x k r =>
    rcases good_kd ha.1 with h | h
    · exact opened_all vd D v x k r c w hD hd hc ha h.1 hv hl
    · exact opened_of vd D v x k r c w hD hc h.1 hv

theorem PV.keep {w w' : World} {v : Value} {l : List Pt} (h : PV w v l) (hs : w.heap.size ≤ w'.heap.size) (hk : ∀ k, v.ownBlock = some k → k < w.heap.size → w'.heap[k]? = w.heap[k]?) : PV w' v l := by
  obtain ⟨ad, c, rfl, hr, hc⟩ := h
  refine ⟨ad, c, rfl, ?_, hc⟩
  rcases hr with h | ⟨b, o, rfl, hr⟩
  · exact .inl h
  · exact .inr ⟨b, o, rfl, Nat.lt_of_lt_of_le hr.1 hs, fun i hi r hrr => (World.cell?_of_block (w := w) (hk b rfl hr.1)).trans (hr.2 i hi r hrr)⟩
theorem PV.lt {w : World} {v : Value} {l : List Pt} (h : PV w v l) (hl : l ≠ []) : ∀ k, v.ownBlock = some k → k < w.heap.size := by
  obtain ⟨ad, c, rfl, hr, hc⟩ := h
  intro k hk
  rcases hr with h | ⟨b, o, rfl, hr⟩
  · exact absurd h hl
  · simp only [Value.ownBlock, Option.some.injEq] at hk
    have := hr.1
    omega
/-- Slices, one behind the other, none of them in a block. -/
def PVs (w : World) (g : Option Nat) (vs : List Value) (L : List (List Pt)) : Prop := vs.length = L.length ∧ ∀ i (h : i < L.length), ∃ v, vs[i]? = some v ∧ PV w v L[i] ∧ (L[i] = [] ∨ ∀ k, v.ownBlock = some k → g ≠ some k)
theorem PVs.row {w : World} {base : Nat} {s : Value} {vs : List Value} {L : List (List Pt)} (h : PVs w s.ownBlock vs L) (ho : w.ownsRow base 28 1 s vs.length vs) (hL : QSm L) : QV w s L := by
  obtain ⟨hl, hv⟩ := h
  rcases ho.2 with ⟨h1, h2⟩ | ⟨g, cap, cur, h1, hg, hh, h2, h3, h4, h5⟩
  · subst h1
    have : L = [] := List.eq_nil_of_length_eq_zero (by omega)
    subst this
    exact ⟨none, 0, rfl, .inl rfl, hL, Nat.le_refl _⟩
  · subst h1
    refine ⟨some ⟨g, 0, none⟩, cap, by rw [hl], .inr ⟨g, 0, rfl, (Array.getElem?_eq_some_iff.1 hh).1, fun i hi => ?_⟩, hL, by omega⟩
    obtain ⟨v, e1, e2, -⟩ := hv i hi
    refine ⟨v, ?_, e2⟩
    rw [cell_of_blk hh, Nat.zero_add]
    have hlt : i < vs.length * 1 := by omega
    rw [← h5, List.getElem?_take_of_lt hlt] at e1
    simpa using e1
theorem slC_cells {w : World} {g : Nat} {v : Value} {t : TypeId} (h : w.heap[g]? = some (.cells #[v] t (0, 0))) :
    ∀ j u, ([v] : List Value)[j]? = some u → w.cell? ((⟨g, 0, none⟩ : Addr).add j) = some u := by
  intro j u hu
  rw [Addr.add_lit, Nat.zero_add, cell_of_blk h, ← hu]
  simp
theorem info_parts8 {P : Program} {t : TypeId} {z : Option Value} {sz by_ : Nat} (h : (P.info? t).map (fun i => (i.zero, i.size, i.bytes)) = some (z, sz, by_)) : ∃ i, P.info? t = some i ∧ i.zero = z ∧ i.size = sz ∧ i.bytes = by_ := infoPartsT h

set_option maxRecDepth 20000 in
set_option maxHeartbeats 8000000 in
theorem allOpened_any (vd : Value) (D : List Int) (v : Value) (R : List F) (c : Nat) (w : World) (hD : DRow w vd D) (hd : goodD D = true) (hc : c < D.length) (ho : ∀ b ∈ R, b.ok D ∧ 1 ≤ b.len ∧ b.flat.length ≤ 999) (hv : QV w v (R.map F.flat)) :
    Calls Try.prog 49 #[vd, v, .int .i64 (c : Int)] w fun e w' => ∃ v', e = .returned v' ∧ QV w' v' ((R.filterMap (opn D c)).map F.flat) ∧ Below w.heap.size w w' := by
  have HD := hide hD
  have Hd := hide hd
  obtain ⟨da, dc, rfl, -, hDl⟩ := hD
  obtain ⟨ad, cap0, rfl, hR, hs, hcap⟩ := hv
  have HR := hide hR
  have HO := hide ho
  have hl : R.length ≤ 1048576 := by simpa using hs.1
  simp only [List.length_map] at hcap ⊢
  clear hR hs ho hd
  have HB0 := hide (show Below w.heap.size w (w.alloc (.cells #[.slice da D.length dc] 31)) from (Below.refl _ _).alloc (Nat.le_refl _) _)
  have HX0 := hide (Bx.new w #[.slice da D.length dc] 31)
  obtain ⟨i0, hi0, hz0, hz1, hz2⟩ := infoPartsT infoPtS
  have Hi := hide hi0
  clear hi0
  go_enter Try.func49, Try.ntmps49
  go_wp2_with fail
  go_loopw [7, 14] (fun s i w' => ∃ (j : Nat) (vs : List Value), j ≤ R.length ∧ i = .int .i64 j ∧ PVs w' s.ownBlock vs (((R.take j).filterMap (opn D c)).map F.flat) ∧ w'.ownsRow (w.heap.size + 1) 28 1 s vs.length vs ∧ vs.length ≤ j ∧ Bx w' w.heap.size #[.slice da D.length dc] 31 ∧ Below w.heap.size w w') (fun _ i _ => R.length - (intOf i).toNat)
  case atStart => exact ⟨0, [], by omega, rfl, ⟨rfl, fun i h => by simp at h⟩, World.ownsRow_nil _ _ _ _, by simp, HX0.out, HB0.out⟩
  case round =>
    clear HX0 HB0
    obtain ⟨j, vs, hj, rfl, hP, hO, hvl, hX, hB⟩ := hrel
    have HP := hide hP
    have HOw := hide hO
    have HX := hide hX
    have xl := hX.lt
    obtain ⟨sad, sn, sc, hsf⟩ : ∃ sad sn sc, u7 = .slice sad sn sc := by
      obtain ⟨a, c, e⟩ := own_form hO
      exact ⟨_, _, _, e⟩
    subst hsf
    have hol := hO.lt
    have HOl := hide hol
    clear hP hO hX hol
    by_cases hlt : j < R.length
    · have hlt' : (j : Int) < (R.length : Int) := by omega
      have hltm : j < (R.map F.flat).length := by simpa using hlt
      obtain ⟨b, o, lv, rfl, hb, p0, pv⟩ := QRow.at HR.out hB hltm
      rw [List.getElem_map] at pv
      obtain ⟨b', o', lv', e1, -, p0', pv'⟩ := QRow.at HR.out (Below.refl _ _) hltm
      simp only [Option.some.injEq, Addr.mk.injEq] at e1
      obtain ⟨rfl, rfl, -⟩ := e1
      have hvv : lv' = lv := by
        have := (hB.cell (p := ⟨b, o + j, none⟩) hb).trans p0'
        rw [p0] at this
        exact (Option.some.inj this).symm
      subst hvv
      rw [List.getElem_map] at pv'
      obtain ⟨ok, h1, h98⟩ := HO.out R[j] (List.getElem_mem hlt)
      have hne : R[j].flat ≠ [] := by
        intro h
        cases hR : R[j] with
        | nil => rw [hR] at h1; simp [F.len] at h1
        | cons x k r => rw [hR] at h; simp [F.flat] at h
      have hlw := pv'.lt hne
      have HC := hide (fun (w' : World) (hb : Below wr.heap.size wr w') => opened_any (.agg #[.slice da D.length dc]) D lv' R[j] c w' (HD.out.below (hB.trans (hb.mono hB.size))) Hd.out hc ok h1 (pv.below hb) (by omega))
      have htk : (R.take (j + 1)).filterMap (opn D c) = (R.take j).filterMap (opn D c) ++ (opn D c R[j]).toList := by
        rw [List.take_succ_eq_append_getElem hlt, List.filterMap_append]
        cases h : opn D c R[j] with
        | none => simp [h]
        | some a' => simp [h]
      obtain ⟨la, lc, hlv, -, -⟩ := id pv
      obtain ⟨a, ha⟩ : ∃ a, a = R[j] := ⟨_, rfl⟩
      rw [← ha] at HC htk hlv ok
      have hfa := hide (fun a' h => (opn_facts (c := c) (a' := a') ok h).2.2.2.1)
      have ha98 : a.flat.length ≤ 999 := by rw [ha]; exact h98
      have HTk := hide htk
      have HLw := hide hlw
      subst hlv
      obtain ⟨N, hN⟩ : ∃ N, N = a.flat.length := ⟨_, rfl⟩
      rw [← hN] at p0 HC HLw
      have cx := HX.out.c
      clear ha htk hlw pv pv' p0' ok h1 hne h98 hN
      go_wp2_with fail
      refine Calls.mono (HC.out _ (Below.refl _ _)) ?_
      rintro e w3 ⟨⟨oa, on, oc, rfl, hob, hop⟩, hb3⟩
      have hsz3 := hb3.size
      have hB3 : Below w.heap.size w w3 := hB.trans (hb3.mono hB.size)
      have HX3 := hide (HX.out.below hb3 xl)
      clear p0 cx HC HX
      cases hoc : opn D c a with
      | none =>
        rw [hoc] at HTk
        simp only [Option.toList_none, List.append_nil] at HTk
        have HP3 := hide (show PVs w3 (Value.slice sad sn sc).ownBlock vs (((R.take (j + 1)).filterMap (opn D c)).map F.flat) from by
          rw [HTk.out]
          refine ⟨HP.out.1, fun i hi => ?_⟩
          obtain ⟨x, e1, e2, e3⟩ := HP.out.2 i hi
          exact ⟨x, e1, e2.below hb3, e3⟩)
        have HO3 := hide (own_keep HOw.out (w' := w3) (fun k _ hk => hb3.block k hk))
        clear hob hop hoc HTk HP HOw hb3
        simp only [Option.isSome_none]
        go_wp2_with fail
        exact ⟨⟨j + 1, vs, by omega, by go_num, HP3.out, HO3.out, by omega, HX3.out, hB3⟩, by simp [intOf]; omega⟩
      | some a' =>
        have hpa := hop a' hoc
        have hfl := hfa.out a' hoc
        have hn2 := nP_le Hd.out c
        rw [hoc] at HTk
        simp only [Option.toList_some] at HTk
        have HPa := hide hpa
        have HOb := hide hob
        have hO3 := own_keep HOw.out (w' := w3) (fun k _ hk => hb3.block k hk)
        clear hob hop hoc hpa
        simp only [Option.isSome_some]
        go_wp2_with (at_builtin; refine wpList_append_sep rfl _ _ 33 rfl (w.heap.size + 1) 28 i0 (.slice none 0 0) 1 24 Try.underlying33 Hi.out hz0 hz1 hz2 rfl (by decide) _ _ _ rfl (hO3.alloc _) ⟨w3.heap.size, 0, none⟩ 1 1 [.slice oa on oc] rfl rfl ?c1 ?c2 ?c3 ?c4 ?c5 ?_)
        case c1 => exact slC_cells (heap_alloc_new w3 _)
        case c2 => intro u hu; simp only [List.mem_singleton] at hu; subst hu; rfl
        case c3 => unfold maxLen; omega
        case c4 => omega
        case c5 => simp; omega
        intro v' w4 hown4 hgrow hap
        have hb4 : Below (w.heap.size + 1) w3 w4 := ((Below.refl _ _).alloc (by omega) _).grown hgrow (by simp; omega) (fun k hk => (HOl.out k hk).1)
        have hk4 : ∀ k, (Value.slice sad sn sc).ownBlock ≠ some k → k < w3.heap.size → w4.heap[k]? = w3.heap[k]? := fun k hk hlt => by
          rw [hgrow.block k (by simp; omega) (fun e => hk e.symm), heap_alloc_old _ _ hlt]
        have hap' : ∀ k, k < w3.heap.size → (Value.slice sad sn sc).ownBlock ≠ some k → v'.ownBlock ≠ some k := fun k hk hn e => by
          rcases hap k e with h | h
          · exact hn h
          · simp at h; omega
        have HX4 := hide (HX3.out.below hb4 (by omega))
        obtain ⟨g, cap, rfl, hg0, hg1, hgc⟩ := tOwn_lies hown4 (by omega)
        have HK4 := hide hk4
        have HO4 := hide hown4
        have HAp := hide hap'
        have hsz4 := hb4.size
        have hlen : (vs ++ [Value.slice oa on oc]).length = vs.length + 1 := by simp
        have HP4 := hide (show PVs w4 (Value.slice (some ⟨g, 0, none⟩) (vs.length + 1) cap).ownBlock (vs ++ [.slice oa on oc]) (((R.take (j + 1)).filterMap (opn D c)).map F.flat) from by
          rw [HTk.out, List.map_append]
          refine ⟨by simp [HP.out.1], fun i hi => ?_⟩
          by_cases hi1 : i < vs.length
          · have hi2 : i < (((R.take j).filterMap (opn D c)).map F.flat).length := by rw [← HP.out.1]; exact hi1
            obtain ⟨x, e1, e2, e3⟩ := HP.out.2 i hi2
            rw [List.getElem_append_left hi2]
            refine ⟨x, by rw [List.getElem?_append_left hi1]; exact e1, ?_, ?_⟩
            · rcases e3 with e3 | e3
              · rw [e3] at e2 ⊢
                obtain ⟨xa, xc, rfl, -, h3⟩ := e2
                exact ⟨xa, xc, rfl, .inl rfl, h3⟩
              · exact (e2.below hb3).keep (by omega) (fun k hk hk2 => HK4.out k (fun h => e3 k hk (by rw [h])) hk2)
            · rcases e3 with e3 | e3
              · exact .inl e3
              · by_cases hne : (((R.take j).filterMap (opn D c)).map F.flat)[i] = []
                · exact .inl hne
                · exact .inr (fun k hk => HAp.out k (Nat.lt_of_lt_of_le (e2.lt hne k hk) hsz3) (fun h => e3 k hk (by rw [h])))
          · have hi2 : i = vs.length := by simp [HP.out.1] at hi hi1 ⊢; omega
            subst hi2
            have hge : (((R.take j).filterMap (opn D c)).map F.flat).length ≤ vs.length := by rw [← HP.out.1]; exact Nat.le_refl _
            rw [List.getElem_append_right hge]
            simp only [List.map_cons, List.map_nil, List.getElem_singleton]
            refine ⟨.slice oa on oc, by simp, ?_, ?_⟩
            · by_cases hne : a'.flat = []
              · have h0 := HPa.out
                rw [hne] at h0 ⊢
                obtain ⟨xa, xc, e, -, h3⟩ := h0
                exact ⟨xa, xc, e, .inl rfl, h3⟩
              · refine HPa.out.keep (by omega) (fun k hk hk2 => HK4.out k (fun h => ?_) hk2)
                obtain ⟨o1, o2⟩ := HOl.out k h
                rcases HOb.out k hk with h5 | h5
                · have := HLw.out k h5; omega
                · omega
            · by_cases hne : a'.flat = []
              · exact .inl hne
              · refine .inr (fun k hk => HAp.out k (HPa.out.lt hne k hk) (fun h => ?_))
                obtain ⟨o1, o2⟩ := HOl.out k h
                rcases HOb.out k hk with h5 | h5
                · have := HLw.out k h5; omega
                · omega)
        clear hgrow hown4 hap hk4 hap' hgc HPa HOb HP HTk hO3
        go_wp2_with fail
        exact ⟨⟨j + 1, vs ++ [.slice oa on oc], by omega, by go_num, HP4.out, by rw [hlen]; exact HO4.out, by rw [hlen]; omega, HX4.out, hB3.trans (hb4.mono (by omega))⟩, by simp [intOf]; omega⟩
    · obtain rfl : j = R.length := by omega
      go_wp2_with fail
      go_ret
      refine ⟨_, rfl, ?_, hB⟩
      have hP := HP.out
      rw [List.take_length] at hP
      refine hP.row HOw.out ⟨?_, fun l hl' => ?_⟩
      · rw [← hP.1]; omega
      · obtain ⟨a', ha', rfl⟩ := List.mem_map.1 hl'
        obtain ⟨b0, hb0, e0⟩ := List.mem_filterMap.1 ha'
        obtain ⟨g1, g2, g3⟩ := HO.out b0 hb0
        have h4 := (opn_facts g1 e0).2.2.2.1
        have h5 := nP_le Hd.out c
        omega
end Go.Proofs.Ytfepljcblajfpab.W

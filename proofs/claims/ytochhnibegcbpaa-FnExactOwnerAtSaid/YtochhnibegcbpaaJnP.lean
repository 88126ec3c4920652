/-
  Who goes on to each block: preds of the program, l11Preds of the specification, both PredsOf. Conditions: none but those that each theorem states.
-/
import Derived.Test.YtochhnibegcbpaaJnM
namespace Go.Proofs.Ytochhnibegcbpaa.W
open Go.ChangeShapes Go.WideShapes Go.ChangeAt Go.RowKit Go.Joins
set_option linter.unusedVariables false
set_option linter.unusedSimpArgs false

theorem wpList_append_ia {w : World} {ops : Array Oper} {rest : List Oper} {o : Oper} {a : Act} {Q : Exit → Act → World → Prop} (hgd : o.guard = none) (s x : Operand)
    (ho : o.op = .call { callee := .builtin .append, args := #[s, x], argTypes := #[35, 35] })
    (base : Nat) (v : Value) (n : Nat) (xs : List Value) (hs : a.eval s = v) (hown : w.ownsRow base 3 1 v n xs) (u : Value) (m : Nat) (vs : List Value) (hx : a.eval x = u) (hu : PtI w u m vs) (hnm : n + m ≤ 1048576) (hbase : base ≤ w.heap.size)
    (h : ∀ v' w', w'.ownsRow base 3 1 v' (n + m) (xs ++ vs) → w.grownBy w' v.ownBlock → Apart w v v' → wpList Try.prog ops Q rest (a.put o.dst v') w') : wpList Try.prog ops Q (o :: rest) a w :=
  wpList_plain hgd fun _ hK => wp_append_i s x ho base v n xs hs hown u m vs hx hu hnm hbase (fun v' w' h1 h2 h3 => hK _ _ (h v' w' h1 h2 h3))

set_option maxHeartbeats 8000000 in
theorem preds_any (v : Value) (L : List (List Int)) (w : World) (h : GRow w v L) (hg : GG L) :
    Calls Try.prog 53 #[v] w fun e w' => ∃ v', e = .returned v' ∧ OO w' w.heap.size v' (pds L) ∧ Below w.heap.size w w' := by
  obtain ⟨ad, c, rfl, hR, hs, hlc⟩ := h
  have hB0 : Below w.heap.size w (w.alloc (.cells #[.slice ad L.length c] 28)) := (Below.refl _ _).alloc (Nat.le_refl _) _
  have HX := hide (Bx.new w #[.slice ad L.length c] 28)
  have HV : Hid (∀ w', Below w.heap.size w w' → GRow w' (.agg #[.slice ad L.length c]) L) := hide (fun w' hb => ⟨ad, c, rfl, hR.below hb, hs, hlc⟩)
  have hR0 := hR
  have HGG := hide hg
  have hl12 := hg.2.1
  clear hR hs hlc hg
  go_enter Try.func53, Try.ntmps53
  go_wp2_with fail
  refine Calls.mono (reached_any _ L _ (HV.out _ hB0) HGG.out) ?_
  rintro e w2 ⟨rfl, hb⟩
  have hB2 := hB0.trans (hb.mono hB0.size)
  have HX2 := hide (HX.out.below hb HX.out.lt)
  clear hb HX hB0 HV
  obtain ⟨r, hr⟩ : ∃ r, r = rc L (-1) 0 := ⟨_, rfl⟩
  rw [← hr]
  have Hr := hide hr
  clear hr
  have HX3 : Hid ((w2.alloc (.cells #[.bool false, .bool false, .bool false, .bool false, .bool false, .bool false, .bool false, .bool false, .bool false, .bool false, .bool false, .bool false] 52)).heap[w2.heap.size]? = some (.cells #[.bool false, .bool false, .bool false, .bool false, .bool false, .bool false, .bool false, .bool false, .bool false, .bool false, .bool false, .bool false] 52 (0, 0))) := hide (heap_alloc_new w2 _)
  go_upto_region 2 with (refine wpList_store_row rfl 52 _ _ rfl w2.heap.size _ rfl rfl 52 _ HX3.out bsInfo rfl (sA_one _) ?_)
  rw [World.setRow_alloc_new]
  clear HX3
  obtain ⟨w3, hw3⟩ : ∃ w3, w3 = w2.alloc (.cells (sA r) 52) := ⟨_, rfl⟩
  rw [← hw3]
  have hB3 : Below w.heap.size w w3 := by rw [hw3]; exact hB2.alloc hB2.size _
  have HY3 : Hid (Bx w3 w2.heap.size (sA r) 52) := hide (by rw [hw3]; exact Bx.new w2 _ _)
  have HX3 : Hid (Bx w3 w.heap.size #[.slice ad L.length c] 28) := hide (by rw [hw3]; exact HX2.out.alloc _)
  obtain ⟨B3, hB3'⟩ : ∃ B3, B3 = w2.heap.size := ⟨_, rfl⟩
  rw [← hB3'] at HY3 ⊢
  have hBw : w.heap.size ≤ B3 := by rw [hB3']; exact hB2.size
  clear hw3 hB3' HX2 hB2
  have hmk := mk_ISS L.length (by omega)
  have cx := HX3.out.c
  have lx := HX3.out.lt
  go_upto_region 3 with fail
  clear hmk cx lx
  have hB4 : Below w.heap.size w (w3.alloc (.cells (madeCells #[.slice none 0 0] L.length) 35)) := hB3.alloc hB3.size _
  have HO4 := hide (OOv.new w3 w.heap.size L.length (by omega) hB3.size)
  have HY4 : Hid (Bx (w3.alloc (.cells (madeCells #[.slice none 0 0] L.length) 35)) B3 (sA r) 52) := hide (HY3.out.alloc _)
  have HX4 : Hid (Bx (w3.alloc (.cells (madeCells #[.slice none 0 0] L.length) 35)) w.heap.size #[.slice ad L.length c] 28) := hide (HX3.out.alloc _)
  have hl3 := HY3.out.lt
  obtain ⟨w4, hw4⟩ : ∃ w4, w4 = w3.alloc (.cells (madeCells #[.slice none 0 0] L.length) 35) := ⟨_, rfl⟩
  obtain ⟨S, hS⟩ : ∃ S, S = w3.heap.size := ⟨_, rfl⟩
  rw [← hw4] at hB4 HO4 HY4 HX4 ⊢
  rw [← hS] at HO4 hl3 ⊢
  have hSw : w.heap.size ≤ S := by omega
  clear hw4 hS HX3 HY3 hB3
  have cx := HX4.out.c
  have lx := HX4.out.lt
  go_wp2_with fail
  clear cx lx HX4
  go_loopw [18] (fun i w' => ∃ (j : Nat) (Ls : List (List Int)) (vs : List Value), j ≤ L.length ∧ i = .int .i64 j ∧ Ls.length = L.length ∧ OOv w' w.heap.size (.slice (some ⟨S, 0, none⟩) L.length L.length) Ls vs ∧ (∀ y (h : y < Ls.length), Ls[y] = lst (pB L y) j) ∧ Bx w' B3 (sA r) 52 ∧ Below w.heap.size w w') (fun i _ => L.length - (intOf i).toNat)
  case atStart => exact ⟨0, _, _, by omega, rfl, by simp, HO4.out, fun y h => by simp [lst], HY4.out, hB4⟩
  case round =>
    clear HO4 HY4 hB4
    obtain ⟨j, Ls, vs, hj, rfl, hLl, hO, hLs, hX3, hB⟩ := hrel
    have HO := hide hO
    have HLs := hide hLs
    have HX3 := hide hX3
    have HB := hide hB
    have HLl := hide hLl
    clear hO hLs hX3 hB hLl
    by_cases hlt : j < L.length
    · have hlt' : (j : Int) < (L.length : Int) := by omega
      obtain ⟨b, oo, v, rfl, hb, p0w, pv⟩ := QRow.at hR0 (Below.refl _ _) hlt
      have p0 := (HB.out.cell (p := ⟨b, oo + j, none⟩) hb).trans p0w
      obtain ⟨ad1, c1, rfl, pr, -⟩ := pv
      obtain ⟨l, hl1⟩ : ∃ l, l = L[j] := ⟨_, rfl⟩
      rw [← hl1] at p0 pr
      have HL := hide hl1
      have HP := hide pr
      have HRi := hide (HGG.out.2.2 j hlt)
      rw [← hl1] at HRi
      have hll : l.length ≤ 12 := by have := HRi.out.len; omega
      clear hl1 pr p0w
      go_wp2_with fail
      clear p0
      go_loopw [25] (fun i w' => ∃ (m : Nat) (Ls : List (List Int)) (vs : List Value), m ≤ l.length ∧ i = .int .i64 m ∧ Ls.length = L.length ∧ OOv w' w.heap.size (.slice (some ⟨S, 0, none⟩) L.length L.length) Ls vs ∧ (∀ y (h : y < Ls.length), Ls[y] = pS L j l m y) ∧ Bx w' B3 (sA r) 52 ∧ Below w.heap.size w w') (fun i _ => l.length - (intOf i).toNat)
      case atStart => exact ⟨0, Ls, vs, by omega, rfl, HLl.out, HO.out, fun y h => by rw [pS_zero]; exact HLs.out y h, HX3.out, HB.out⟩
      case round =>
        clear HO HLs HX3 HB HLl
        obtain ⟨m, Ls, vs, hm, rfl, hLl, hO, hLs, hX3, hB⟩ := hrel
        have HO := hide hO
        have HLs := hide hLs
        have HX3 := hide hX3
        have HB := hide hB
        have HLl := hide hLl
        clear hO hLs hX3 hB
        by_cases hlm : m < l.length
        · have hlm' : (m : Int) < (l.length : Int) := by omega
          obtain ⟨b1, o1, rfl, hb1, p0⟩ := IRow.iat HP.out HB.out hlm
          have hbd := HRi.out.mem (List.getElem_mem hlm)
          obtain ⟨X, hX⟩ : ∃ X : Nat, l[m] = (X : Int) := ⟨l[m].toNat, by omega⟩
          rw [hX] at p0 hbd
          have HXx := hide hX
          clear hX
          have hj12' : (j : Int) < 12 := by omega
          have c3 : wr.cell? ⟨B3, j, none⟩ = some (.bool (r j)) := by rw [HX3.out.c]; exact sA_at _ (by omega)
          obtain ⟨rj, hrj⟩ : ∃ rj, rj = r j := ⟨_, rfl⟩
          rw [← hrj] at c3
          have Hrj := hide hrj
          clear hrj
          cases rj with
          | false =>
            have HN : Hid (∀ y (h : y < Ls.length), Ls[y] = pS L j l (m + 1) y) := hide (fun y h => by
              rw [pS_no L (by rw [← Hr.out, ← Hrj.out])]
              exact HLs.out y h)
            clear hbd hLl
            go_wp2_with fail
            exact ⟨⟨m + 1, Ls, vs, by omega, by go_num, HLl.out, HO.out, HN.out, HX3.out, HB.out⟩, by simp [intOf]; omega⟩
          | true =>
            have hXl : X < L.length := by omega
            have hXl' : (X : Int) < (L.length : Int) := by omega
            have hX2 : X < Ls.length := by omega
            obtain ⟨xv, hvX, hox⟩ := HO.out.at_ X hX2
            have hLX := HLs.out X hX2
            rw [hLX] at hox
            obtain ⟨LX, hLXe⟩ : ∃ LX, LX = pS L j l m X := ⟨_, rfl⟩
            rw [← hLXe] at hox
            have hn13 : LX.length ≤ 13 := by rw [hLXe]; have := pS_len L j l m X; omega
            have HvX := hide hvX
            obtain ⟨gS, capS, eS, hgS, hlS, cS⟩ := tOwn_lies HO.out.own (by omega)
            simp only [Value.slice.injEq, Option.some.injEq, Addr.mk.injEq, and_true] at eS
            obtain ⟨rfl, -, -⟩ := eS
            have cX := cS X xv hvX
            have fS : ∀ i, wr.frozen? ⟨S, i, none⟩ = false := by
              rcases HO.out.own.2 with ⟨h1, -⟩ | ⟨g, cap, cur, h1, hg, hh, -⟩
              · cases h1
              · simp only [Value.slice.injEq, Option.some.injEq, Addr.mk.injEq, and_true] at h1
                obtain ⟨rfl, -, -⟩ := h1
                exact fun i => unfrozen_of_blk hh i
            have HneS : Hid (xv.ownBlock ≠ some S) := hide (fun e => HO.out.far X xv S hvX e rfl)
            have Hne3 : Hid (xv.ownBlock ≠ some B3) := hide (fun e => by
              rcases hox.2 with ⟨h1, -⟩ | ⟨g, cap, cur, h1, hg, hh, -⟩
              · rw [h1] at e; cases e
              · rw [h1] at e
                cases e
                have h2 := HX3.out
                unfold Bx at h2
                rw [hh] at h2
                simp at h2)
            have Hge := hide (own_ge hox)
            have hl3 := HX3.out.lt
            have hbw := HB.out.size
            have Hba : Hid (Below wr.heap.size wr (wr.alloc (.cells #[.int .i64 (j : Int)] 3))) := hide ((Below.refl _ _).alloc (Nat.le_refl _) _)
            have HBa : Hid (Below w.heap.size w (wr.alloc (.cells #[.int .i64 (j : Int)] 3))) := hide (HB.out.trans (Hba.out.mono hbw))
            have Hox : Hid ((wr.alloc (.cells #[.int .i64 (j : Int)] 3)).ownsRow w.heap.size 3 1 xv LX.length (ic LX)) := hide (own_keep hox (fun k _ hk => Hba.out.block k hk))
            obtain ⟨ax, cx2, exv⟩ := own_form hox
            obtain ⟨nx, hnx⟩ : ∃ nx, nx = LX.length := ⟨_, rfl⟩
            rw [← hnx] at exv Hox hn13
            have Hnx := hide hnx
            subst exv
            have HPt : Hid (PtI (wr.alloc (.cells #[.int .i64 (j : Int)] 3)) (.slice (some ⟨wr.heap.size, 0, none⟩) 1 1) 1 (ic [(j : Int)])) := hide (.inr ⟨_, _, rfl, rfl, fun q x hx => by
              obtain rfl : q = 0 := by have := (List.getElem?_eq_some_iff.1 hx).1; simp [ic] at this; omega
              rw [Addr.add_lit, (Bx.new wr #[.int .i64 (j : Int)] 3).c]
              simpa [ic] using hx, ic_one _⟩)
            have HLn : Hid ((Ls.set X (LX ++ [(j : Int)])).length = L.length) := hide (by rw [List.length_set]; exact HLl.out)
            have HLs2 : Hid (∀ y (h : y < (Ls.set X (LX ++ [(j : Int)])).length), (Ls.set X (LX ++ [(j : Int)]))[y] = pS L j l (m + 1) y) := hide (fun y h => by
              by_cases e : X = y
              · subst e; rw [List.getElem_set_self, pS_same L HRi.out hlm HXx.out (by rw [← Hr.out, ← Hrj.out]), hLXe]
              · rw [List.getElem_set_ne e, pS_other L hlm (by rw [HXx.out]; omega)]
                exact HLs.out y (by simpa using h))
            have hS2 : w.heap.size ≤ (wr.alloc (.cells #[.int .i64 (j : Int)] 3)).heap.size := by simp; omega
            clear hox hvX cS hnx hLX hLXe hbd hLl
            go_wp2_with (at_builtin; refine wpList_append_ia rfl _ _ rfl w.heap.size _ nx _ rfl Hox.out _ 1 _ rfl HPt.out (by omega) hS2 ?_)
            intro v2 w5 hO2 hg2 hap
            have hS5 : w5.heap[S]? = wr.heap[S]? := (hg2.block S (Nat.lt_of_lt_of_le hlS Hba.out.size) (fun e => HneS.out e.symm)).trans (Hba.out.block S hlS)
            have h35 : w5.heap[B3]? = wr.heap[B3]? := (hg2.block B3 (Nat.lt_of_lt_of_le hl3 Hba.out.size) (fun e => Hne3.out e.symm)).trans (Hba.out.block B3 hl3)
            have c5 : w5.cell? ⟨S, X, none⟩ = some (.slice ax nx cx2) := (World.cell?_of_block (a := ⟨S, X, none⟩) hS5).trans cX
            have f5 : ∀ i, w5.frozen? ⟨S, i, none⟩ = false := fun i => (World.frozen?_of_block (a := ⟨S, i, none⟩) hS5).trans (fS i)
            have hl5 : (LX ++ [(j : Int)]).length = nx + 1 := by rw [List.length_append, List.length_singleton, Hnx.out]
            have HOn := hide (OOv.app (l := LX ++ [(j : Int)]) HO.out HLl.out.symm hX2 hbw Hba.out HvX.out (by rw [hl5, ic_app]; exact hO2) hg2 hap)
            have HBn : Hid (Below w.heap.size w (w5.setCell ⟨S, X, none⟩ v2)) := hide ((HBa.out.trans (grown_below hg2 hS2 Hge.out)).setCell (p := ⟨S, X, none⟩) hSw v2)
            have HXn : Hid (Bx (w5.setCell ⟨S, X, none⟩ v2) B3 (sA r) 52) := hide (Bx.setne (show Bx w5 B3 (sA r) 52 from h35.trans HX3.out) S X v2 (by omega))
            obtain ⟨av, cv, rfl⟩ := own_form hO2
            clear hS5 h35 hO2 hg2 hap hl5 cX fS
            go_wp2_with fail
            exact ⟨⟨m + 1, _, _, by omega, by go_num, HLn.out, HOn.out, HLs2.out, HXn.out, HBn.out⟩, by simp [intOf]; omega⟩
        · have HN : Hid (∀ y (h : y < Ls.length), Ls[y] = lst (pB L y) (j + 1)) := hide (fun y h => by
            rw [HLs.out y h, show m = l.length by omega, HL.out, pS_end L hlt])
          go_wp2_with fail
          exact ⟨⟨j + 1, Ls, vs, by omega, by go_num, HLl.out, HO.out, HN.out, HX3.out, HB.out⟩, by simp [intOf]; omega⟩
    · have HE : Hid (Ls = pds L) := hide (by
        refine List.ext_getElem (by rw [pds_len]; exact HLl.out) (fun k h1 h2 => ?_)
        rw [pds_at L h2, HLs.out k h1, show j = L.length by omega]
        rfl)
      go_wp2_with fail
      go_ret
      exact ⟨_, rfl, ⟨vs, by rw [← HE.out]; exact HO.out⟩, HB.out⟩
end Go.Proofs.Ytochhnibegcbpaa.W

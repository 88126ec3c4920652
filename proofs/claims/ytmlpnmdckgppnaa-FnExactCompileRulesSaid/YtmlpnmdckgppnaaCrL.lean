/-
  slices.Clone at numbers; the first node of some askings: (impl.Data).nodeOf. Conditions: good data, askings of at most 1000 cells in all.
-/
import Derived.Test.YtmlpnmdckgppnaaCrK
import Derived.Lib.SliceRun
import Derived.Laws.Externs
namespace Go.Proofs.Ytmlpnmdckgppnaa.W
open Go.ChangeShapes Go.WideShapes Go.ChangeAt Go.RowKit
set_option linter.unusedVariables false
set_option linter.unusedSimpArgs false

theorem IRow.news {w : World} {b o : Nat} {l : List Int} (h : IRow w (some ⟨b, o, none⟩) l) : ∀ j u, (rcells 1 iC l)[j]? = some u → w.cell? ((⟨b, o, none⟩ : Addr).add j) = some u := by
  intro j u hu
  have hj : j < l.length := by
    have := (List.getElem?_eq_some_iff.1 hu).1
    rwa [rcells_len, Nat.mul_one] at this
  have e2 := rcells_at 1 iC l j hj 0 (by omega)
  rw [Nat.mul_one, Nat.add_zero, hu] at e2
  obtain ⟨b', o', e, -, h3⟩ := IRow.iat h (Below.refl _ _) hj
  simp only [Option.some.injEq, Addr.mk.injEq] at e
  obtain ⟨rfl, rfl, -⟩ := e
  rw [Addr.add_lit, h3, e2]
theorem iC_one (l : List Int) : ∀ u ∈ rcells 1 iC l, u.oneCell' = true := by
  induction l with
  | nil => intro u hu; simp [rcells] at hu
  | cons x l ih =>
    intro u hu
    simp only [rcells, List.mem_append, List.mem_map, List.mem_range] at hu
    rcases hu with ⟨r, hr, rfl⟩ | hu
    · rfl
    · exact ih u hu

set_option maxRecDepth 20000 in
set_option maxHeartbeats 2000000 in
theorem cloneI_any (v : Value) (l : List Int) (w : World) (hl : l.length ≤ 1048576) (h : IV w v l) :
    Calls Try.prog 48 #[v] w fun e w' => ∃ v', e = .returned v' ∧ w'.ownsRow w.heap.size 3 1 v' l.length (rcells 1 iC l) ∧ Below w.heap.size w w' := by
  obtain ⟨i0, hi0, z0, z1, z2⟩ := infoPartsT infoIntC
  have HI := hide hi0
  obtain ⟨ad, c, rfl, hr, hc⟩ := h
  have HR := hide hr
  cases ad with
  | none =>
    have hl0 : l = [] := by
      rcases hr with h1 | ⟨b, o, h1, -⟩
      · exact h1
      · cases h1
    subst hl0
    clear hi0 hr
    have hnil : ∀ w, (binOp .eql 22 (.slice none 0 c) (.slice none 0 0)).run Try.prog w = .ok (.bool true) w := fun w => by rw [Lib.run_eql_slice_nil w 22 3 _ _ _ _ _ Try.underlying22]; rfl
    simp only [List.length_nil]
    go_enter Try.func48, Try.ntmps48
    go_wp2_with fail
    go_ret
    exact ⟨_, rfl, World.ownsRow_nil _ _ _ _, Below.refl _ _⟩
  | some a =>
    obtain ⟨b, o, sp⟩ := a
    have hnil : ∀ w, (binOp .eql 22 (.slice (some ⟨b, o, sp⟩) l.length c) (.slice none 0 0)).run Try.prog w = .ok (.bool false) w := fun w => by rw [Lib.run_eql_slice_nil w 22 3 _ _ _ _ _ Try.underlying22]; rfl
    have HO0 : Hid ((w.alloc (.cells #[] 3)).ownsRow w.heap.size 3 1 (.slice (some ⟨w.heap.size, 0, none⟩) 0 0) 0 []) := hide ⟨rfl, .inr ⟨w.heap.size, 0, #[], rfl, Nat.le_refl _, heap_alloc_new w _, Nat.le_refl _, by omega, rfl, rfl⟩⟩
    have hb0 : Below w.heap.size w (w.alloc (.cells #[] 3)) := (Below.refl _ _).alloc (Nat.le_refl _) _
    by_cases hl0 : l = []
    · subst hl0
      have hrun : (Builtin.append_ #[22, 22] 22 #[.slice (some ⟨w.heap.size, 0, none⟩) 0 0, .slice (some ⟨b, o, sp⟩) 0 c]).run Try.prog (w.alloc (.cells #[] 3)) = .ok (.slice (some ⟨w.heap.size, 0, none⟩) 0 0) (w.alloc (.cells #[] 3)) := by
        simp [Builtin.append_, run_underlying Try.underlying22, sizeOf, typeInfo, hi0, z1, Builtin.lenOf, Builtin.firstCells, loadCells, loadCellsFrom, storeCells]
      simp only [List.length_nil] at hnil ⊢
      clear hi0 hr HR
      go_enter Try.func48, Try.ntmps48
      go_wp2_with (at_builtin; refine Lib.wpList_append_run _ rfl _ _ _ _ rfl _ _ rfl rfl _ _ hrun ?_)
      go_ret
      exact ⟨_, rfl, HO0.out, hb0⟩
    · obtain ⟨b', o', e1, -⟩ : ∃ b' o', (some ⟨b, o, sp⟩ : Option Addr) = some ⟨b', o', none⟩ ∧ True := by
        rcases hr with h | ⟨b', o', h, -⟩
        · exact absurd h hl0
        · exact ⟨b', o', h, trivial⟩
      simp only [Option.some.injEq, Addr.mk.injEq] at e1
      obtain ⟨rfl, rfl, rfl⟩ := e1
      have HNw := hide (IRow.news (RRow.below HR.out hb0))
      have M1 : Hid (0 + l.length ≤ maxLen) := hide (by unfold maxLen; omega)
      have hbB : w.heap.size ≤ (w.alloc (.cells #[] 3)).heap.size := by simp
      have HCl := hide (rcells_len 1 iC l)
      clear hi0 hr
      go_enter Try.func48, Try.ntmps48
      go_wp2_with (at_builtin; refine wpList_append_own _ rfl _ _ 22 rfl w.heap.size 3 i0 (.int .i64 0) 1 8 Try.underlying22 HI.out z0 z1 z2 rfl (by decide) _ 0 [] rfl HO0.out ⟨b, o, none⟩ l.length c (rcells 1 iC l) rfl HCl.out HNw.out (iC_one l) M1.out (by omega) hbB ?_)
      intro v1 w1 ho1 hg1 _
      have hB1 : Below w.heap.size w w1 := Below.grown hb0 hg1 (by simp) (fun k hk => by simp only [Value.ownBlock, Option.some.injEq] at hk; omega)
      obtain ⟨ad1, c1, rfl⟩ := own_form ho1
      have HO1 := hide ho1
      clear ho1 hg1 hnil
      go_wp2_with fail
      go_ret
      exact ⟨_, rfl, HO1.out, hB1⟩


theorem infoAskS : (Try.prog.info? 61).map (fun i => (i.zero, i.size, i.bytes)) = some (some (.slice none 0 0), 1, 24) := by kernel_rfl
theorem mk_AskSS (n : Nat) (hn : n ≤ 1048576) (w : World) :
    (Instr.makeSlice 79 (.int .i64 (n : Int)) (.int .i64 (n : Int))).run Try.prog w = .ok (.slice (some ⟨w.heap.size, 0, none⟩) n n) (w.alloc (.cells (madeCells #[.slice none 0 0] n) 61)) := by
  obtain ⟨i, hi, hzz⟩ := Option.map_eq_some_iff.1 infoAskS
  simp only [Prod.mk.injEq] at hzz
  obtain ⟨hz, hs, hb⟩ := hzz
  have := run_make (P := Try.prog) w 79 61 i _ Try.underlying79 hi hz .i64 .i64 n n (by omega) (Int.le_refl _) (by rw [hb]; omega) (by omega)
  rw [hs, show (.slice none 0 0 : Value).cells = #[.slice none 0 0] from by simp [Value.cells]] at this
  simpa using this

/-- A node without its next ones, and who asks what behind it. -/
def ndR (m : Nat) : List Aq → Int × List Int × List (List Aq)
  | [] => (-1, [], [])
  | r :: l => match r.q with
    | [] => (r.rule, [], [])
    | a :: _ => (-2, a.p, (List.range m).map (fun c : Nat => ansAll a.p (c : Int) (r :: l)))

theorem ndSize : (Try.prog.info? 65).map (·.size) = some 3 := by kernel_rfl
theorem results_nodeOf (tmps : Array Value) (w : World) (g : Nat) (x y z : Value) (hp : tmps.getD 4 undef = .pointer (some ⟨g, 0, none⟩)) (h : Bx w g #[x, y, z] 65) :
    (results Try.f39 tmps).run Try.prog w = .ok (.tuple #[.agg #[x, y, z], tmps.getD 5 undef]) w := by
  rw [results_cell_tmp rfl]
  simp [hp, asAddr, run_loadVar_row w g _ _ _ _ _ h Try.underlying65 rfl ndSize]
theorem own_mono {w : World} {base base' n z : Nat} {T : TypeId} {v : Value} {xs : List Value} (h : w.ownsRow base T z v n xs) (hb : base' ≤ base) : w.ownsRow base' T z v n xs :=
  ⟨h.1, h.2.imp id (fun ⟨g, cap, cur, h1, hg, r⟩ => ⟨g, cap, cur, h1, Nat.le_trans hb hg, r⟩)⟩
/-- These blocks, and two more. -/
def ObS (O : Nat → Prop) (S B : Nat) : Nat → Prop := fun g => O g ∨ g = S ∨ g = B
theorem Off.setS {O : Nat → Prop} (w : World) (S B g i : Nat) (v : Value) (h : g = S ∨ g = B) : Off (ObS O S B) w (w.setCell ⟨g, i, none⟩ v) :=
  ⟨rfl, rfl, rfl, by simp [World.setCell], fun k hk hn => Below.heap_setCell _ _ _ _ (fun e => hn (.inr (by rw [e]; exact h)))⟩

set_option maxRecDepth 20000 in
set_option maxHeartbeats 8000000 in
theorem nodeOf_any (O : Nat → Prop) (vd : Value) (D : List Int) (vl : Value) (l : List Aq) (w : World) (hD : DRow w vd D) (hd : goodD D = true) (hO : ∀ k, O k → k < w.heap.size)
    (hl : AqS O w vl l) (hL : lsz l ≤ 1000) (hn : l.length ≤ 1000) (hok : ∀ r ∈ l, QokD D r.q) :
    Calls Try.prog 39 #[vd, vl] w fun e w' => ∃ pv sv, e = .returned (.tuple #[.agg #[.int .i64 (ndR D.length l).1, pv, .slice none 0 0], sv]) ∧
      w'.ownsRow w.heap.size 3 1 pv (ndR D.length l).2.1.length (rcells 1 iC (ndR D.length l).2.1) ∧ SdS O w' sv (ndR D.length l).2.2 ∧ Below w.heap.size w w' := by
  obtain ⟨da, dc, rfl, hDr, hDl⟩ := id hD
  obtain ⟨la, lc, rfl, hlc⟩ := hl.form
  have HD := hide hD
  have Hd := hide hd
  have HOs := hide hO
  have HOk := hide hok
  have HLs := hide hL
  have HL := hide hl
  have HX0 := hide (Bx.new w #[.slice da D.length dc] 31)
  cases l with
  | nil =>
    clear hD hd hO hok hL hl
    go_enter Try.func39, Try.ntmps39
    go_wp2_with fail
    refine bodyPost_ret (results_nodeOf _ _ (w.heap.size + 1) (.int .i64 (-1)) (.slice none 0 0) (.slice none 0 0) rfl (by simpa using Bx.new (w.alloc (.cells #[.slice da D.length dc] 31)) #[.int .i64 (-1), .slice none 0 0, .slice none 0 0] 65)) rfl ⟨_, _, rfl, World.ownsRow_nil _ _ _ _, ⟨[], RowX.nil _ _ _, fun i h => by simp [ndR] at h⟩, ?_⟩
    exact ((Below.refl _ _).alloc (Nat.le_refl _) _).alloc (by simp) _
  | cons r l =>
    obtain ⟨b, o, av, rfl, hbl, p0, p1, hAk⟩ := hl.at (j := 0) (by simp)
    simp only [List.getElem_cons_zero, Nat.zero_mul, Nat.add_zero] at p0 p1 hAk
    obtain ⟨va, vc, rfl, hvc⟩ := hAk.form
    obtain ⟨L, hLe⟩ : ∃ L, L = r :: l := ⟨_, rfl⟩
    have HLe := hide hLe
    rw [← hLe] at hn hlc HOk HLs HL ⊢
    obtain ⟨nl, hnl⟩ : ∃ nl, nl = L.length := ⟨_, rfl⟩
    have Hnl := hide hnl
    have hnl0 : (0 : Int) < (nl : Int) := by rw [hnl, hLe]; simp
    rw [← hnl] at HL hlc hn ⊢
    obtain ⟨W2, hW2⟩ : ∃ W2, W2 = (w.alloc (.cells #[.slice da D.length dc] 31)).alloc (.cells #[.int .i64 0, .slice none 0 0, .slice none 0 0] 65) := ⟨_, rfl⟩
    have hB2 : Below w.heap.size w W2 := by rw [hW2]; exact ((Below.refl _ _).alloc (Nat.le_refl _) _).alloc (by simp) _
    have HX1 : Hid (Bx W2 w.heap.size #[.slice da D.length dc] 31) := hide (by rw [hW2]; exact (Bx.new w _ _).alloc _)
    have HX2 : Hid (Bx W2 (w.heap.size + 1) #[.int .i64 0, .slice none 0 0, .slice none 0 0] 65) := hide (by rw [hW2]; have := Bx.new (w.alloc (.cells #[.slice da D.length dc] 31)) #[.int .i64 0, .slice none 0 0, .slice none 0 0] 65; simpa using this)
    have HW2 := hide hW2
    have hs2 : W2.heap.size = w.heap.size + 2 := by rw [hW2]; simp
    have HAk := hide hAk
    replace p0 := (hB2.cell (p := ⟨b, o, none⟩) hbl).trans p0
    replace p1 := (hB2.cell (p := ⟨b, o + 1, none⟩) hbl).trans p1
    obtain ⟨⟨rl, ph, sd⟩, hR⟩ : ∃ R, R = ndR D.length L := ⟨_, rfl⟩
    have HR := hide hR
    rw [← hR]
    clear hD hDr hd hO hok hL hl HX0 hLe hnl hW2 hAk hR
    go_enter Try.func39, Try.ntmps39
    go_upto_region 1 with fail
    rw [← HW2.out]
    obtain ⟨B4, hB4⟩ : ∃ B4, B4 = w.heap.size + 1 := ⟨_, rfl⟩
    obtain ⟨B2, hB2'⟩ : ∃ B2, B2 = w.heap.size := ⟨_, rfl⟩
    rw [← hB4] at HX2 ⊢
    rw [← hB2'] at HX1 ⊢
    have HB4 := hide hB4
    have HB2' := hide hB2'
    clear hB4 hB2' HW2
    have cx := HX1.out.c 0
    have cy := HX2.out.c 0
    have cy1 := HX2.out.c 1
    have cy2 := HX2.out.c 2
    have cf := HX2.out.f
    have hBR : ∀ (W : World) (x y z : Value) (c0 c1 c2 : Value), Bx W B4 #[c0, c1, c2] 65 → Bx (((W.setCell ⟨B4, 0, none⟩ x).setCell ⟨B4, 1, none⟩ y).setCell ⟨B4, 2, none⟩ z) B4 #[x, y, z] 65 := fun W x y z c0 c1 c2 h => by
      have := ((h.set 0 x).set 1 y).set 2 z
      simpa using this
    have HBR := hide hBR
    clear hBR
    cases hq : r.q with
    | nil =>
      rw [hq] at p1
      simp only [List.length_nil] at p1
      have hE : (rl, ph, sd) = (r.rule, [], []) := by rw [HR.out, HLe.out]; simp [ndR, hq]
      simp only [Prod.mk.injEq] at hE
      obtain ⟨rfl, rfl, rfl⟩ := hE
      clear hq HR
      go_wp2_with fail
      refine bodyPost_ret (results_nodeOf _ _ B4 _ _ _ rfl (HBR.out _ _ _ _ _ _ _ HX2.out)) rfl ⟨_, _, rfl, World.ownsRow_nil _ _ _ _, ⟨[], RowX.nil _ _ _, fun i h => by simp at h⟩, ?_⟩
      have hb4 := HB4.out
      exact ((hB2.setCell (p := ⟨B4, 0, none⟩) (by show w.heap.size ≤ B4; omega) _).setCell (p := ⟨B4, 1, none⟩) (by show w.heap.size ≤ B4; omega) _).setCell (p := ⟨B4, 2, none⟩) (by show w.heap.size ≤ B4; omega) _
    | cons a q =>
      rw [hq] at p1 HAk hvc
      obtain ⟨xs, hRow, hAv⟩ := HAk.out
      obtain ⟨pv, cv, e1, e2, hE⟩ := hAv.2 0 (by simp)
      simp only [Nat.zero_mul] at e1
      obtain ⟨b', o', rfl, hbl', p2⟩ := hRow.at e1
      simp only [Nat.add_zero] at p2
      obtain ⟨⟨ta, tc, rfl, htr, htl⟩, -, -⟩ := hE.here
      simp only [List.getElem_cons_zero] at htr htl p2
      replace p2 := (hB2.cell (p := ⟨b', o', none⟩) hbl').trans p2
      have hE2 : (rl, ph, sd) = (-2, a.p, (List.range D.length).map (fun c : Nat => ansAll a.p (c : Int) L)) := by rw [HR.out, HLe.out]; simp [ndR, hq]
      simp only [Prod.mk.injEq] at hE2
      obtain ⟨rfl, rfl, hsd⟩ := hE2
      have Hsd := hide hsd
      have HT := hide htr
      have HTl := hide htl
      obtain ⟨nq, hnq⟩ : ∃ nq, nq = (a :: q).length := ⟨_, rfl⟩
      have hnq0 : (0 : Int) < (nq : Int) := by rw [hnq]; simp
      have hnq1 : ¬ (nq : Int) = 0 := by omega
      rw [← hnq] at p1
      obtain ⟨m, hm⟩ : ∃ m, m = D.length := ⟨_, rfl⟩
      have Hm := hide hm
      rw [← hm] at Hsd hDl
      have hmk := mk_AskSS m hDl
      obtain ⟨nt, hnt⟩ : ∃ nt, nt = a.p.length := ⟨_, rfl⟩
      have Hnt := hide hnt
      rw [← hnt] at p2
      rw [← hm] at HX1 cx ⊢
      clear hq HR hRow hAv e1 e2 hE htr htl hnq hsd HAk hnt hm
      go_upto_region 7 with fail
      clear p0 p1 p2 hmk cx cy cy1 cy2 cf
      obtain ⟨SB, hSB⟩ : ∃ SB, SB = w.heap.size + 2 := ⟨_, rfl⟩
      rw [← hSB]
      obtain ⟨W3, hW3⟩ : ∃ W3, W3 = W2.alloc (.cells (madeCells #[.slice none 0 0] m) 61) := ⟨_, rfl⟩
      have HXS : Hid (Bx W3 SB (madeCells #[.slice none 0 0] m) 61) := hide (by rw [hW3, hSB, ← hs2]; exact Bx.new _ _ _)
      have HXa := hide (HX1.out.alloc (.cells (madeCells #[.slice none 0 0] m) 61))
      have HXb := hide (HX2.out.alloc (.cells (madeCells #[.slice none 0 0] m) 61))
      have hB3 : Below w.heap.size w (W2.alloc (.cells (madeCells #[.slice none 0 0] m) 61)) := hB2.alloc (by omega) _
      rw [← hW3] at HXa HXb hB3 ⊢
      have hz1 : ((nl : Int) == 0) = false := by rw [beq_eq_false_iff_ne]; omega
      have hz2 : ((nq : Int) == 0) = false := by rw [beq_eq_false_iff_ne]; omega
      simp only [hz1, hz2]
      clear hz1 hz2
      have HSB := hide hSB
      have HAd : Hid (∀ O', (∀ i, O' i → O i ∨ w.heap.size ≤ i) → ∀ W, Below w.heap.size w W → AqS O' W (.slice (some ⟨b, o, none⟩) nl lc) L) := hide (fun O' h W hb => HL.out.later (Off.of_below hb) h)
      clear hW3 hSB hB2 hs2 HX1 HX2 HL
      go_wp2_with fail
      go_loopw [37] (fun i w' => ∃ (j : Nat) (cur : Array Value), j ≤ m ∧ i = .int .i64 j ∧ Bx w' SB cur 61 ∧ cur.size = m ∧ (∀ g (h : g < m), g < j → ∃ x, cur[g]? = some x ∧ AqS (ObS O SB B4) w' x (ansAll a.p (g : Int) L)) ∧ Bx w' B2 #[.slice da m dc] 31 ∧ Bx w' B4 #[.int .i64 0, .slice none 0 0, .slice none 0 0] 65 ∧ Below w.heap.size w w') (fun i _ => m - (intOf i).toNat)
      case atStart => exact ⟨0, _, by omega, rfl, HXS.out, by simp [madeCells], by intros; omega, HXa.out, HXb.out, hB3⟩
      case round =>
        clear HXS HXa HXb hB3
        obtain ⟨j, cur, hj, rfl, hX, hsz, hF, hXa, hXb, hB⟩ := hrel
        have HX := hide hX
        have HF := hide hF
        have HXa := hide hXa
        have HXb := hide hXb
        have HB := hide hB
        have Hsz := hide hsz
        have hsB := hB.size
        have hlS := hX.lt
        clear hX hF hXa hXb hB hsz
        by_cases hlt : j < m
        · have hlt' : (j : Int) < (m : Int) := by omega
          have hj0 : (0 : Int) ≤ (j : Int) := by omega
          have HC := hide (answeredAll_any (ObS O SB B4) (.agg #[.slice da D.length dc]) D (.slice (some ⟨b, o, none⟩) nl lc) L ta tc a.p (j : Int) wr (HD.out.below HB.out) Hd.out (fun k hk => by
            rcases hk with hk | hk
            · have := HOs.out k hk; omega
            · have := HXb.out.lt; rcases hk with hk | hk <;> omega) (HAd.out _ (fun i hi => by
            rcases hi with hi | hi
            · exact .inl hi
            · have := HSB.out; have := HB4.out; exact .inr (by rcases hi with hi | hi <;> omega)) _ HB.out) HLs.out (by rw [← Hnl.out]; exact hn) HOk.out (RRow.below HT.out HB.out))
          rw [← Hnt.out, ← Hm.out] at HC
          have cx := HXa.out.c 0
          go_wp2_with fail
          refine Calls.mono HC.out ?_
          clear HC cx
          rintro e w1 ⟨v', xs, rfl, hown, hQ, hb1⟩
          have hAq : AqS (ObS O SB B4) w1 v' (ansAll a.p (j : Int) L) := ⟨xs, RowX.ofOwn hown (fun g hg ho => by
            have h1 := own_ge hown g hg
            rcases ho with ho | ho
            · have := HOs.out g ho; omega
            · have := HXb.out.lt; rcases ho with ho | ho <;> omega), hQ⟩
          have HAq := hide hAq
          have hX1 := HX.out.below hb1 hlS
          have HX1 := hide hX1
          have hF1 : ∀ g (h : g < m), g < j → ∃ x, cur[g]? = some x ∧ AqS (ObS O SB B4) w1 x (ansAll a.p (g : Int) L) := fun g hg hgj => by
            obtain ⟨x, h1, h2⟩ := HF.out g hg hgj
            exact ⟨x, h1, h2.below hb1⟩
          have HF1 := hide hF1
          have HXa1 := hide (HXa.out.below hb1 HXa.out.lt)
          have HXb1 := hide (HXb.out.below hb1 HXb.out.lt)
          have hB1 : Below w.heap.size w w1 := HB.out.trans (hb1.mono HB.out.size)
          have HB1 := hide hB1
          obtain ⟨ad1, c1, e1⟩ := own_form hown
          obtain ⟨n1, hn1⟩ : ∃ n1, n1 = (ansAll a.p (j : Int) L).length := ⟨_, rfl⟩
          rw [← hn1] at e1
          subst e1
          have fz : ∀ i, w1.frozen? ⟨SB, i, none⟩ = false := hX1.f
          obtain ⟨y0, hy0⟩ : ∃ x, w1.cell? ⟨SB, j, none⟩ = some x := by
            rw [cell_of_blk hX1, Array.getElem?_eq_getElem (by have := Hsz.out; omega)]; exact ⟨_, rfl⟩
          clear hown hQ hb1 hAq hX1 hF1 hB1 HX HF HXa HXb HB hn1
          go_wp2_with fail
          have hoff : Off (ObS O SB B4) w1 (w1.setCell ⟨SB, j, none⟩ (.slice ad1 n1 c1)) := Off.setS _ _ _ _ _ _ (.inl rfl)
          refine ⟨⟨j + 1, _, by omega, by go_num, HX1.out.set j _, by simp [Hsz.out], fun g hg hgj => ?_, HXa1.out.setne _ _ _ (by have := HSB.out; have := HB2'.out; omega), HXb1.out.setne _ _ _ (by have := HSB.out; have := HB4.out; omega), HB1.out.setCell (p := ⟨SB, j, none⟩) (by have := HSB.out; show w.heap.size ≤ SB; omega) _⟩, by simp [intOf]; omega⟩
          rw [Array.getElem?_setIfInBounds]
          by_cases e : j = g
          · subst e
            rw [if_pos rfl, if_pos (by have := Hsz.out; omega)]
            exact ⟨_, rfl, HAq.out.later hoff (fun i hi => .inl hi)⟩
          · rw [if_neg e]
            obtain ⟨x, h1, h2⟩ := HF1.out g hg (by omega)
            exact ⟨x, h1, h2.later hoff (fun i hi => .inl hi)⟩
        · have hjm : j = m := by omega
          subst hjm
          have HC := hide (cloneI_any (.slice ta a.p.length tc) a.p wr HTl.out ⟨ta, tc, rfl, RRow.below HT.out HB.out, HTl.out⟩)
          rw [← Hnt.out] at HC
          go_wp2_with fail
          refine Calls.mono HC.out ?_
          clear HC
          rintro e w1 ⟨v', rfl, hown, hb1⟩
          have hB1 : Below w.heap.size w w1 := HB.out.trans (hb1.mono HB.out.size)
          have hXb1 := HXb.out.below hb1 HXb.out.lt
          have HX1 := hide (HX.out.below hb1 hlS)
          have HXb1 := hide hXb1
          have cy := hXb1.c 0
          have cy1 := hXb1.c 1
          have cy2 := hXb1.c 2
          have cf := hXb1.f
          obtain ⟨ad1, c1, e1⟩ := own_form hown
          subst e1
          have HOn := hide hown
          have hb4l := HXb.out.lt
          have HB1 := hide hB1
          clear hXb1 hown HX HXa HXb hB1
          go_wp2_with fail
          obtain ⟨W9, hW9⟩ : ∃ W9, W9 = ((w1.setCell ⟨B4, 0, none⟩ (.int .i64 (-2))).setCell ⟨B4, 1, none⟩ (.slice ad1 nt c1)).setCell ⟨B4, 2, none⟩ (.slice none 0 0) := ⟨_, rfl⟩
          have hR9 := HBR.out w1 (.int .i64 (-2)) (.slice ad1 nt c1) (.slice none 0 0) _ _ _ HXb1.out
          have hO9 : W9.ownsRow wr.heap.size 3 1 (.slice ad1 nt c1) nt (rcells 1 iC a.p) := by
            rw [hW9]
            exact ownsRow_setCell_below (ownsRow_setCell_below (ownsRow_setCell_below HOn.out (a := ⟨B4, 0, none⟩) hb4l _) (a := ⟨B4, 1, none⟩) hb4l _) (a := ⟨B4, 2, none⟩) hb4l _
          have hne : SB ≠ B4 := by have := HSB.out; have := HB4.out; omega
          have hS9 : Bx W9 SB cur 61 := by rw [hW9]; exact ((HX1.out.setne _ _ _ hne).setne _ _ _ hne).setne _ _ _ hne
          have hf9 : Off (ObS O SB B4) w1 W9 := by
            rw [hW9]
            exact ((Off.setS _ _ _ _ _ _ (.inr rfl)).trans (Off.setS _ _ _ _ _ _ (.inr rfl)) (fun i h => .inl h)).trans (Off.setS _ _ _ _ _ _ (.inr rfl)) (fun i h => .inl h)
          have hb4' := HB4.out
          have hb9 : Below w.heap.size w W9 := by
            rw [hW9]
            exact ((HB1.out.setCell (p := ⟨B4, 0, none⟩) (by show w.heap.size ≤ B4; omega) _).setCell (p := ⟨B4, 1, none⟩) (by show w.heap.size ≤ B4; omega) _).setCell (p := ⟨B4, 2, none⟩) (by show w.heap.size ≤ B4; omega) _
          rw [← hW9] at hR9 ⊢
          have hsl : sd.length = j := by rw [Hsd.out]; simp
          refine bodyPost_ret (results_nodeOf _ _ B4 _ _ _ rfl hR9) rfl ⟨_, _, rfl, by rw [← Hnt.out]; exact own_mono hO9 hsB, ?_, hb9⟩
          refine ⟨cur.toList, ⟨some ⟨SB, 0, none⟩, j, by rw [hsl]; rfl, by omega, by simp [Hsz.out, hsl], .inr ⟨SB, 0, rfl, hS9.lt, fun hc => ?_, fun i x hx => ?_⟩⟩, fun i hi => ?_⟩
          · have := HOs.out SB hc; have := HSB.out; omega
          · rw [hS9.c, Nat.zero_add]; simpa using hx
          · obtain ⟨x, h1, h2⟩ := HF.out i (by omega) (by omega)
            refine ⟨x, by simpa using h1, ?_⟩
            have e : sd[i] = ansAll a.p (i : Int) L := by simp [Hsd.out]
            rw [e]
            exact (h2.below hb1).later hf9 (fun k hk => .inl (.inl hk))
end Go.Proofs.Ytmlpnmdckgppnaa.W

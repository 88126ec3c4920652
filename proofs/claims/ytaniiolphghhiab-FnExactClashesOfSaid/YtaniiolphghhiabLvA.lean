/-
  What is in the sets of those to which a block goes on, in the program (ahead). Conditions: a good graph; sets of names below 8.
-/
import Derived.Test.YtaniiolphghhiabLvE
import Derived.Test.YtaniiolphghhiabLvF
namespace Go.Proofs.Ytaniiolphghhiab.W
open Go.ChangeShapes Go.WideShapes Go.ChangeAt Go.RowKit Go.Joins
set_option linter.unusedVariables false
set_option linter.unusedSimpArgs false
set_option maxRecDepth 20000

theorem infoSet : (Try.prog.info? 51).map (fun i => (i.zero, i.size, i.bytes)) = some (some (.slice none 0 0), 1, 24) := by kernel_rfl
theorem mk_SetS (n : Nat) (hn : n ≤ 1048576) (w : World) :
    (Instr.makeSlice 49 (.int .i64 (n : Int)) (.int .i64 (n : Int))).run Try.prog w = .ok (.slice (some ⟨w.heap.size, 0, none⟩) n n) (w.alloc (.cells (madeCells #[.slice none 0 0] n) 51)) := by
  obtain ⟨i, hi, hzz⟩ := Option.map_eq_some_iff.1 infoSet
  simp only [Prod.mk.injEq] at hzz
  obtain ⟨hz, hs, hb⟩ := hzz
  have := run_make (P := Try.prog) w 49 51 i _ Try.underlying49 hi hz .i64 .i64 n n (by omega) (Int.le_refl _) (by rw [hb]; omega) (by omega)
  rw [hs, show (.slice none 0 0 : Value).cells = #[.slice none 0 0] from by simp [Value.cells]] at this
  simpa using this

/-- The names in the rows of the first m of those to which a block goes on. -/
def ouM (L : List (List Int)) (l : List Int) (m : Nat) : List Int := lst (fun n => (l.take m).any fun x => hb (row L x.toNat) n) 8
theorem ouM_zero (L : List (List Int)) (l : List Int) : ouM L l 0 = [] := by simp [ouM, lst_none]
theorem ouM_succ (L : List (List Int)) (l : List Int) (m : Nat) (h : m < l.length) : orL (ouM L l m) (row L (l[m]).toNat) = ouM L l (m + 1) := by
  unfold orL ouM
  refine lst_congr (fun n hn => ?_)
  rw [hb_lst, List.take_add_one, List.getElem?_eq_getElem h, List.any_append]
  simp [hn]
theorem ouM_all (D L : List (List Int)) (k : Nat) : ouM L (row D k) (row D k).length = ou D L k := by
  unfold ouM ou ouB
  rw [List.take_length]

set_option maxHeartbeats 16000000 in
theorem ahead_any (v : Value) (D : List (List Int)) (n : Nat) (F L : List (List Int)) (S c : Nat) (w : World) (h : FRow w v D n F) (hg : GG D) (hS : QSS w S L) (hL : L.length = D.length) (k1 : ∀ k, R8 (row L k)) :
    Calls Try.prog 60 #[v, .slice (some ⟨S, 0, none⟩) D.length c] w fun e w' => ∃ Z, e = .returned (.slice (some ⟨Z, 0, none⟩) D.length D.length) ∧ w.heap.size ≤ Z ∧ QSS w' Z (ous D L) ∧ Below w.heap.size w w' := by
  obtain ⟨ad, cg, bd, bc, rfl, hR, hq, hlc, -, -, -, -⟩ := h
  have hB0 : Below w.heap.size w (w.alloc (.cells #[.slice ad D.length cg, .slice bd n bc] 34)) := (Below.refl _ _).alloc (Nat.le_refl _) _
  have HX := hide (Bx.new w #[.slice ad D.length cg, .slice bd n bc] 34)
  have HS := hide hS
  have HR := hide hR
  have HG := hide hg
  have K1 := hide k1
  have hd12 : D.length ≤ 12 := hg.2.1
  have hlS := hS.lt
  obtain ⟨nd, hnd⟩ : ∃ nd, nd = D.length := ⟨_, rfl⟩
  rw [← hnd] at HX hB0 hd12 ⊢
  have HND := hide hnd
  have HLn : Hid (L.length = nd) := hide (by rw [hL, hnd])
  clear hR hg hS k1 hq hlc hnd hL
  go_enter Try.func60, Try.ntmps60
  go_upto_region 1 with fail
  obtain ⟨W1, hW1⟩ : ∃ W1, W1 = w.alloc (.cells #[.slice ad nd cg, .slice bd n bc] 34) := ⟨_, rfl⟩
  obtain ⟨X, hX⟩ : ∃ X, X = w.heap.size := ⟨_, rfl⟩
  rw [← hW1] at HX hB0 ⊢
  rw [← hX] at HX ⊢
  have HXe := hide hX
  clear hW1 hX
  have cX := HX.out.c
  have hmk := mk_SetS nd (by omega)
  go_upto_region 2 with fail
  clear hmk cX
  have HQ0 := hide (QST.new 51 W1 nd)
  have hB2 : Below w.heap.size w (W1.alloc (.cells (madeCells #[.slice none 0 0] nd) 51)) := hB0.alloc hB0.size _
  have HX2 := hide (HX.out.alloc (.cells (madeCells #[.slice none 0 0] nd) 51))
  obtain ⟨W2, hW2⟩ : ∃ W2, W2 = W1.alloc (.cells (madeCells #[.slice none 0 0] nd) 51) := ⟨_, rfl⟩
  obtain ⟨Z, hZ⟩ : ∃ Z, Z = W1.heap.size := ⟨_, rfl⟩
  rw [← hW2] at HX2 HQ0 hB2 ⊢
  rw [← hZ] at HQ0 ⊢
  have hZw : w.heap.size ≤ Z := by rw [hZ]; exact hB0.size
  clear hW2 hZ HX hB0
  have cX := HX2.out.c
  go_wp2_with fail
  clear cX HX2
  have HB2 := hide hB2
  go_loopw [19] (fun i w' => ∃ (j : Nat) (Ls : List (List Int)), j ≤ nd ∧ i = .int .i64 j ∧ QSS w' Z Ls ∧ Ls.length = nd ∧ (∀ q, q < j → row Ls q = ou D L q) ∧ (∀ q, j ≤ q → row Ls q = []) ∧ Below w.heap.size w w') (fun i _ => nd - (intOf i).toNat)
  case atStart =>
    refine ⟨0, _, by omega, rfl, HQ0.out, by simp, by intros; omega, fun q _ => ?_, hB2⟩
    by_cases hq : q < (List.replicate nd ([] : List Int)).length
    · rw [row_at hq]; simp
    · exact row_out hq
  case round =>
    clear HQ0 hB2 HB2
    obtain ⟨j, Ls, hj, rfl, hQ, hLs, hlo, hhi, hB⟩ := hrel
    have HQ := hide hQ
    have HLo := hide hlo
    have HHi := hide hhi
    have HB := hide hB
    have HLs := hide hLs
    clear hQ hlo hhi hB hLs
    by_cases hlt : j < nd
    · have hlt' : (j : Int) < (nd : Int) := by omega
      have hjD : j < D.length := by rw [← HND.out]; exact hlt
      obtain ⟨b, o, v0, rfl, hb0, p0w, a1, d1, rfl, r1, -⟩ := QRow.at HR.out (Below.refl _ _) hjD
      have p0 := (HB.out.cell (p := ⟨b, o + j, none⟩) hb0).trans p0w
      rw [← row_at hjD] at p0 r1
      have hris : RisL (row D j) nd := by have h1 := HG.out.2.2 j hjD; rw [← row_at hjD] at h1; have e := HND.out; rw [e]; exact h1
      have HRis := hide hris
      obtain ⟨l, hl⟩ : ∃ l, l = row D j := ⟨_, rfl⟩
      rw [← hl] at p0 r1 HRis
      have HL := hide hl
      have hm12 : l.length ≤ 12 := by have := HRis.out.len; omega
      obtain ⟨m0, hm0⟩ : ∃ m0, m0 = l.length := ⟨_, rfl⟩
      rw [← hm0] at p0 hm12
      have HM0 := hide hm0
      have HRw := hide r1
      clear hris hl hm0 r1 p0w
      go_wp2_with fail
      clear p0
      have hwr : wr.heap.size ≤ wr.heap.size := Nat.le_refl _
      have HBw := hide (Below.refl wr.heap.size wr)
      go_loopw [26] (fun i w' => ∃ (m : Nat) (Ls2 : List (List Int)), m ≤ m0 ∧ i = .int .i64 m ∧ QSS w' Z Ls2 ∧ Ls2.length = nd ∧ row Ls2 j = ouM L l m ∧ (∀ q, q ≠ j → row Ls2 q = row Ls q) ∧ Below w.heap.size w w') (fun i _ => m0 - (intOf i).toNat)
      case atStart => exact ⟨0, Ls, by omega, rfl, HQ.out, HLs.out, by rw [HHi.out j (Nat.le_refl _), ouM_zero], fun _ _ => rfl, HB.out⟩
      case round =>
        clear HBw hwr
        obtain ⟨m, Ls2, hm, rfl, hQ2, hLs2, hrj, hro, hB2⟩ := hrel
        have HQ2 := hide hQ2
        have HRj := hide hrj
        have HRo := hide hro
        have HB2 := hide hB2
        have HLs2 := hide hLs2
        clear hQ2 hrj hro hB2 hLs2
        by_cases hlm : m < m0
        · have hlm' : (m : Int) < (m0 : Int) := by omega
          have hml : m < l.length := by rw [← HM0.out]; exact hlm
          have hj0 : (0 : Int) ≤ (j : Int) := by omega
          obtain ⟨b1, o1, rfl, hb1, p1⟩ := IRow.iat HRw.out HB2.out hml
          have hxb := HRis.out m hml
          obtain ⟨x, hx⟩ : ∃ x : Nat, l[m] = (x : Int) := ⟨l[m].toNat, by rw [Int.toNat_of_nonneg hxb.1]⟩
          rw [hx] at p1 hxb
          have hxn : x < nd := by omega
          have hxn' : (x : Int) < (nd : Int) := by omega
          have hx0 : (0 : Int) ≤ (x : Int) := by omega
          obtain ⟨vj, cj, nvj⟩ := HQ2.out.at (q := j) (by rw [HLs2.out]; exact hlt)
          rw [← row_at (by rw [HLs2.out]; exact hlt), HRj.out] at nvj
          obtain ⟨vx, cx, nvx⟩ := (HS.out.below HB2.out).at (q := x) (by rw [HLn.out]; exact hxn)
          rw [← row_at (by rw [HLn.out]; exact hxn)] at nvx
          have fZ := HQ2.out.f
          have hZl := HQ2.out.lt
          have he : orL (ouM L l m) (row L x) = ouM L l (m + 1) := by have := ouM_succ L l m hml; rw [hx] at this; exact this
          have HC := hide (fun (w1 : World) (hw : Below wr.heap.size wr w1) => with_any vj vx (ouM L l m) (row L x) w1 (nvj.below hw) (nvx.below hw) (lst_r8 _) (K1.out x))
          rw [he] at HC
          have HCell : Hid (∀ w1 : World, Below wr.heap.size wr w1 → w1.cell? ⟨Z, j, none⟩ = some vj ∧ ∀ i, w1.frozen? ⟨Z, i, none⟩ = false) := hide (fun w1 hw => ⟨(hw.cell (p := ⟨Z, j, none⟩) hZl).trans cj, fun i => ((HQ2.out.below hw).f i)⟩)
          have HBw := hide (show Below wr.heap.size wr wr from Below.refl _ _)
          obtain ⟨aj, dj, rfl, -⟩ := nvj.form
          obtain ⟨ax, dx, rfl, -⟩ := nvx.form
          obtain ⟨mj, hmj⟩ : ∃ mj, mj = (ouM L l m).length := ⟨_, rfl⟩
          obtain ⟨mx, hmx⟩ : ∃ mx, mx = (row L x).length := ⟨_, rfl⟩
          rw [← hmj] at cj HC HCell
          rw [← hmx] at cx HC
          clear nvj nvx he hmj hmx hb1
          go_wp2_with fail
          go_region_with (go_at_call 22; refine Calls.mono (HC.out _ ⟨rfl, rfl, rfl, Nat.le_refl _, fun _ _ => rfl⟩) ?_; rintro e w1 ⟨v', rfl, hv, hbb⟩; have hcc := HCell.out w1 ⟨hbb.os, hbb.tape, hbb.output, hbb.size, hbb.block⟩; have c5 := hcc.1; have f5 := hcc.2; have HV := hide hv; obtain ⟨va, vc, rfl, -⟩ := hv.form; clear hcc hv)
          all_goals
            have hB1 : Below wr.heap.size wr w1 := ⟨hbb.os, hbb.tape, hbb.output, hbb.size, hbb.block⟩
            have HQn := hide ((HQ2.out.below hB1).set (i := j) (by rw [HLs2.out]; exact hlt) HV.out)
            have HBn := hide ((HB2.out.trans (hB1.mono HB2.out.size)).setCell (p := ⟨Z, j, none⟩) hZw (.slice va (ouM L l (m + 1)).length vc))
            have HRn : Hid (∀ q, row (Ls2.set j (ouM L l (m + 1))) q = if q = j then ouM L l (m + 1) else row Ls2 q) := hide (fun q => row_set (by rw [HLs2.out]; exact hlt) _ q)
            have HLn2 : Hid ((Ls2.set j (ouM L l (m + 1))).length = nd) := hide (by rw [List.length_set]; exact HLs2.out)
            clear c5 f5 cj cx p1 hbb HC HCell fZ hB1 HV HQ2
            go_wp2_with fail
            exact ⟨⟨m + 1, _, by omega, by go_num, HQn.out, HLn2.out, by rw [HRn.out, if_pos rfl], fun q hq => by rw [HRn.out, if_neg hq, HRo.out q hq], HBn.out⟩, by simp [intOf]; omega⟩
        · obtain rfl : m = m0 := by omega
          go_wp2_with fail
          refine ⟨⟨j + 1, Ls2, by omega, by go_num, HQ2.out, HLs2.out, fun q hq => ?_, fun q hq => ?_, HB2.out⟩, by simp [intOf]; omega⟩
          · by_cases e : q = j
            · subst e; rw [HRj.out, HM0.out, HL.out, ouM_all]
            · rw [HRo.out q e]; exact HLo.out q (by omega)
          · rw [HRo.out q (by omega)]; exact HHi.out q (by omega)
    · obtain rfl : j = nd := by omega
      have HE : Hid (Ls = ous D L) := hide (by
        refine List.ext_getElem (by rw [HLs.out, ous_len, HND.out]) (fun k h1 h2 => ?_)
        rw [← row_at h1, HLo.out k (by rw [← HLs.out]; exact h1)]
        simp [ous])
      go_wp2_with fail
      go_ret
      exact ⟨Z, rfl, hZw, by rw [← HE.out]; exact HQ.out, HB.out⟩
end Go.Proofs.Ytaniiolphghhiab.W

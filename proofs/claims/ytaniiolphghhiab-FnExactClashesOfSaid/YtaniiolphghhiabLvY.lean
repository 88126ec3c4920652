/-
  The specification's ClashesOf. Conditions: none but those that the theorem states.
-/
import Derived.Test.YtaniiolphghhiabLvK
import Derived.Test.YtaniiolphghhiabLvU
namespace Go.Proofs.Ytaniiolphghhiab.W
open Go.ChangeShapes Go.WideShapes Go.ChangeAt Go.RowKit Go.Joins
set_option linter.unusedVariables false
set_option linter.unusedSimpArgs false
set_option maxRecDepth 20000

set_option maxHeartbeats 8000000 in
theorem specClash_any (v : Value) (D : List (List Int)) (n : Nat) (F : List (List Int)) (w : World) (h : FRow w v D n F) :
    Calls Try.prog 5 #[v] w fun e w' => ∃ v', e = .returned (.tuple #[v', .bool (goodF D F)]) ∧ QV w' v' (clR D F) ∧ Below w.heap.size w w' := by
  have HGf := hide (fun (w' : World) (hb : Below w.heap.size w w') => specGoodF_any v D n F w' (h.below hb))
  have HLi := hide (fun (w' : World) (hb : Below w.heap.size w w') (hf : GF D F) => l12Live_any v D n F w' (h.below hb) hf)
  obtain ⟨ad, c, bd, bc, rfl, -⟩ := h
  obtain ⟨nd, hnd⟩ : ∃ nd, nd = D.length := ⟨_, rfl⟩
  have hB0 : Below w.heap.size w (w.alloc (.cells #[.slice ad D.length c, .slice bd n bc] 34)) := (Below.refl _ _).alloc (Nat.le_refl _) _
  have HX := hide (Bx.new w #[.slice ad D.length c, .slice bd n bc] 34)
  rw [← hnd] at HX hB0 HGf HLi ⊢
  have HND := hide hnd
  clear hnd
  go_enter Try.func5, Try.ntmps5
  go_upto_region 1 with fail
  obtain ⟨W1, hW1⟩ : ∃ W1, W1 = w.alloc (.cells #[.slice ad nd c, .slice bd n bc] 34) := ⟨_, rfl⟩
  obtain ⟨X, hX⟩ : ∃ X, X = w.heap.size := ⟨_, rfl⟩
  rw [← hW1] at HX hB0 ⊢
  rw [← hX] at HX ⊢
  clear hW1 hX
  have cX := HX.out.c
  go_wp2_with fail
  refine Calls.mono (HGf.out _ hB0) ?_
  rintro e w1 ⟨rfl, hb⟩
  have HB1 := hide (hB0.trans (hb.mono hB0.size))
  have HX1 := hide (HX.out.below hb HX.out.lt)
  clear cX hb HGf hB0 HX
  have cX := HX1.out.c
  by_cases hg : goodF D F = true
  · have HF := hide (goodF_iff.1 hg)
    have HR := hide (clR_yes hg)
    have hn12 : nd ≤ 12 := by rw [HND.out]; exact (goodF_iff.1 hg).1.2.1
    have HGe := hide hg
    rw [hg]
    clear hg
    have hmk : ∀ w, (Instr.makeSlice 22 (.int .i64 8) (.int .i64 8)).run Try.prog w = .ok (.slice (some ⟨w.heap.size, 0, none⟩) 8 8) (w.alloc (.cells (madeCells #[.slice none 0 0] 8) 45)) := fun w => mk_ISS 8 (by omega) w
    go_upto_region 4 with fail
    clear hmk cX
    have HQ0 := hide (QST.new 45 w1 8)
    have HB2 := hide (HB1.out.alloc HB1.out.size (.cells (madeCells #[.slice none 0 0] 8) 45))
    have HX2 := hide (HX1.out.alloc (.cells (madeCells #[.slice none 0 0] 8) 45))
    obtain ⟨W2, hW2⟩ : ∃ W2, W2 = w1.alloc (.cells (madeCells #[.slice none 0 0] 8) 45) := ⟨_, rfl⟩
    obtain ⟨Z, hZ⟩ : ∃ Z, Z = w1.heap.size := ⟨_, rfl⟩
    rw [← hW2] at HX2 HQ0 HB2 ⊢
    rw [← hZ] at HQ0 ⊢
    have hZw : w.heap.size ≤ Z := by rw [hZ]; exact HB1.out.size
    clear hW2 hZ HX1 HB1
    have cX := HX2.out.c
    go_wp2_with fail
    refine Calls.mono (HLi.out _ HB2.out HF.out) ?_
    rintro e w2 ⟨Z2, rfl, hZ2, hQ, hb⟩
    have hne : Z2 ≠ Z := by have := HQ0.out.lt; omega
    have HZ := hide (HQ0.out.below hb)
    have HM := hide hQ
    have HB3 := hide (HB2.out.trans (hb.mono HB2.out.size))
    have HMl : Hid ((lvR D F).length = nd) := hide (by rw [lvR_len, HND.out])
    have HM8 : Hid (∀ k, R8 (row (lvR D F) k)) := hide (lvR_r8 D F)
    obtain ⟨M, hM⟩ : ∃ M, M = lvR D F := ⟨_, rfl⟩
    rw [← hM] at HM HMl HM8 HR
    clear cX hQ hb HX2 HLi HQ0 HB2 hM hZ2
    go_wp2_with fail
    go_loopw [18] (fun i w' => ∃ (k : Nat) (Ls : List (List Int)), k ≤ nd ∧ i = .int .i64 k ∧ QSI w' Z Ls ∧ RS Ls (clS M k 0) ∧ Oth Z w2 w' ∧ Below w.heap.size w w') (fun i _ => nd - (intOf i).toNat)
    case atStart => exact ⟨0, _, by omega, rfl, HZ.out, RS.start (clS_none M), Oth.refl _ _, HB3.out⟩
    case round =>
      obtain ⟨k, Ls, hk, rfl, hQ, hRS, hO, hB⟩ := hrel
      have HQ := hide hQ
      have HRS := hide hRS
      have HO := hide hO
      have HB := hide hB
      clear hQ hRS hO hB
      by_cases hlt : k < nd
      · have hlt' : (k : Int) < (nd : Int) := by omega
        have hk0 : (0 : Int) ≤ (k : Int) := by omega
        have hkM : k < M.length := by rw [HMl.out]; exact hlt
        obtain ⟨vk, ck, nvk⟩ := (HM.out.oth HZ.out hne HO.out).at (q := k) hkM
        have nv2 : NV w2 vk (row M k) := by
          obtain ⟨vk', ck', nvk'⟩ := HM.out.at (q := k) hkM
          have e := World.cell?_of_block (a := ⟨Z2, k, none⟩) (HO.out.block Z2 HM.out.lt hne)
          rw [ck, ck'] at e
          obtain rfl : vk = vk' := by simpa using e
          rw [row_at hkM]
          exact nvk'
        have HNx := hide (clS_next hkM)
        have HL8 := hide (HM8.out k)
        clear nvk
        obtain ⟨mk, hmk⟩ : ∃ mk, mk = (row M k).length := ⟨_, rfl⟩
        obtain ⟨ak, dk, e, -⟩ := nv2.form
        rw [← hmk] at e
        subst e
        have HNv := hide nv2
        have hmk8 : mk ≤ 8 := by rw [hmk]; exact r8_len HL8.out
        have HMk := hide hmk
        rw [← hmk] at HNx
        clear nv2 hmk
        go_wp2_with fail
        clear ck
        go_loopw [24] (fun i w' => ∃ (j : Nat) (Ls : List (List Int)), j ≤ mk ∧ i = .int .i64 j ∧ QSI w' Z Ls ∧ RS Ls (clS M k j) ∧ Oth Z w2 w' ∧ Below w.heap.size w w') (fun i _ => mk - (intOf i).toNat)
        case atStart => exact ⟨0, Ls, by omega, rfl, HQ.out, HRS.out, HO.out, HB.out⟩
        case round =>
          clear HQ HRS HO HB Ls
          obtain ⟨j, Ls, hj, rfl, hQ, hRS, hO, hB⟩ := hrel
          have HQ := hide hQ
          have HRS := hide hRS
          have HO := hide hO
          have HB := hide hB
          clear hQ hRS hO hB
          by_cases hlj : j < mk
          · have hlj' : (j : Int) < (mk : Int) := by omega
            have hj0 : (0 : Int) ≤ (j : Int) := by omega
            have hjl : j < (row M k).length := by rw [← HMk.out]; exact hlj
            have nvr : NV wr (.slice ak mk dk) (row M k) := HNv.out.othT HZ.out HO.out
            obtain ⟨ak', dk', e', hik, -⟩ := nvr.iv (by rw [← HMk.out]; omega)
            obtain ⟨rfl, -, rfl⟩ : ak = ak' ∧ mk = (row M k).length ∧ dk = dk' := by simpa using e'
            obtain ⟨bk, ok, rfl, -, pj⟩ := hik.iat (Below.refl _ _) hjl
            have h8 := HL8.out.2 _ (List.getElem_mem hjl)
            obtain ⟨a, ha⟩ : ∃ a : Nat, (row M k)[j] = (a : Int) := ⟨((row M k)[j]).toNat, by rw [Int.toNat_of_nonneg h8.1]⟩
            have ha8 : a < 8 := by rw [ha] at h8; omega
            have ha8' : (a : Int) < 8 := by omega
            have ha0 : (0 : Int) ≤ (a : Int) := by omega
            rw [ha] at pj
            have HAj := hide ha

            have HTn := hide (clT_all hjl ha)
            have nv0 := hide (clT_none M k j)
            rw [← HMk.out] at HTn
            clear nvr hik ha h8 e'
            go_wp2_with fail
            clear pj
            go_loopw [30] (fun i w' => ∃ (q : Nat) (Ls : List (List Int)), q ≤ mk ∧ i = .int .i64 q ∧ QSI w' Z Ls ∧ RS Ls (clT M k j q) ∧ Oth Z w2 w' ∧ Below w.heap.size w w') (fun i _ => mk - (intOf i).toNat)
            case atStart => exact ⟨0, Ls, by omega, rfl, HQ.out, HRS.out.to (fun a b => (nv0.out a b).symm), HO.out, HB.out⟩
            case round =>
              clear HQ HRS HO HB Ls nv0
              obtain ⟨q, Ls, hq, rfl, hQ, hRS, hO, hB⟩ := hrel
              have HQ := hide hQ
              have HRS := hide hRS
              have HO := hide hO
              have HB := hide hB
              clear hQ hRS hO hB
              by_cases hlq : q < mk
              · have hlq' : (q : Int) < (mk : Int) := by omega
                have hq0 : (0 : Int) ≤ (q : Int) := by omega
                have hql : q < (row M k).length := by rw [← HMk.out]; exact hlq
                have nvr : NV wr (.slice (some ⟨bk, ok, none⟩) mk dk) (row M k) := HNv.out.othT HZ.out HO.out
                obtain ⟨ak', dk', e', hik, -⟩ := nvr.iv (by rw [← HMk.out]; omega)
                obtain ⟨rfl, -, rfl⟩ : some (⟨bk, ok, none⟩ : Addr) = ak' ∧ mk = (row M k).length ∧ dk = dk' := by simpa using e'
                obtain ⟨bk', ok', e8, -, pq⟩ := hik.iat (Below.refl _ _) hql
                simp only [Option.some.injEq, Addr.mk.injEq, and_true] at e8
                obtain ⟨rfl, rfl⟩ := e8
                have h8 := HL8.out.2 _ (List.getElem_mem hql)
                obtain ⟨d, hd⟩ : ∃ d : Nat, (row M k)[q] = (d : Int) := ⟨((row M k)[q]).toNat, by rw [Int.toNat_of_nonneg h8.1]⟩
                have hd8 : d < 8 := by rw [hd] at h8; omega
                rw [hd] at pq
                by_cases had : a = d
                · subst had
                  have HRn := hide (HRS.out.keep hjl HAj.out hql hd)
                  clear nvr hik hd h8 hql e'
                  go_wp2_with fail
                  exact ⟨⟨q + 1, Ls, by omega, by go_num, HQ.out, HRn.out, HO.out, HB.out⟩, by simp [intOf]; omega⟩
                · have hadi : ¬ (a : Int) = (d : Int) := by omega
                  have haL : a < Ls.length := by rw [HRS.out.1]; exact ha8
                  obtain ⟨va, ca, nva⟩ := HQ.out.at (q := a) haL
                  rw [← row_at haL] at nva
                  have HRn := hide (HRS.out.put hjl HAj.out ha8 hql hd hd8 had)
                  have HPu := hide (l1PutO_any va (row Ls a) (d : Int) wr nva (by have := r8_len (HRS.out.r8 a); omega))
                  have HNew : Hid (∀ V x, Below wr.heap.size wr V → NV V x (putL (row Ls a) (d : Int)) → QSI (V.setCell ⟨Z, a, none⟩ x) Z (Ls.set a (putL (row Ls a) (d : Int))) ∧ RS (Ls.set a (putL (row Ls a) (d : Int))) (clT M k j (q + 1)) ∧ Oth Z w2 (V.setCell ⟨Z, a, none⟩ x) ∧ Below w.heap.size w (V.setCell ⟨Z, a, none⟩ x)) := hide (fun V x hbw hv => ⟨(HQ.out.below hbw).set haL hv, HRn.out, (HO.out.trans (Oth.ofBelow hbw)).setCell a x, (HB.out.trans (hbw.mono HB.out.size)).setCell (p := ⟨Z, a, none⟩) hZw x⟩)
                  have HCell : Hid (∀ V : World, Below wr.heap.size wr V → V.cell? ⟨Z, a, none⟩ = some va ∧ ∀ i, V.frozen? ⟨Z, i, none⟩ = false) := hide (fun V hb => ⟨(hb.cell (p := ⟨Z, a, none⟩) HQ.out.lt).trans ca, fun i => ((HQ.out.below hb).f i)⟩)
                  obtain ⟨aa, da, e, -⟩ := nva.form
                  obtain ⟨ma, hma⟩ : ∃ ma, ma = (row Ls a).length := ⟨_, rfl⟩
                  rw [← hma] at e
                  subst e
                  clear nvr hik nva HRn hd h8 hma haL hql HQ HRS HO HB e' had
                  go_wp2_with fail
                  (with_reducible refine Calls.mono HPu.out ?_)
                  rintro e V ⟨v9, rfl, hp, hbw⟩
                  have HV9 := hide hp.1
                  have cc := HCell.out _ hbw
                  have c5 := cc.1
                  have f5 := cc.2
                  have hq9 := hide (HNew.out _ _ hbw HV9.out)
                  obtain ⟨g9, h9, rfl, -⟩ := hp.1.form
                  clear cc hp hbw HPu HNew HCell HV9 ca pq
                  go_wp2_with fail
                  exact ⟨⟨q + 1, _, by omega, by go_num, hq9.out.1, hq9.out.2.1, hq9.out.2.2.1, hq9.out.2.2.2⟩, by simp [intOf]; omega⟩
              · obtain rfl : q = mk := by omega
                have HRe := hide (HRS.out.to HTn.out)
                clear HRS HNv HNx HTn
                go_wp2_with fail
                exact ⟨⟨j + 1, Ls, by omega, by go_num, HQ.out, HRe.out, HO.out, HB.out⟩, by simp [intOf]; omega⟩
          · obtain rfl : j = mk := by omega
            have HRe := hide (HRS.out.to HNx.out)
            clear HRS HNv HNx
            go_wp2_with fail
            exact ⟨⟨k + 1, Ls, by omega, by go_num, HQ.out, HRe.out, HO.out, HB.out⟩, by simp [intOf]; omega⟩
      · obtain rfl : k = nd := by omega
        have HE : Hid (Ls = clL M) := hide (RS.done (by rw [HMl.out]; exact HRS.out))
        have hL8 := HRS.out.1
        have HV : Hid (QV wr (.slice (some ⟨Z, 0, none⟩) 8 8) Ls) := hide (by
          have h := HQ.out.qv ⟨by rw [hL8]; omega, fun l hl => by
            obtain ⟨q, hq, rfl⟩ := List.getElem_of_mem hl
            have := r8_len (HRS.out.r8 q)
            rw [row_at hq] at this
            omega⟩
          rw [hL8] at h
          exact h)
        clear HRS HM8 hL8
        go_wp2_with fail
        exact bodyPost_ret (v := .tuple #[(.slice (some ⟨Z, 0, none⟩) 8 8), .bool true]) (by simp [results, Try.results5, go_sem]) rfl ⟨_, by rw [HGe.out], by rw [HR.out, ← HE.out]; exact HV.out, HB.out⟩
  · have hgf : goodF D F = false := by simpa using hg
    have HR := hide (clR_no hgf)
    have HGe := hide hgf
    rw [hgf]
    clear hg hgf
    go_wp2_with fail
    exact bodyPost_ret (v := .tuple #[.slice none 0 0, .bool false]) (by simp [results, Try.results5, go_sem]) rfl ⟨_, by rw [HGe.out], by rw [HR.out]; exact QV.nilv _, HB1.out⟩
end Go.Proofs.Ytaniiolphghhiab.W

/-
  The contract of bindingRows. Conditions: at most 500 bindings, 1048576 values. Written by wip/build/mk_rows.py.
-/
import Derived.Test.YtdajalchdbgooaaJ14
import Derived.Test.YtdajalchdbgooaaMaR5
import Derived.Deep.RegionHeld3
import Derived.Deep.RegionLaw
import Derived.Deep.AppendLies
import Derived.Deep.CutRange
namespace Go.Proofs.Ytdajalchdbgooaa.W
open Go.ChangeShapes Go.WideShapes Go.ChangeAt Go.RowKit
set_option linter.unusedVariables false
set_option linter.unusedSimpArgs false

/-- A row of bindings in memory. -/
def Rcc (q : Int × Int) (r : Nat) : Value := .int .i64 (if r = 0 then q.1 else q.2)
theorem infoBr : (Try.prog.info? 139).map (fun i => (i.zero, i.size, i.bytes)) = some (some (.agg #[.int .i64 0, .int .i64 0]), 2, 16) := by kernel_rfl
theorem bsOk_bad {nv : Nat} {bs : List Bd} {j : Nat} (hj : j < bs.length) (h : bOk nv j bs[j] = false) : bsOk nv bs = false := allI_bad _ bs 0 j hj (by rw [Nat.zero_add]; exact h)

set_option maxRecDepth 20000 in
set_option maxHeartbeats 4000000 in
theorem bindingRows_any (d : Bool) (p e x : Int) (sf : Value) (av ab : Option Addr) (nv cv cb : Nat) (bs : List Bd) (w : World) (h : BdRow w ab bs) (hl : bs.length ≤ 500) (hv : nv ≤ 1048576) :
    Calls Try.prog 54 #[.agg #[.bool d, .int .i64 p, .int .i64 e, .int .i64 x, sf, .slice av nv cv, .slice ab bs.length cb]] w fun r w' => ∃ v, r = .returned (.tuple #[v, .bool (bsOk nv bs)]) ∧ (bsOk nv bs = true → w'.ownsRow w.heap.size 139 2 v (bs.length + 1) (rcells 2 Rcc (brow bs bs.length))) ∧ Below w.heap.size w w' := by
  have HR := hide h
  obtain ⟨OK, hOK⟩ : ∃ OK, OK = bsOk nv bs := ⟨_, rfl⟩
  rw [← hOK]
  have HOK := hide hOK
  obtain ⟨i0, hi0, z0, z1, z2⟩ := infoPartsT infoBr
  have HI0 := hide hi0
  clear h hOK hi0
  go_enter Try.func54, Try.ntmps54
  go_upto_region 3 with fail
  have HX0 := hide ((Bx.new w #[.bool d, .int .i64 p, .int .i64 e, .int .i64 x, sf, .slice av nv cv, .slice ab bs.length cb] 28).alloc (.cells #[.int .i64 0, .int .i64 (-1)] 139))
  have hN0 := heap_alloc_new (w.alloc (.cells #[.bool d, .int .i64 p, .int .i64 e, .int .i64 x, sf, .slice av nv cv, .slice ab bs.length cb] 28)) (.cells #[.int .i64 0, .int .i64 (-1)] 139)
  simp only [World.size_alloc] at hN0
  have HO0 : Hid (((w.alloc (.cells #[.bool d, .int .i64 p, .int .i64 e, .int .i64 x, sf, .slice av nv cv, .slice ab bs.length cb] 28)).alloc (.cells #[.int .i64 0, .int .i64 (-1)] 139)).ownsRow (w.heap.size + 1) 139 2 (.slice (some ⟨w.heap.size + 1, 0, none⟩) 1 1) 1 (rcells 2 Rcc (brow bs 0))) := hide ⟨rfl, .inr ⟨_, 1, _, rfl, Nat.le_refl _, hN0, Nat.le_refl _, by unfold maxLen; omega, rfl, rfl⟩⟩
  have hB0 : Below w.heap.size w ((w.alloc (.cells #[.bool d, .int .i64 p, .int .i64 e, .int .i64 x, sf, .slice av nv cv, .slice ab bs.length cb] 28)).alloc (.cells #[.int .i64 0, .int .i64 (-1)] 139)) := ((Below.refl _ _).alloc (Nat.le_refl _) _).alloc (by simp) _
  obtain ⟨w0, hw0⟩ : ∃ w0, w0 = (w.alloc (.cells #[.bool d, .int .i64 p, .int .i64 e, .int .i64 x, sf, .slice av nv cv, .slice ab bs.length cb] 28)).alloc (.cells #[.int .i64 0, .int .i64 (-1)] 139) := ⟨_, rfl⟩
  rw [← hw0] at HX0 HO0 hB0 ⊢
  clear hw0 hN0
  go_loopw [4, 13] (fun sl i w' => ∃ (j : Nat), j ≤ bs.length ∧ i = .int .i64 (j : Int) ∧ (∀ k (hk : k < bs.length), k < j → bOk nv k bs[k] = true) ∧ w'.ownsRow (w.heap.size + 1) 139 2 sl (j + 1) (rcells 2 Rcc (brow bs j)) ∧ Bx w' w.heap.size #[.bool d, .int .i64 p, .int .i64 e, .int .i64 x, sf, .slice av nv cv, .slice ab bs.length cb] 28 ∧ Below w.heap.size w w') (fun _ i _ => bs.length - (intOf i).toNat)
  case atStart => exact ⟨0, Nat.zero_le _, rfl, fun k _ hk => by omega, HO0.out, HX0.out, hB0⟩
  case round =>
    obtain ⟨j, hj, rfl, hall, hO, hX, hB⟩ := hrel
    clear HX0 HO0 hB0
    have HAll := hide hall
    obtain ⟨ra, rc, rfl⟩ := own_form hO
    have HX := hide hX
    have HO := hide hO
    have hXl : w.heap.size < wr.heap.size := hX.lt
    have cx := hX.c
    clear hall hO hX
    by_cases hlt : j < bs.length
    · have hlt' : (j : Int) < (bs.length : Int) := by omega
      have hj0 : (0 : Int) ≤ (j : Int) := by omega
      obtain ⟨b, ob, rfl, hbl, y0, y1⟩ := BdRow.tok HR.out hB hlt
      have HBad := hide (fun h => bsOk_bad (nv := nv) (bs := bs) hlt h)
      have HAt := hide (fun (h : bOk nv j bs[j] = true) k hk (hk' : k < j + 1) => (by
        by_cases hkj : k < j
        · exact HAll.out k hk hkj
        · have hke : k = j := by omega
          subst hke
          exact h : bOk nv k bs[k] = true))
      have HSu := hide (brow_succ bs j hlt)
      have HLe := hide (brow_le bs j hj)
      have HLen := hide (brow_len bs j hj)
      obtain ⟨y, hy⟩ : ∃ y, y = bs[j] := ⟨_, rfl⟩
      rw [← hy] at y0 y1
      simp only [← hy] at HBad HAt HSu
      clear hy
      obtain ⟨yv, yu⟩ := y
      simp only at y0 y1 HSu
      have HIv := hide (isBelow_any yv nv)
      have HIu := hide (isBelow_any yu j)
      have hb3 : Below wr.heap.size wr (wr.alloc (.cells #[.int .i64 yv, .int .i64 yu] 124)) := (Below.refl _ _).alloc (Nat.le_refl _) _
      have HX3 := hide (HX.out.alloc (.cells #[.int .i64 yv, .int .i64 yu] 124))
      have HY3 := hide (Bx.new wr #[.int .i64 yv, .int .i64 yu] 124)
      have HO3 := hide (HO.out.alloc (.cells #[.int .i64 yv, .int .i64 yu] 124))
      have hB3 : Below w.heap.size w (wr.alloc (.cells #[.int .i64 yv, .int .i64 yu] 124)) := hB.alloc hB.size _
      have HW : Hid (∃ w3, w3 = wr.alloc (.cells #[.int .i64 yv, .int .i64 yu] 124)) := hide ⟨_, rfl⟩
      have cx3 := HX3.out.c
      cases hbv : blw yv nv with
      | false =>
        rw [hbv] at HIv
        have HBd : Hid (OK = false) := hide (by rw [HOK.out]; exact HBad.out (by unfold bOk; simp only [hbv, Bool.false_and]))
        clear HIu hbv
        go_wp2_with fail
        refine (HIv.out _).mono ?_
        rintro r w' ⟨rfl, hw'⟩
        subst hw'
        go_wp2_with fail
        refine bodyPost_ret (v := .tuple #[.slice none 0 0, .bool false]) (by simp [results, Try.results54, go_sem]) rfl ⟨_, by rw [HBd.out], fun hh => ?_, hB3⟩
        rw [HBd.out] at hh; cases hh
      | true =>
        rw [hbv] at HIv
        by_cases hu : yu = -1
        · subst hu
          have HOk := hide (HAt.out (by unfold bOk; simp [hbv]))
          clear HIu hbv
          go_wp2_with fail
          refine (HIv.out _).mono ?_
          rintro r w' ⟨rfl, hw'⟩
          subst hw'
          go_upto_if 36 with fail
          obtain ⟨w3, hw3⟩ : ∃ w3, w3 = wr.alloc (.cells #[.int .i64 yv, .int .i64 (-1)] 124) := ⟨_, rfl⟩
          rw [← hw3] at HX3 HY3 HO3 hB3 hb3 ⊢
          clear hw3 cx3 cx
          have hz3 : wr.heap.size < w3.heap.size := HY3.out.lt
          have hKl : 0 < (brow bs j).length := by rw [HLen.out]; omega
          obtain ⟨rb, o, hrb, hrl, hrc⟩ := RRow.at (RRow.ofOwn HO3.out HLen.out.symm) (Below.refl _ _) hKl
          have cb3 := HY3.out.c
          obtain ⟨LG, hLG⟩ : ∃ LG, LG = (brow bs j)[0].1 := ⟨_, rfl⟩
          obtain ⟨GT, hGT⟩ : ∃ GT, GT = (brow bs j)[0].2 := ⟨_, rfl⟩
          have hbd := HLe.out 0 hKl
          rw [← hLG] at hbd
          have e0 : w3.cell? ⟨rb, o, none⟩ = some (.int .i64 LG) := by rw [hLG]; have := hrc 0 (by omega); simpa [Rcc] using this
          have e1 : w3.cell? ⟨rb, o + 1, none⟩ = some (.int .i64 GT) := by rw [hGT]; have := hrc 1 (by omega); simpa [Rcc] using this
          subst hrb
          have hlw : IntKind.i64.wrap (LG + 1) = LG + 1 := IntWalk.i64_in _ ⟨by omega, by omega⟩
          have cy := (HY3.out.alloc (.cells #[.int .i64 LG, .int .i64 GT] 139)).c
          have HLG := hide hLG
          have HGT := hide hGT
          clear hLG hGT hrc
          have hj1 : (0 : Int) < ((j + 1 : Nat) : Int) := by omega
          by_cases hm : GT < yv
          · skip
            have HU3 := hide ((Bx.new w3 #[.int .i64 LG, .int .i64 GT] 139))
            have hN5 := heap_alloc_new (w3.alloc (.cells #[.int .i64 LG, .int .i64 GT] 139)) (.cells #[.int .i64 (LG + 1), .int .i64 yv] 139)
            simp only [World.size_alloc] at hN5
            have HN5 := hide hN5
            have M1 : Hid (j + 1 + 1 ≤ maxLen) := hide (by unfold maxLen; omega)
            have HO1 : Hid (∀ u ∈ [Value.int .i64 (LG + 1), .int .i64 yv], u.oneCell' = true) := hide (by intro u hu; simp only [List.mem_cons, List.not_mem_nil, or_false] at hu; rcases hu with rfl | rfl <;> rfl)
            clear hN5
            go_wp2_with (at_builtin; refine wpList_append_sep rfl _ _ 87 rfl (w.heap.size + 1) 139 i0 _ 2 16 Try.underlying87 HI0.out z0 z1 z2 rfl (by decide) _ (j + 1) _ rfl ((HO3.out.alloc _).alloc _) ⟨w3.heap.size + 1, 0, none⟩ 1 1 [.int .i64 (LG + 1), .int .i64 yv] rfl rfl (news2 HN5.out) HO1.out M1.out (by omega) (by simp; omega) ?_)
            intro s6 w6 ho6 hg6 hap6
            have hB6 : Below w.heap.size w w6 := Below.grown ((hB3.alloc hB3.size _).alloc (by simp; have := hB3.size; omega) _) hg6 (by simp; have := hB3.size; omega) (fun k hk => by have := (HO3.out.lt k hk).1; omega)
            have HX6 : Hid (Bx w6 w.heap.size #[.bool d, .int .i64 p, .int .i64 e, .int .i64 x, sf, .slice av nv cv, .slice (some ⟨b, ob, none⟩) bs.length cb] 28) := hide ((hg6.block _ (by simp; omega) (fun e' => by have := (HO3.out.lt _ e'.symm).1; omega)).trans ((HX3.out.alloc _).alloc _))
            have HO6 : Hid (w6.ownsRow (w.heap.size + 1) 139 2 s6 (j + 1 + 1) (rcells 2 Rcc (brow bs (j + 1)))) := hide (by
              have e3 : (brow bs j).getD ((-1 : Int) + 1).toNat (0, -1) = (LG, GT) := by
                rw [HLG.out, HGT.out, List.getD_eq_getElem?_getD, show ((-1 : Int) + 1).toNat = 0 by omega, List.getElem?_eq_getElem hKl]
                rfl
              rw [HSu.out, e3, rcells_app]
              simp only
              rw [show max GT yv = yv by omega]
              exact ho6)
            obtain ⟨a6, c6, hs6⟩ := own_form ho6
            subst hs6
            clear ho6 hg6 hap6 cb3 cy e0 e1
            go_wp2_with fail
            exact ⟨⟨j + 1, by omega, by go_num, HOk.out, HO6.out, HX6.out, hB6⟩, by simp [intOf]; omega⟩
          · skip
            have HU3 := hide ((Bx.new w3 #[.int .i64 LG, .int .i64 GT] 139))
            have hN5 := heap_alloc_new (w3.alloc (.cells #[.int .i64 LG, .int .i64 GT] 139)) (.cells #[.int .i64 (LG + 1), .int .i64 GT] 139)
            simp only [World.size_alloc] at hN5
            have HN5 := hide hN5
            have M1 : Hid (j + 1 + 1 ≤ maxLen) := hide (by unfold maxLen; omega)
            have HO1 : Hid (∀ u ∈ [Value.int .i64 (LG + 1), .int .i64 GT], u.oneCell' = true) := hide (by intro u hu; simp only [List.mem_cons, List.not_mem_nil, or_false] at hu; rcases hu with rfl | rfl <;> rfl)
            clear hN5
            go_wp2_with (at_builtin; refine wpList_append_sep rfl _ _ 87 rfl (w.heap.size + 1) 139 i0 _ 2 16 Try.underlying87 HI0.out z0 z1 z2 rfl (by decide) _ (j + 1) _ rfl ((HO3.out.alloc _).alloc _) ⟨w3.heap.size + 1, 0, none⟩ 1 1 [.int .i64 (LG + 1), .int .i64 GT] rfl rfl (news2 HN5.out) HO1.out M1.out (by omega) (by simp; omega) ?_)
            intro s6 w6 ho6 hg6 hap6
            have hB6 : Below w.heap.size w w6 := Below.grown ((hB3.alloc hB3.size _).alloc (by simp; have := hB3.size; omega) _) hg6 (by simp; have := hB3.size; omega) (fun k hk => by have := (HO3.out.lt k hk).1; omega)
            have HX6 : Hid (Bx w6 w.heap.size #[.bool d, .int .i64 p, .int .i64 e, .int .i64 x, sf, .slice av nv cv, .slice (some ⟨b, ob, none⟩) bs.length cb] 28) := hide ((hg6.block _ (by simp; omega) (fun e' => by have := (HO3.out.lt _ e'.symm).1; omega)).trans ((HX3.out.alloc _).alloc _))
            have HO6 : Hid (w6.ownsRow (w.heap.size + 1) 139 2 s6 (j + 1 + 1) (rcells 2 Rcc (brow bs (j + 1)))) := hide (by
              have e3 : (brow bs j).getD ((-1 : Int) + 1).toNat (0, -1) = (LG, GT) := by
                rw [HLG.out, HGT.out, List.getD_eq_getElem?_getD, show ((-1 : Int) + 1).toNat = 0 by omega, List.getElem?_eq_getElem hKl]
                rfl
              rw [HSu.out, e3, rcells_app]
              simp only
              rw [show max GT yv = GT by omega]
              exact ho6)
            obtain ⟨a6, c6, hs6⟩ := own_form ho6
            subst hs6
            clear ho6 hg6 hap6 cb3 cy e0 e1
            go_wp2_with fail
            exact ⟨⟨j + 1, by omega, by go_num, HOk.out, HO6.out, HX6.out, hB6⟩, by simp [intOf]; omega⟩
        · cases hbu : blw yu j with
          | false =>
            rw [hbu] at HIu
            have HBd : Hid (OK = false) := hide (by rw [HOK.out]; exact HBad.out (by unfold bOk; simp [hbu, hu]))
            clear hbv hbu
            go_wp2_with fail
            refine (HIv.out _).mono ?_
            rintro r w' ⟨rfl, hw'⟩
            subst hw'
            go_wp2_with fail
            refine (HIu.out _).mono ?_
            rintro r w' ⟨rfl, hw'⟩
            subst hw'
            go_wp2_with fail
            refine bodyPost_ret (v := .tuple #[.slice none 0 0, .bool false]) (by simp [results, Try.results54, go_sem]) rfl ⟨_, by rw [HBd.out], fun hh => ?_, hB3⟩
            rw [HBd.out] at hh; cases hh
          | true =>
            rw [hbu] at HIu
            have HOk := hide (HAt.out (by unfold bOk; simp [hbv, hbu]))
            obtain ⟨hu0, hu1⟩ := blw_iff.1 hbu
            obtain ⟨k, hk⟩ : ∃ k : Nat, yu = (k : Int) - 1 := ⟨(yu + 1).toNat, by omega⟩
            subst hk
            have hkj : k < j + 1 := by omega
            have hk' : (k : Int) < ((j + 1 : Nat) : Int) := by omega
            have hk0 : (0 : Int) ≤ (k : Int) := by omega
            have hkw : IntKind.i64.wrap ((k : Int) - 1 + 1) = (k : Int) := by rw [show (k : Int) - 1 + 1 = (k : Int) by omega]; exact IntWalk.i64_in _ ⟨by omega, by omega⟩
            clear hbv hbu hu0 hu1
            go_wp2_with fail
            refine (HIv.out _).mono ?_
            rintro r w' ⟨rfl, hw'⟩
            subst hw'
            go_wp2_with fail
            refine (HIu.out _).mono ?_
            rintro r w' ⟨rfl, hw'⟩
            subst hw'
            go_upto_if 36 with fail
            obtain ⟨w3, hw3⟩ : ∃ w3, w3 = wr.alloc (.cells #[.int .i64 yv, .int .i64 ((k : Int) - 1)] 124) := ⟨_, rfl⟩
            rw [← hw3] at HX3 HY3 HO3 hB3 hb3 ⊢
            clear hw3 cx3 cx
            have hz3 : wr.heap.size < w3.heap.size := HY3.out.lt
            have hKl : k < (brow bs j).length := by rw [HLen.out]; omega
            obtain ⟨rb, o, hrb, hrl, hrc⟩ := RRow.at (RRow.ofOwn HO3.out HLen.out.symm) (Below.refl _ _) hKl
            have cb3 := HY3.out.c
            obtain ⟨LG, hLG⟩ : ∃ LG, LG = (brow bs j)[k].1 := ⟨_, rfl⟩
            obtain ⟨GT, hGT⟩ : ∃ GT, GT = (brow bs j)[k].2 := ⟨_, rfl⟩
            have hbd := HLe.out k hKl
            rw [← hLG] at hbd
            have e0 : w3.cell? ⟨rb, o + k * 2, none⟩ = some (.int .i64 LG) := by rw [hLG]; have := hrc 0 (by omega); simpa [Rcc] using this
            have e1 : w3.cell? ⟨rb, o + k * 2 + 1, none⟩ = some (.int .i64 GT) := by rw [hGT]; have := hrc 1 (by omega); simpa [Rcc] using this
            subst hrb
            have hlw : IntKind.i64.wrap (LG + 1) = LG + 1 := IntWalk.i64_in _ ⟨by omega, by omega⟩
            have cy := (HY3.out.alloc (.cells #[.int .i64 LG, .int .i64 GT] 139)).c
            have HLG := hide hLG
            have HGT := hide hGT
            clear hLG hGT hrc
            have hj1 : (0 : Int) < ((j + 1 : Nat) : Int) := by omega
            by_cases hm : GT < yv
            · skip
              have HU3 := hide ((Bx.new w3 #[.int .i64 LG, .int .i64 GT] 139))
              have hN5 := heap_alloc_new (w3.alloc (.cells #[.int .i64 LG, .int .i64 GT] 139)) (.cells #[.int .i64 (LG + 1), .int .i64 yv] 139)
              simp only [World.size_alloc] at hN5
              have HN5 := hide hN5
              have M1 : Hid (j + 1 + 1 ≤ maxLen) := hide (by unfold maxLen; omega)
              have HO1 : Hid (∀ u ∈ [Value.int .i64 (LG + 1), .int .i64 yv], u.oneCell' = true) := hide (by intro u hu; simp only [List.mem_cons, List.not_mem_nil, or_false] at hu; rcases hu with rfl | rfl <;> rfl)
              clear hN5
              go_wp2_with (at_builtin; refine wpList_append_sep rfl _ _ 87 rfl (w.heap.size + 1) 139 i0 _ 2 16 Try.underlying87 HI0.out z0 z1 z2 rfl (by decide) _ (j + 1) _ rfl ((HO3.out.alloc _).alloc _) ⟨w3.heap.size + 1, 0, none⟩ 1 1 [.int .i64 (LG + 1), .int .i64 yv] rfl rfl (news2 HN5.out) HO1.out M1.out (by omega) (by simp; omega) ?_)
              intro s6 w6 ho6 hg6 hap6
              have hB6 : Below w.heap.size w w6 := Below.grown ((hB3.alloc hB3.size _).alloc (by simp; have := hB3.size; omega) _) hg6 (by simp; have := hB3.size; omega) (fun k hk => by have := (HO3.out.lt k hk).1; omega)
              have HX6 : Hid (Bx w6 w.heap.size #[.bool d, .int .i64 p, .int .i64 e, .int .i64 x, sf, .slice av nv cv, .slice (some ⟨b, ob, none⟩) bs.length cb] 28) := hide ((hg6.block _ (by simp; omega) (fun e' => by have := (HO3.out.lt _ e'.symm).1; omega)).trans ((HX3.out.alloc _).alloc _))
              have HO6 : Hid (w6.ownsRow (w.heap.size + 1) 139 2 s6 (j + 1 + 1) (rcells 2 Rcc (brow bs (j + 1)))) := hide (by
                have e3 : (brow bs j).getD (((k : Int) - 1) + 1).toNat (0, -1) = (LG, GT) := by
                  rw [HLG.out, HGT.out, List.getD_eq_getElem?_getD, show (((k : Int) - 1) + 1).toNat = k by omega, List.getElem?_eq_getElem hKl]
                  rfl
                rw [HSu.out, e3, rcells_app]
                simp only
                rw [show max GT yv = yv by omega]
                exact ho6)
              obtain ⟨a6, c6, hs6⟩ := own_form ho6
              subst hs6
              clear ho6 hg6 hap6 cb3 cy e0 e1
              go_wp2_with fail
              exact ⟨⟨j + 1, by omega, by go_num, HOk.out, HO6.out, HX6.out, hB6⟩, by simp [intOf]; omega⟩
            · skip
              have HU3 := hide ((Bx.new w3 #[.int .i64 LG, .int .i64 GT] 139))
              have hN5 := heap_alloc_new (w3.alloc (.cells #[.int .i64 LG, .int .i64 GT] 139)) (.cells #[.int .i64 (LG + 1), .int .i64 GT] 139)
              simp only [World.size_alloc] at hN5
              have HN5 := hide hN5
              have M1 : Hid (j + 1 + 1 ≤ maxLen) := hide (by unfold maxLen; omega)
              have HO1 : Hid (∀ u ∈ [Value.int .i64 (LG + 1), .int .i64 GT], u.oneCell' = true) := hide (by intro u hu; simp only [List.mem_cons, List.not_mem_nil, or_false] at hu; rcases hu with rfl | rfl <;> rfl)
              clear hN5
              go_wp2_with (at_builtin; refine wpList_append_sep rfl _ _ 87 rfl (w.heap.size + 1) 139 i0 _ 2 16 Try.underlying87 HI0.out z0 z1 z2 rfl (by decide) _ (j + 1) _ rfl ((HO3.out.alloc _).alloc _) ⟨w3.heap.size + 1, 0, none⟩ 1 1 [.int .i64 (LG + 1), .int .i64 GT] rfl rfl (news2 HN5.out) HO1.out M1.out (by omega) (by simp; omega) ?_)
              intro s6 w6 ho6 hg6 hap6
              have hB6 : Below w.heap.size w w6 := Below.grown ((hB3.alloc hB3.size _).alloc (by simp; have := hB3.size; omega) _) hg6 (by simp; have := hB3.size; omega) (fun k hk => by have := (HO3.out.lt k hk).1; omega)
              have HX6 : Hid (Bx w6 w.heap.size #[.bool d, .int .i64 p, .int .i64 e, .int .i64 x, sf, .slice av nv cv, .slice (some ⟨b, ob, none⟩) bs.length cb] 28) := hide ((hg6.block _ (by simp; omega) (fun e' => by have := (HO3.out.lt _ e'.symm).1; omega)).trans ((HX3.out.alloc _).alloc _))
              have HO6 : Hid (w6.ownsRow (w.heap.size + 1) 139 2 s6 (j + 1 + 1) (rcells 2 Rcc (brow bs (j + 1)))) := hide (by
                have e3 : (brow bs j).getD (((k : Int) - 1) + 1).toNat (0, -1) = (LG, GT) := by
                  rw [HLG.out, HGT.out, List.getD_eq_getElem?_getD, show (((k : Int) - 1) + 1).toNat = k by omega, List.getElem?_eq_getElem hKl]
                  rfl
                rw [HSu.out, e3, rcells_app]
                simp only
                rw [show max GT yv = GT by omega]
                exact ho6)
              obtain ⟨a6, c6, hs6⟩ := own_form ho6
              subst hs6
              clear ho6 hg6 hap6 cb3 cy e0 e1
              go_wp2_with fail
              exact ⟨⟨j + 1, by omega, by go_num, HOk.out, HO6.out, HX6.out, hB6⟩, by simp [intOf]; omega⟩
    · have hjb : j = bs.length := by omega
      have hlt' : ¬ (j : Int) < (bs.length : Int) := by omega
      have HOkk : Hid (OK = true) := hide (by
        rw [HOK.out]
        refine allI_all _ _ _ (fun k hk => ?_)
        rw [Nat.zero_add]
        exact HAll.out k hk (by omega))
      go_wp2_with fail
      refine bodyPost_ret (v := .tuple #[.slice ra (bs.length + 1) rc, .bool true]) (by simp [results, Try.results54, go_sem]) rfl ⟨_, by rw [HOkk.out], fun _ => ?_, hB⟩
      have := own_lower HO.out (Nat.le_succ w.heap.size)
      rw [hjb] at this
      exact this
end Go.Proofs.Ytdajalchdbgooaa.W

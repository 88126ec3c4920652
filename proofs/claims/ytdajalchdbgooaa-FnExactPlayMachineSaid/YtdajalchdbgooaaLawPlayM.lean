/-
  Proved: whatever the row of cells and the number, the memory and the schedule, the law FnExactPlayMachine returns true, and the row reads afterwards as it read before: PlayMachine of the program tells what the specification's tells, in memory of its own. No conditions. Written by wip/build/mk_lawm.py.
-/
import Derived.Test.YtdajalchdbgooaaMy
import Derived.Test.YtdajalchdbgooaaCeK
import Derived.Test.YtdajalchdbgooaaCeO
import Derived.Lib.SmallJoins
import Derived.ChangeOld
import Derived.Below
namespace Go.Proofs.Ytdajalchdbgooaa.fnExactPlayMachine
open Go.ChangeShapes Go.WideShapes Go.ChangeAt Go.RowKit
open Go.Proofs.Ytdajalchdbgooaa.W Go.Joins
set_option linter.unusedVariables false

theorem own : ownKnob Try.prog.godebug = none := by kernel_rfl
theorem laidOut : laidOutB Try.prog = true := by kernel_rfl

set_option maxHeartbeats 4000000 in
theorem walk (ad : Option Addr) (c : Nat) (l : List Cc) (q : Int) (w : World) (hl : l.length ≤ maxLen) (h : CRow w ad l) :
    Calls Try.prog 6 #[.slice ad l.length c, .int .i64 q] w fun e w' => e = .returned (.bool true) ∧ Below w.heap.size w w' := by
  have HR := hide h
  clear h
  go_enter Try.func6, Try.ntmps6
  go_wp2_with fail
  refine (szCellS_any _ _ _ _ hl).mono ?_
  rintro e w1 ⟨r, rfl, hr, hw⟩
  obtain rfl := hw.symm
  clear hl
  by_cases hneg : r < 0
  · clear hr
    go_wp2_with fail
    go_ret
    exact ⟨rfl, Below.refl _ _⟩
  · have hl : l.length ≤ 1048576 := by
      rcases hr with h | h
      · exact absurd h hneg
      · exact h.2.2
    clear hr
    go_wp2_with fail
    refine (toCellS_any _ _ _ _ hl HR.out).mono ?_
    rintro e w2 ⟨rfl, hr2, hB2⟩
    have HS := hide (fun (ad : Option Addr) (c : Nat) (w : World) (h : CRow w ad l) => specPlay_any ad c l q w hl h)
    have HP := hide (fun (ad : Option Addr) (c : Nat) (w : World) (hc : c = l.length) (h : CRow w ad l) => implPlay_own ad c l q w hl hc h)
    obtain ⟨M, hM⟩ : ∃ M, M = (pmP l q).1 := ⟨_, rfl⟩
    obtain ⟨OK, hOK⟩ : ∃ OK, OK = pmO l q := ⟨_, rfl⟩
    obtain ⟨MD, hMD⟩ : ∃ MD, MD = ((pmP l q).2 : Int) := ⟨_, rfl⟩
    simp only [← hM, ← hOK, ← hMD] at HS HP
    clear hM hOK hMD
    go_wp2_with fail
    refine (HS.out _ _ _ hr2.row).mono ?_
    rintro e w3 ⟨v1, rfl, hs1, hb3⟩
    have hB3 : Below w.heap.size w w3 := hB2.trans (hb3.mono hB2.size)
    have HS3 := hide hs1
    obtain ⟨d, p, en, x, fs, vs, bs⟩ := M
    obtain ⟨af, cf, av, cv, ab, cb, rfl, -, -, -, n4, n5, n6, -, -, -⟩ := hs1
    simp only at n4 n5 n6 HS HP HS3 ⊢
    clear hb3 hr2 hB2
    go_wp2_with fail
    have hq3 : Below w.heap.size w (w3.alloc (.cells #[.bool d, .int .i64 p, .int .i64 en, .int .i64 x, .slice af fs.length cf, .slice av vs.length cv, .slice ab bs.length cb] 28)) := hB3.alloc hB3.size _
    refine (toCellS_any _ _ _ _ hl (HR.out.below hq3)).mono ?_
    rintro e w4 ⟨rfl, hr4, hb4⟩
    have hB4 : Below w.heap.size w w4 := hq3.trans (hb4.mono hq3.size)
    have hC4 : Below w3.heap.size w3 w4 := ((Below.refl _ _).alloc (Nat.le_refl _) _).trans (hb4.mono (by simp))
    simp only [World.size_alloc] at hr4
    have HX4 := hide hr4
    have hY4 := (Bx.new w3 _ _).below hb4 (by simp)
    have HY4 := hide hY4
    have yl4 := hY4.lt
    have hs4 : w3.heap.size + 1 < w4.heap.size := by obtain ⟨cur, hh, -⟩ := hr4; exact (Array.getElem?_eq_some_iff.1 hh).1
    clear hb4 hr4 hq3 hY4
    go_wp2_with fail
    refine (HP.out _ _ _ rfl HX4.out.row).mono ?_
    rintro e w5 ⟨v2, rfl, ho5, hb5⟩
    have HO5 := hide ho5
    obtain ⟨sf, sv, sb, rfl, o1, o2, o3, -⟩ := ho5
    obtain ⟨gf, kf, rfl⟩ := own_form o1.1
    obtain ⟨gv, kv, rfl⟩ := own_form o2.1
    obtain ⟨gb, kb, rfl⟩ := own_form o3.1
    simp only at HO5 ⊢
    have hC5 : Below w3.heap.size w3 w5 := hC4.trans (hb5.mono hC4.size)
    have HX5 := hide (HX4.out.below hb5)
    have HY5 := HY4.out.below hb5 yl4
    have yl5 : w3.heap.size < w5.heap.size := HY5.lt
    have hcy := (HY5.alloc (.cells #[.bool d, .int .i64 p, .int .i64 en, .int .i64 x, .slice gf fs.length kf, .slice gv vs.length kv, .slice gb bs.length kb] 28)).c
    have HY5 := hide HY5
    have hB5 : Below w.heap.size w w5 := hB4.trans (hb5.mono hB4.size)
    have hsz5 := hb5.size
    clear o1 o2 o3 hb5 hC4 HX4 HY4
    go_wp2_with fail
    have hq5 : Below w5.heap.size w5 (w5.alloc (.cells #[.bool d, .int .i64 p, .int .i64 en, .int .i64 x, .slice gf fs.length kf, .slice gv vs.length kv, .slice gb bs.length kb] 28)) := (Below.refl _ _).alloc (Nat.le_refl _) _
    refine (eqMachine_row _ _ ⟨d, p, en, x, fs, vs, bs⟩ _ (HO5.out.row.below hq5) (HS3.out.below (hC5.trans (hq5.mono hC5.size)))).mono ?_
    rintro e w6 ⟨rfl, hb6⟩
    have hb6' : Below w5.heap.size w5 w6 := hq5.trans (hb6.mono hq5.size)
    have HG6 := hide ((Bx.new w5 _ _).below hb6 (by simp))
    have HO6 := hide (HO5.out.below (Nat.le_refl _) hb6')
    have hC6 : Below w3.heap.size w3 w6 := hC5.trans (hb6'.mono hC5.size)
    have HX6 := hide (HX5.out.below hb6')
    have HY6 := hide (HY5.out.below hb6' (by omega))
    have hB6 : Below w.heap.size w w6 := hB5.trans (hb6'.mono hB5.size)
    have hsz6 : w5.heap.size < w6.heap.size := HG6.out.lt
    clear hb6 hb6' hq5 HO5 hC5 HX5 HY5 hcy
    go_wp2_with fail
    refine (toCellS_any _ _ _ _ hl (HR.out.below hB6)).mono ?_
    rintro e w7 ⟨rfl, hr7, hb7⟩
    have HG7 := hide (HG6.out.below hb7 (by omega))
    have HO7 := hide (HO6.out.below (by omega) hb7)
    have hC7 : Below w3.heap.size w3 w7 := hC6.trans (hb7.mono hC6.size)
    have HX7 := hide (HX6.out.below hb7)
    have HY7 := hide (HY6.out.below hb7 (by omega))
    have hB7 : Below w.heap.size w w7 := hB6.trans (hb7.mono hB6.size)
    have hsz7 := hb7.size
    clear hb7 HO6 hC6 HX6 HY6 HG6
    go_wp2_with fail
    refine (eqCellS_row _ _ _ _ _ _ hl HX7.out.row hr7.row).mono ?_
    rintro e w8 ⟨rfl, hb8⟩
    have HG8 := hide (HG7.out.below hb8 (by omega))
    have HO8 := hide (HO7.out.below (by omega) hb8)
    have hC8 : Below w3.heap.size w3 w8 := hC7.trans (hb8.mono hC7.size)
    obtain ⟨xs, hx8⟩ := (HX7.out.below hb8).own (base := w3.heap.size + 1) (Nat.le_refl _) hl
    have HX8 := hide hx8
    have HY8 := hide (HY7.out.below hb8 (by omega))
    have hB8 : Below w.heap.size w w8 := hB7.trans (hb8.mono hB7.size)
    have hsz8 := hb8.size
    clear hb8 HO7 hC7 HX7 HY7 HG7 hr7 hx8
    have hle8 := hB8.size
    go_wp2_with fail
    refine (markCellS_any _ _ _ _ _ hl HX8.out).mono ?_
    rintro e w9 ⟨rfl, -, hg9⟩
    have hT9 : Btw (w3.heap.size + 1) w4.heap.size w8 w9 := Btw.ofGrown hg9 (fun k hk => by simp only [Value.ownBlock, Option.some.injEq] at hk; omega)
    have HG9 : Hid (Bx w9 w5.heap.size _ _) := hide ((hT9.block _ (by omega) (.inr (by omega))).trans HG8.out)
    have HY9 : Hid (Bx w9 w3.heap.size _ _) := hide ((hT9.block _ (by omega) (.inl (by omega))).trans HY8.out)
    have HO9 := hide (HO8.out.keep (w' := w9) (by omega) (fun k h1 h2 => hT9.block k (by omega) (.inr h1)))
    have hB9 : Below w.heap.size w w9 := hB8.trans ((hT9.below (by omega)).mono (by have := hB3.size; omega))
    have hsz9 := hT9.size
    have hC9 : Below w3.heap.size w3 w9 := hC8.trans ((hT9.below (by omega)).mono (by omega))
    clear hg9 hT9 HO8 hC8 hB8 HX8 HG8 HY8
    have hk9 : ¬ ((1 + l.length * 2 : Nat) : Int) < 0 := by omega
    obtain ⟨K9, hK9⟩ : ∃ K9, K9 = 1 + l.length * 2 := ⟨_, rfl⟩
    rw [← hK9] at hk9 ⊢
    clear hK9
    have hcy := HY9.out.c
    have hcg := HG9.out.c
    go_wp2_with fail
    refine (eqMachine_row _ _ ⟨d, p, en, x, fs, vs, bs⟩ _ HO9.out.row (HS3.out.below hC9)).mono ?_
    rintro e w10 ⟨rfl, hb10⟩
    have HG10 := hide (HG9.out.below hb10 (by omega))
    have HO10 := hide (HO9.out.below (by omega) hb10)
    have hC10 : Below w3.heap.size w3 w10 := hC9.trans (hb10.mono hC9.size)
    have HY10 := hide (HY9.out.below hb10 (by omega))
    have hB10 : Below w.heap.size w w10 := hB9.trans (hb10.mono hB9.size)
    have hsz10 := hb10.size
    clear hb10 HO9 hC9 HY9 HG9 hcy hcg hB9
    have hcg := HG10.out.c
    go_wp2_with fail
    refine (markMachine_any _ ⟨d, p, en, x, fs, vs, bs⟩ w4.heap.size w5.heap.size 1 _ (by omega) (by omega) HO10.out).mono ?_
    rintro e w11 ⟨rfl, hm11, hT11⟩
    have HM11 := hide hm11
    have HY11 : Hid (Bx w11 w3.heap.size _ _) := hide ((hT11.block _ (by omega) (.inl (by omega))).trans HY10.out)
    have HG11 : Hid (Bx w11 w5.heap.size _ _) := hide ((hT11.block _ (by omega) (.inr (by omega))).trans HG10.out)
    have hB11 : Below w.heap.size w w11 := hB10.trans ((hT11.below (by omega)).mono (by have := hB3.size; omega))
    have hC11 : Below w3.heap.size w3 w11 := hC10.trans ((hT11.below (by omega)).mono (by omega))
    have hsz11 := hT11.size
    clear hm11 hT11 HO10 hC10 HY10 HG10 hB10 hcg
    have HH := hide (fun (w : World) (h : MMk w (.agg #[.bool d, .int .i64 p, .int .i64 en, .int .i64 x, .slice gf fs.length kf, .slice gv vs.length kv, .slice gb bs.length kb]) 1 ⟨d, p, en, x, fs, vs, bs⟩) => heldMachine_any _ ⟨d, p, en, x, fs, vs, bs⟩ 1 w (by omega) n4 n5 n6 h)
    obtain ⟨KM, hKM⟩ : ∃ KM, KM = 1 + mN ⟨d, p, en, x, fs, vs, bs⟩ := ⟨_, rfl⟩
    simp only [← hKM] at HH ⊢
    clear hKM
    have hkm : ¬ ((KM : Nat) : Int) < 0 := by omega
    have hcg := HG11.out.c
    go_wp2_with fail
    refine (HH.out _ HM11.out).mono ?_
    rintro e w12 ⟨rfl, hb12⟩
    have HM12 := hide (HM11.out.below hb12)
    have HG12 := hide (HG11.out.below hb12 (by omega))
    have HY12 := hide (HY11.out.below hb12 (by omega))
    have hC12 : Below w3.heap.size w3 w12 := hC11.trans (hb12.mono hC11.size)
    have hB12 : Below w.heap.size w w12 := hB11.trans (hb12.mono hB11.size)
    have hsz12 := hb12.size
    clear hb12 HM11 HG11 HY11 hC11 hB11 hcg
    go_wp2_with fail
    refine (toCellS_any _ _ _ _ hl (HR.out.below hB12)).mono ?_
    rintro e w13 ⟨rfl, hr13, hb13⟩
    have HM13 := hide (HM12.out.below hb13)
    have HG13 := hide (HG12.out.below hb13 (by omega))
    have HY13 := hide (HY12.out.below hb13 (by omega))
    have hC13 : Below w3.heap.size w3 w13 := hC12.trans (hb13.mono hC12.size)
    have hB13 : Below w.heap.size w w13 := hB12.trans (hb13.mono hB12.size)
    have hsz13 := hb13.size
    have HX13 := hide hr13
    clear hb13 HM12 HG12 HY12 hC12 hB12 hr13
    go_wp2_with fail
    refine (HP.out _ _ _ rfl HX13.out.row).mono ?_
    rintro e w14 ⟨v3, rfl, ho14, hb14⟩
    have HO14 := hide ho14.row
    obtain ⟨sf', sv', sb', rfl, o1, o2, o3, -⟩ := ho14
    obtain ⟨hf, jf, rfl⟩ := own_form o1.1
    obtain ⟨hv, jv, rfl⟩ := own_form o2.1
    obtain ⟨hb, jb, rfl⟩ := own_form o3.1
    simp only at HO14 ⊢
    have HM14 := hide (HM13.out.below hb14)
    have HG14 := hide (HG13.out.below hb14 (by omega))
    have HY14 := hide (HY13.out.below hb14 (by omega))
    have hC14 : Below w3.heap.size w3 w14 := hC13.trans (hb14.mono hC13.size)
    have hB14 : Below w.heap.size w w14 := hB13.trans (hb14.mono hB13.size)
    have hsz14 := hb14.size
    clear hb14 HM13 HG13 HY13 hC13 hB13 HX13 o1 o2 o3
    have hcy := (HY14.out.alloc (.cells #[.bool d, .int .i64 p, .int .i64 en, .int .i64 x, .slice hf fs.length jf, .slice hv vs.length jv, .slice hb bs.length jb] 28)).c
    go_wp2_with fail
    have hq14 : Below w14.heap.size w14 (w14.alloc (.cells #[.bool d, .int .i64 p, .int .i64 en, .int .i64 x, .slice hf fs.length jf, .slice hv vs.length jv, .slice hb bs.length jb] 28)) := (Below.refl _ _).alloc (Nat.le_refl _) _
    refine (eqMachine_row _ _ ⟨d, p, en, x, fs, vs, bs⟩ _ (HO14.out.below hq14) (HS3.out.below (hC14.trans (hq14.mono hC14.size)))).mono ?_
    rintro e w15 ⟨rfl, hb15⟩
    have hb15' : Below w14.heap.size w14 w15 := hq14.trans (hb15.mono hq14.size)
    have HM15 := hide (HM14.out.below hb15')
    have HG15 := hide (HG14.out.below hb15' (by omega))
    have hB15 : Below w.heap.size w w15 := hB14.trans (hb15'.mono hB14.size)
    have hsz15 := hb15'.size
    clear hb15 hb15' HM14 HG14 hC14 hB14 hq14 hcy HY14 HO14
    have hcg := HG15.out.c
    go_wp2_with fail
    refine (HH.out _ HM15.out).mono ?_
    rintro e w16 ⟨rfl, hb16⟩
    have hB16 : Below w.heap.size w w16 := hB15.trans (hb16.mono hB15.size)
    clear hb16 hcg
    go_wp2_with fail
    go_ret
    exact ⟨rfl, hB16⟩

set_option maxRecDepth 100000 in
theorem lifted (os : Os) (started : os.Started) (H : Type) (enc : TypeId × Value → H) :
    ReturnsInHanded {} Try.checked os 6 .any (Rows.fnExactPlayMachineSpec.pre6 enc Try.prog Try.f6 Rows.fnExactPlayMachineRow.domain false) (Rows.fnExactPlayMachineSpec.post enc Try.prog Try.f6 false true false false) := by
  refine returnsInHanded_of_change (C := Try.checked) own started (by kernel_rfl) Try.func6
    (ChangeSpec.witness6 (enc := enc) (C := Try.checked) false ⟨#[], #[.slice none 0 0, .int .i64 0], []⟩ 8 (by kernel_rfl) (by kernel_rfl) (by kernel_rfl) (by kernel_rfl)) ?_
  intro W base args ds gs before hval0 hW hcnd _
  have hval : ∀ (j : Nat) t v, Try.f6.params[j]? = some t → args[j]? = some v → Value.okWide Try.prog W .any base t v := hval0
  have hW' := hW
  obtain ⟨p, q, hA0, hV, rfl, hfz, hnd⟩ := hW
  have hA : DataW.TrodAll enc Try.prog W 0 (fun _ => true) true Try.f6.params.toList args.toList ds p := hA0
  rw [Try.params6] at hA hval
  obtain ⟨v0, vs0, d0, ds0, p0, q0, hargs, rfl, rfl, h0, r0⟩ := trodAll_cons hA
  obtain ⟨v1, vs1, d1, ds1, p1, q1, rfl, rfl, rfl, h1, r1⟩ := trodAll_cons r0
  obtain ⟨rfl, rfl, rfl⟩ := trodAll_nil r1
  obtain rfl : args = #[v0, v1] := by cases args; simp_all
  obtain ⟨rfl, rfl⟩ := trodVars_none hV
  have k0 := h0
  have k1' := h1
  have lt0 : ∀ x ∈ p0, x.block < W.heap.size := by obtain ⟨m, hm⟩ := k0; exact DataW.trod_lt m _ _ _ hm
  have lt1 : ∀ x ∈ p1, x.block < W.heap.size := by obtain ⟨m, hm⟩ := k1'; exact DataW.trod_lt m _ _ _ hm
  obtain ⟨n1, rfl, -, -, -⟩ := open_int Try.underlying3 (hval 1 3 v1 rfl rfl) h1
  obtain ⟨ad, len, cap, rfl⟩ := okWide_slice Try.underlying22 (hval 0 22 v0 rfl rfl)
  obtain ⟨fuel, hf⟩ := h0
  obtain ⟨l, rfl, hl, hR⟩ := open_cells hf
  clear hA0 hval0
  refine (walk ad cap l n1 W hl hR).mono fun e W' ⟨he, bel⟩ => ?_
  subst he
  exact ⟨_, rfl, _, _, _, [], _, [], hW', trodAll_mk1 (shut_bool Try.underlying4 _), (trodAll_cons_mk (Below.trod laidOut (by kernel_rfl) (of_decide_eq_true (by kernel_rfl)) k0 bel lt0) (trodAll_cons_mk (Below.trod laidOut (by kernel_rfl) (of_decide_eq_true (by kernel_rfl)) k1' bel lt1) trodAll_mk0)), rfl, bel.frame _, fun h => by cases h⟩

theorem over : Rows.fnExactPlayMachineRow.holds Try.pinned (OpenSpec.ofChange Rows.fnExactPlayMachineSpec) :=
  OpenClaim.holds_of_wide 6 Try.f6 rfl rfl rfl rfl rfl rfl rfl ⟨rfl, rfl, rfl, rfl, rfl⟩ rfl rfl rfl rfl rfl (by kernel_rfl) Try.func6 (by kernel_rfl)
    (of_decide_eq_true (by kernel_rfl)) (by unfold Func.isWrapper; first | (rw [if_pos (by decide +kernel)]; kernel_rfl) | (rw [if_neg (by decide +kernel)]; exact ⟨rfl, rfl⟩))
    (fun os started H enc _ => lifted os started H enc)
end Go.Proofs.Ytdajalchdbgooaa.fnExactPlayMachine

namespace Go.Proofs.Ytdajalchdbgooaa
theorem fnExactPlayMachine_holds : Rows.FnExactPlayMachineSaid := fnExactPlayMachine.over
#print axioms fnExactPlayMachine_holds
end Go.Proofs.Ytdajalchdbgooaa

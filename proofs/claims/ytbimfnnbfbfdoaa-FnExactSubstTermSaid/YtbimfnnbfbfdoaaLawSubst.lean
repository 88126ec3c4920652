/-
  Proved: whatever the two rows of cells and the place, the memory and the schedule, the law FnExactSubstTerm returns true, and the rows read afterwards as they read before: SubstTerm of the program tells what the specification's tells, in memory of its own. No conditions.
-/
import Derived.Test.YtbimfnnbfbfdoaaTeQx
import Derived.Test.YtbimfnnbfbfdoaaTeBb
import Derived.Test.YtbimfnnbfbfdoaaTeSb
import Derived.Test.YtbimfnnbfbfdoaaCeK
import Derived.Test.YtbimfnnbfbfdoaaCeO
import Derived.Lib.SmallJoins
import Derived.ChangeOld
import Derived.Below
namespace Go.Proofs.Ytbimfnnbfbfdoaa.fnExactSubstTerm
open Go.ChangeShapes Go.WideShapes Go.ChangeAt Go.RowKit
open Go.Proofs.Ytbimfnnbfbfdoaa.W Go.Joins
set_option linter.unusedVariables false

theorem own : ownKnob Try.prog.godebug = none := by kernel_rfl
theorem laidOut : laidOutB Try.prog = true := by kernel_rfl

theorem eqOwn (v1 v2 : Value) (b1 b2 : Nat) (L : List Cc) (w : World) (hl : L.length ≤ 1048576) (h1 : w.ownsRow b1 70 2 v1 L.length (cv L)) (h2 : w.ownsRow b2 70 2 v2 L.length (cv L)) :
    Calls Try.prog 25 #[v1, v2] w fun e w' => e = .returned (.bool true) ∧ Below w.heap.size w w' := by
  obtain ⟨a1, c1, rfl, -, r1⟩ := cOwn_row h1
  obtain ⟨a2, c2, rfl, -, r2⟩ := cOwn_row h2
  exact eqCellS_row a1 a2 c1 c2 L w hl r1 r2
theorem rL_len (r : Option (List Cc)) : (rL r).length ≤ 1048576 := by
  cases r with
  | none => simp [rL]
  | some cs =>
    show (gd cs).length ≤ _
    unfold gd
    split
    · rename_i h
      unfold goodT treeT at h
      split at h
      · omega
      · simp at h
    · simp

set_option maxHeartbeats 1000000 in
theorem szCellS_from (ad : Option Addr) (c n : Nat) (r : Int) (h0 : 0 ≤ r) (h1 : r ≤ 1048576) (w : World) (hl : n ≤ maxLen) :
    Calls Try.prog 23 #[.slice ad n c, .int .i64 r] w fun e w' => ∃ r' : Int, e = .returned (.int .i64 r') ∧ (r' < 0 ∨ 0 ≤ r' ∧ n ≤ 1048576) ∧ w' = w := by
  have hl2 : (n : Int) ≤ 9223372036854775807 := by unfold maxLen at hl; omega
  clear hl
  by_cases hbig : r < n
  · go_enter Try.func23, Try.ntmps23
    go_wp2_with fail
    go_ret
    exact ⟨_, rfl, .inl (by omega), rfl⟩
  · have hw : IntKind.i64.wrap (r - (n : Int)) = r - (n : Int) := by rw [IntWalk.i64_in _ ⟨by omega, by omega⟩]
    go_enter Try.func23, Try.ntmps23
    go_wp2_with fail
    go_ret
    exact ⟨_, rfl, .inr ⟨by omega, by omega⟩, rfl⟩

set_option maxHeartbeats 1000000 in
theorem markCellS_from (k0 : Nat) (hk0 : k0 ≤ 3000000) (v : Value) (base n : Nat) (xs : List Value) (w : World) (hn : n ≤ 1048576) (h : w.ownsRow base 70 2 v n xs) :
    Calls Try.prog 26 #[v, .int .i64 (k0 : Int)] w fun e w' => e = .returned (.int .i64 ((k0 + n * 2 : Nat) : Int)) ∧ w.grownBy w' v.ownBlock := by
  by_cases hz : n = 0
  · subst hz
    obtain ⟨a, c, rfl⟩ := iOwn_form h
    clear h
    go_enter Try.func26, Try.ntmps26
    go_wp2
    refine wp_loop_rounds 1 ?_
    rw [rounds_succ]
    go_wp2
    go_ret
    exact ⟨rfl, ⟨rfl, rfl, rfl, Nat.le_refl _, fun _ _ _ => rfl⟩⟩
  · obtain ⟨-, ⟨-, h1⟩ | ⟨g, cap, cur, rfl, hg, hh, h1, h2, h3, h4⟩⟩ := h
    · omega
    · clear h4
      have HH := hide hh
      clear hh
      go_enter Try.func26, Try.ntmps26
      go_wp2
      go_loopw [1, 5] (fun k i w' => ∃ (j : Nat) (cur' : Array Value), j ≤ n ∧ i = .int .i64 j ∧ k = .int .i64 ((k0 + j * 2 : Nat) : Int) ∧ w'.heap[g]? = some (.cells cur' 70 (0, 0)) ∧ cur'.size = cur.size ∧ Oth g w w') (fun _ i _ => n - (intOf i).toNat)
      case atStart => exact ⟨0, cur, by omega, rfl, rfl, HH.out, rfl, Oth.refl _ _⟩
      case round =>
        obtain ⟨j, cur', hj, rfl, rfl, hb, hs, hO⟩ := hrel
        have Hs := hide hs
        have Hb := hide hb
        clear hs hb
        by_cases hlt : j < n
        · have hlt' : (j : Int) < (n : Int) := by omega
          have hj0 : (0 : Int) ≤ (j : Int) := by omega
          have fz : ∀ i, wr.frozen? ⟨g, i, none⟩ = false := fun i => unfrozen_of_blk Hb.out i
          have cs : ∀ r, r < 2 → ∃ x, wr.cell? ⟨g, j * 2 + r, none⟩ = some x := fun r hr => by
            rw [cell_of_blk Hb.out, Array.getElem?_eq_getElem (by have := Hs.out; omega)]; exact ⟨_, rfl⟩
          obtain ⟨y0, hy0⟩ := cs 0 (by omega)
          obtain ⟨y1, hy1⟩ := cs 1 (by omega)
          rw [Nat.add_zero] at hy0
          clear cs
          obtain ⟨m, hm⟩ : ∃ m, m = k0 + j * 2 := ⟨_, rfl⟩
          rw [← hm]
          have hm1 : m ≤ 6000000 := by omega
          have Hm := hide hm
          clear hm
          go_wp2_with fail
          have em := Hm.out
          exact ⟨⟨j + 1, _, by omega, by go_num, by rw [show k0 + (j + 1) * 2 = m + 2 by omega]; go_num, blk_setCell (blk_setCell Hb.out _) _, by have := Hs.out; simp; omega, (hO.setCell _ _).setCell _ _⟩, by simp [intOf]; omega⟩
        · obtain rfl : j = n := by omega
          go_wp2
          go_ret
          exact ⟨rfl, ⟨hO.os, hO.tape, hO.output, hO.size, fun k hk hne => hO.block k hk (fun e => hne (by subst e; rfl))⟩⟩

set_option maxHeartbeats 4000000 in
theorem walk (HPG : ∀ k, L3PGoal k) (ad sad : Option Addr) (c sc : Nat) (l ls : List Cc) (K : Int) (w : World) (hl : l.length ≤ maxLen) (h : CRow w ad l) (hls : ls.length ≤ maxLen) (hs : CRow w sad ls) :
    Calls Try.prog 5 #[.slice ad l.length c, .int .i64 K, .slice sad ls.length sc] w fun e w' => e = .returned (.bool true) ∧ Below w.heap.size w w' := by
  have HR := hide h
  have HT := hide hs
  clear h hs
  go_enter Try.func5, Try.ntmps5
  go_wp2_with fail
  refine (szCellS_any _ _ _ _ hl).mono ?_
  rintro e w1 ⟨r, rfl, hr, hw⟩
  obtain rfl := hw.symm
  clear hl
  by_cases hneg : r < 0
  · clear hr
    go_wp2_with fail
    go_ret
    exact ⟨rfl, Below.refl _ _⟩
  · have hl : l.length ≤ 1048576 := by
      rcases hr with h | h
      · exact absurd h hneg
      · exact h.2.2
    have hr1 : r ≤ 1048576 := by
      rcases hr with h | h
      · exact absurd h hneg
      · have := h.2.1; omega
    clear hr
    go_wp2_with fail
    refine (szCellS_from _ _ _ r (by omega) hr1 _ hls).mono ?_
    rintro e w1 ⟨r2, rfl, hr, hw⟩
    obtain rfl := hw.symm
    clear hls
    by_cases hneg2 : r2 < 0
    · clear hr
      go_wp2_with fail
      go_ret
      exact ⟨rfl, Below.refl _ _⟩
    · have hls : ls.length ≤ 1048576 := by
        rcases hr with h | h
        · exact absurd h hneg2
        · exact h.2
      clear hr
      have hfl := rL_len (sbR l K ls)
      have HS := hide (fun (ad sad : Option Addr) (c sc : Nat) (w : World) (h : CRow w ad l) (hs : CRow w sad ls) => specSubst_any HPG ad sad c sc l ls K w hl h hls hs)
      have HP := hide (fun (ad sad : Option Addr) (c sc : Nat) (w : World) (hc : l.length ≤ c) (h : CRow w ad l) (hsc : ls.length ≤ sc) (hs : CRow w sad ls) => implSubst_any ad sad c sc l ls K w hl hc h hls hsc hs)
      obtain ⟨FL, hFL⟩ : ∃ FL, FL = rL (sbR l K ls) := ⟨_, rfl⟩
      obtain ⟨OK, hOK⟩ : ∃ OK, OK = rB (sbR l K ls) := ⟨_, rfl⟩
      unfold RS at HS HP
      rw [← hFL, ← hOK] at HS HP
      rw [← hFL] at hfl
      clear hFL hOK
      go_wp2_with fail
      refine (toCellS_any _ _ _ _ hl HR.out).mono ?_
      rintro e w2 ⟨rfl, hr2, hB2⟩
      go_wp2_with fail
      refine (toCellS_any _ _ _ _ hls (HT.out.below hB2)).mono ?_
      rintro e w3 ⟨rfl, hr3, hb3⟩
      have hB3 : Below w.heap.size w w3 := hB2.trans (hb3.mono hB2.size)
      have HX3 := hide (hr2.below hb3).row
      have HY3 := hide hr3.row
      clear hr2 hr3 hb3 hB2
      go_wp2_with fail
      refine (HS.out _ _ _ _ _ HX3.out HY3.out).mono ?_
      rintro e w4 ⟨s1, rfl, hs1, hb4⟩
      have hB4 : Below w.heap.size w w4 := hB3.trans (hb4.mono hB3.size)
      have HS4 := hide hs1
      have hs1x : ∀ k, s1.ownBlock = some k → k < w4.heap.size := fun k hk => (HS4.out.lt k hk).2
      obtain ⟨sa, sc', rfl⟩ := iOwn_form hs1
      clear hb4 hs1 HX3 HY3 hB3 HS
      go_wp2_with fail
      refine (toCellS_any _ _ _ _ hl (HR.out.below hB4)).mono ?_
      rintro e w5 ⟨rfl, hr5, hb5⟩
      have hB5 : Below w.heap.size w w5 := hB4.trans (hb5.mono hB4.size)
      have HS5 := hide (tOwn_keep HS4.out (fun k _ hk => hb5.block k hk))
      have hsz5 : w4.heap.size < w5.heap.size := by obtain ⟨cur, hh, -⟩ := hr5; exact (Array.getElem?_eq_some_iff.1 hh).1
      have hwx := hB4.size
      have HX5 := hide hr5
      clear hb5 hr5 HS4 hB4
      go_wp2_with fail
      refine (toCellS_any _ _ _ _ hls (HT.out.below hB5)).mono ?_
      rintro e w6 ⟨rfl, hr6, hb6⟩
      have hB6 : Below w.heap.size w w6 := hB5.trans (hb6.mono hB5.size)
      have HS6 := hide (tOwn_keep HS5.out (fun k _ hk => hb6.block k hk))
      have hsz6 : w5.heap.size < w6.heap.size := by obtain ⟨cur, hh, -⟩ := hr6; exact (Array.getElem?_eq_some_iff.1 hh).1
      have HX6 := hide (HX5.out.below hb6)
      have HY6 := hide hr6
      clear hb6 hr6 HS5 HX5 hB5
      go_wp2_with fail
      refine (HP.out _ _ _ _ _ (Nat.le_refl _) HX6.out.row (Nat.le_refl _) HY6.out.row).mono ?_
      rintro e w7 ⟨g0, rfl, ho7, hb7⟩
      have HO7 := hide ho7
      have hg0 : ∀ k, g0.ownBlock = some k → w6.heap.size ≤ k := fun k hk => (HO7.out.lt k hk).1
      have HS7 := hide (tOwn_keep HS6.out (fun k _ hk => hb7.block k hk))
      have HX7 := hide (HX6.out.below hb7)
      have HY7 := hide (HY6.out.below hb7)
      have hB7 : Below w.heap.size w w7 := hB6.trans (hb7.mono hB6.size)
      obtain ⟨ga, gc, rfl⟩ := iOwn_form ho7
      clear ho7 hb7 HS6 HX6 HY6 hB6
      go_wp2_with fail
      refine (eqOwn _ _ _ _ FL _ hfl HO7.out HS7.out).mono ?_
      rintro e w8 ⟨rfl, hb8⟩
      have HO8 := hide (tOwn_keep HO7.out (fun k _ hk => hb8.block k hk))
      have HS8 := hide (tOwn_keep HS7.out (fun k _ hk => hb8.block k hk))
      have HX8 := hide (HX7.out.below hb8)
      have HY8 := hide (HY7.out.below hb8)
      have hB8 : Below w.heap.size w w8 := hB7.trans (hb8.mono hB7.size)
      clear hb8 HO7 HS7 HX7 HY7 hB7
      go_wp2_with fail
      refine (toCellS_any _ _ _ _ hl (HR.out.below hB8)).mono ?_
      rintro e w9 ⟨rfl, hr9, hb9⟩
      have HO9 := hide (tOwn_keep HO8.out (fun k _ hk => hb9.block k hk))
      have HS9 := hide (tOwn_keep HS8.out (fun k _ hk => hb9.block k hk))
      have HX9 := hide (HX8.out.below hb9)
      have HY9 := hide (HY8.out.below hb9)
      have hB9 : Below w.heap.size w w9 := hB8.trans (hb9.mono hB8.size)
      clear hb9 HO8 HS8 HX8 HY8 hB8
      go_wp2_with fail
      refine (eqCellS_row _ _ _ _ _ _ hl HX9.out.row hr9.row).mono ?_
      rintro e w10 ⟨rfl, hb10⟩
      have HO10 := hide (tOwn_keep HO9.out (fun k _ hk => hb10.block k hk))
      have HS10 := hide (tOwn_keep HS9.out (fun k _ hk => hb10.block k hk))
      have HX10 := hide (HX9.out.below hb10)
      have HY10 := hide (HY9.out.below hb10)
      have hB10 : Below w.heap.size w w10 := hB9.trans (hb10.mono hB9.size)
      clear hr9
      clear hb10 HO9 HS9 HX9 HY9 hB9
      go_wp2_with fail
      refine (toCellS_any _ _ _ _ hls (HT.out.below hB10)).mono ?_
      rintro e w11 ⟨rfl, hr11, hb11⟩
      have HO11 := hide (tOwn_keep HO10.out (fun k _ hk => hb11.block k hk))
      have HS11 := hide (tOwn_keep HS10.out (fun k _ hk => hb11.block k hk))
      have HX11 := hide (HX10.out.below hb11)
      have HY11 := hide (HY10.out.below hb11)
      have hB11 : Below w.heap.size w w11 := hB10.trans (hb11.mono hB10.size)
      clear hb11 HO10 HS10 HX10 HY10 hB10
      go_wp2_with fail
      refine (eqCellS_row _ _ _ _ _ _ hls HY11.out.row hr11.row).mono ?_
      rintro e w12 ⟨rfl, hb12⟩
      have HO12 := hide (tOwn_keep HO11.out (fun k _ hk => hb12.block k hk))
      have HS12 := hide (tOwn_keep HS11.out (fun k _ hk => hb12.block k hk))
      have HX12 := hide (HX11.out.below hb12)
      have HY12 := hide (HY11.out.below hb12)
      have hB12 : Below w.heap.size w w12 := hB11.trans (hb12.mono hB11.size)
      clear hr11
      clear hb12 HO11 HS11 HX11 HY11 hB11
      obtain ⟨xs, hx12⟩ := HX12.out.own (base := w4.heap.size) (Nat.le_refl _) hl
      obtain ⟨ys, hy12⟩ := HY12.out.own (base := w5.heap.size) (Nat.le_refl _) hls
      have HX12' := hide hx12
      have HY12' := hide hy12
      clear hx12 hy12 HX12 HY12
      go_wp2_with fail
      refine (markCellS_any _ _ _ _ _ hl HX12'.out).mono ?_
      rintro e w13 ⟨rfl, -, hg13⟩
      have HO13 := hide (iOwn_grown HO12.out hg13 (fun k hk e => by have h1 := hg0 k hk; simp only [Value.ownBlock, Option.some.injEq] at e; omega))
      have HS13 := hide (iOwn_grown HS12.out hg13 (fun k hk e => by have h1 := hs1x k hk; simp only [Value.ownBlock, Option.some.injEq] at e; omega))
      have HY13 := hide (iOwn_grown HY12'.out hg13 (fun k hk e => by simp only [Value.ownBlock, Option.some.injEq] at e hk; omega))
      have hB13 : Below w.heap.size w w13 := hB12.grown hg13 hB12.size (fun k hk => by simp only [Value.ownBlock, Option.some.injEq] at hk; omega)
      clear hg13 HO12 HS12 hB12 HX12' HY12'
      obtain ⟨K9, hK9⟩ : ∃ K9, K9 = 1 + l.length * 2 := ⟨_, rfl⟩
      have hk9 : K9 ≤ 3000000 := by omega
      rw [← hK9]
      clear hK9
      go_wp2_with fail
      refine (markCellS_from K9 hk9 _ _ _ _ _ hls HY13.out).mono ?_
      rintro e w14 ⟨rfl, hg14⟩
      have HO14 := hide (iOwn_grown HO13.out hg14 (fun k hk e => by have h1 := hg0 k hk; simp only [Value.ownBlock, Option.some.injEq] at e; omega))
      have HS14 := hide (iOwn_grown HS13.out hg14 (fun k hk e => by have h1 := hs1x k hk; simp only [Value.ownBlock, Option.some.injEq] at e; omega))
      have hB14 : Below w.heap.size w w14 := hB13.grown hg14 hB13.size (fun k hk => by simp only [Value.ownBlock, Option.some.injEq] at hk; omega)
      clear hg14 HO13 HS13 hB13 HY13
      obtain ⟨K10, hK10⟩ : ∃ K10, K10 = K9 + ls.length * 2 := ⟨_, rfl⟩
      rw [← hK10]
      have hk10 : ¬ (K10 : Int) < 0 := by omega
      clear hK10
      go_wp2_with fail
      refine (eqOwn _ _ _ _ FL _ hfl HO14.out HS14.out).mono ?_
      rintro e w15 ⟨rfl, hb15⟩
      have HO15 := hide (tOwn_keep HO14.out (fun k _ hk => hb15.block k hk))
      have HS15 := hide (tOwn_keep HS14.out (fun k _ hk => hb15.block k hk))
      have hB15 : Below w.heap.size w w15 := hB14.trans (hb15.mono hB14.size)
      clear hb15 HO14 HS14 hB14
      go_wp2_with fail
      refine (markCellS_any _ _ _ _ _ hfl HO15.out).mono ?_
      rintro e w16 ⟨rfl, hm16, hg16⟩
      have HS16 := hide (iOwn_grown HS15.out hg16 (fun k hk e => by have h1 := hs1x k hk; have h2 := hg0 k e; omega))
      have hB16 : Below w.heap.size w w16 := hB15.grown hg16 hB15.size (fun k hk => by have h2 := hg0 k hk; omega)
      have HM16 := hide hm16
      clear hm16 hg16 HO15 HS15 hB15
      obtain ⟨M, hM⟩ : ∃ M, M = 1 + FL.length * 2 := ⟨_, rfl⟩
      have HH := hide (fun (w : World) (h : IMk w (.slice ga FL.length gc) 70 2 1 FL.length) => heldCellS_any _ FL.length w hfl h)
      rw [← hM] at HH ⊢
      clear hM
      go_wp2_with fail
      refine (HH.out _ HM16.out).mono ?_
      rintro e w17 ⟨rfl, hb17⟩
      have HS17 := hide (tOwn_keep HS16.out (fun k _ hk => hb17.block k hk))
      have HM17 := hide (HM16.out.below hb17)
      have hB17 : Below w.heap.size w w17 := hB16.trans (hb17.mono hB16.size)
      clear hb17 HS16 HM16 hB16
      go_wp2_with fail
      refine (toCellS_any _ _ _ _ hl (HR.out.below hB17)).mono ?_
      rintro e w18 ⟨rfl, hr18, hb18⟩
      have HS18 := hide (tOwn_keep HS17.out (fun k _ hk => hb18.block k hk))
      have HM18 := hide (HM17.out.below hb18)
      have hB18 : Below w.heap.size w w18 := hB17.trans (hb18.mono hB17.size)
      clear hb18 HS17 HM17 hB17
      go_wp2_with fail
      refine (toCellS_any _ _ _ _ hls (HT.out.below hB18)).mono ?_
      rintro e w19 ⟨rfl, hq19, hb19⟩
      have HS19 := hide (tOwn_keep HS18.out (fun k _ hk => hb19.block k hk))
      have HM19 := hide (HM18.out.below hb19)
      have hB19 : Below w.heap.size w w19 := hB18.trans (hb19.mono hB18.size)
      have hr19 := hr18.below hb19
      clear hb19 HS18 HM18 hB18
      go_wp2_with fail
      refine (HP.out _ _ _ _ _ (Nat.le_refl _) hr19.row (Nat.le_refl _) hq19.row).mono ?_
      rintro e w20 ⟨h0, rfl, ho20, hb20⟩
      have HS20 := hide (tOwn_keep HS19.out (fun k _ hk => hb20.block k hk))
      have HM20 := hide (HM19.out.below hb20)
      have hB20 : Below w.heap.size w w20 := hB19.trans (hb20.mono hB19.size)
      have HO20 := hide ho20
      obtain ⟨ha, hc', rfl⟩ := iOwn_form ho20
      clear hr18 hr19 hq19 ho20
      clear hb20 HS19 HM19 hB19
      go_wp2_with fail
      refine (eqOwn _ _ _ _ FL _ hfl HO20.out HS20.out).mono ?_
      rintro e w21 ⟨rfl, hb21⟩
      have HS21 := hide (tOwn_keep HS20.out (fun k _ hk => hb21.block k hk))
      have HM21 := hide (HM20.out.below hb21)
      have hB21 : Below w.heap.size w w21 := hB20.trans (hb21.mono hB20.size)
      clear HO20
      clear hb21 HS20 HM20 hB20
      go_wp2_with fail
      refine (HH.out _ HM21.out).mono ?_
      rintro e w22 ⟨rfl, hb22⟩
      have hB22 : Below w.heap.size w w22 := hB21.trans (hb22.mono hB21.size)
      clear hb22
      go_wp2_with fail
      go_ret
      exact ⟨rfl, hB22⟩

set_option maxRecDepth 100000 in
theorem lifted (os : Os) (started : os.Started) (H : Type) (enc : TypeId × Value → H) :
    ReturnsInHanded {} Try.checked os 5 .any (Rows.fnExactSubstTermSpec.pre6 enc Try.prog Try.f5 Rows.fnExactSubstTermRow.domain false) (Rows.fnExactSubstTermSpec.post enc Try.prog Try.f5 false true false false) := by
  refine returnsInHanded_of_change (C := Try.checked) own started (by kernel_rfl) Try.func5
    (ChangeSpec.witness6 (enc := enc) (C := Try.checked) false ⟨#[], #[.slice none 0 0, .int .i64 0, .slice none 0 0], []⟩ 8 (by kernel_rfl) (by kernel_rfl) (by kernel_rfl) (by kernel_rfl)) ?_
  intro W base args ds gs before hval0 hW hcnd _
  have hval : ∀ (j : Nat) t v, Try.f5.params[j]? = some t → args[j]? = some v → Value.okWide Try.prog W .any base t v := hval0
  have hW' := hW
  obtain ⟨p, q, hA0, hV, rfl, hfz, hnd⟩ := hW
  have hA : DataW.TrodAll enc Try.prog W 0 (fun _ => true) true Try.f5.params.toList args.toList ds p := hA0
  rw [Try.params5] at hA hval
  obtain ⟨v0, vs0, d0, ds0, p0, q0, hargs, rfl, rfl, h0, r0⟩ := trodAll_cons hA
  obtain ⟨v1, vs1, d1, ds1, p1, q1, rfl, rfl, rfl, h1, r1⟩ := trodAll_cons r0
  obtain ⟨v2, vs2, d2, ds2, p2, q2, rfl, rfl, rfl, h2, r2⟩ := trodAll_cons r1
  obtain ⟨rfl, rfl, rfl⟩ := trodAll_nil r2
  obtain rfl : args = #[v0, v1, v2] := by cases args; simp_all
  obtain ⟨rfl, rfl⟩ := trodVars_none hV
  have k0 := h0
  have k1' := h1
  have k2' := h2
  have lt0 : ∀ x ∈ p0, x.block < W.heap.size := by obtain ⟨m, hm⟩ := k0; exact DataW.trod_lt m _ _ _ hm
  have lt1 : ∀ x ∈ p1, x.block < W.heap.size := by obtain ⟨m, hm⟩ := k1'; exact DataW.trod_lt m _ _ _ hm
  have lt2 : ∀ x ∈ p2, x.block < W.heap.size := by obtain ⟨m, hm⟩ := k2'; exact DataW.trod_lt m _ _ _ hm
  obtain ⟨n1, rfl, -, -, -⟩ := open_int Try.underlying3 (hval 1 3 v1 rfl rfl) h1
  obtain ⟨ad2, len2, cap2, rfl⟩ := okWide_slice Try.underlying45 (hval 2 45 v2 rfl rfl)
  obtain ⟨fuel2, hf2⟩ := h2
  obtain ⟨ls, rfl, hls, hRS⟩ := open_cells hf2
  obtain ⟨ad, len, cap, rfl⟩ := okWide_slice Try.underlying45 (hval 0 45 v0 rfl rfl)
  obtain ⟨fuel, hf⟩ := h0
  obtain ⟨l, rfl, hl, hR⟩ := open_cells hf
  clear hA0 hval0
  refine (walk l3Subst_any ad ad2 cap cap2 l ls n1 W hl hR hls hRS).mono fun e W' ⟨he, bel⟩ => ?_
  subst he
  exact ⟨_, rfl, _, _, _, [], _, [], hW', trodAll_mk1 (shut_bool Try.underlying4 _), (trodAll_cons_mk (Below.trod laidOut (by kernel_rfl) (of_decide_eq_true (by kernel_rfl)) k0 bel lt0) (trodAll_cons_mk (Below.trod laidOut (by kernel_rfl) (of_decide_eq_true (by kernel_rfl)) k1' bel lt1) (trodAll_cons_mk (Below.trod laidOut (by kernel_rfl) (of_decide_eq_true (by kernel_rfl)) k2' bel lt2) trodAll_mk0))), rfl, bel.frame _, fun h => by cases h⟩

theorem over : Rows.fnExactSubstTermRow.holds Try.pinned (OpenSpec.ofChange Rows.fnExactSubstTermSpec) :=
  OpenClaim.holds_of_wide 5 Try.f5 rfl rfl rfl rfl rfl rfl rfl ⟨rfl, rfl, rfl, rfl, rfl⟩ rfl rfl rfl rfl rfl (by kernel_rfl) Try.func5 (by kernel_rfl)
    (of_decide_eq_true (by kernel_rfl)) (by unfold Func.isWrapper; first | (rw [if_pos (by decide +kernel)]; kernel_rfl) | (rw [if_neg (by decide +kernel)]; exact ⟨rfl, rfl⟩))
    (fun os started H enc _ => lifted os started H enc)
end Go.Proofs.Ytbimfnnbfbfdoaa.fnExactSubstTerm

namespace Go.Proofs.Ytbimfnnbfbfdoaa
theorem fnExactSubstTerm_holds : Rows.FnExactSubstTermSaid := fnExactSubstTerm.over
#print axioms fnExactSubstTerm_holds
end Go.Proofs.Ytbimfnnbfbfdoaa

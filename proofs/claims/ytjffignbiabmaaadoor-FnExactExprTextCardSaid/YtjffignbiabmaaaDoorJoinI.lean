/-
  The contract of the program's JoinTokens. Conditions: texts of at most 1048576 bytes; Go's table of powers of ten reads as its text lays it.
-/
import Derived.Test.YtjffignbiabmaaaDoorJoin
import Derived.Test.YtjffignbiabmaaaDoorShelf
import Derived.Test.YtjffignbiabmaaaDoorBld
namespace Go.Proofs.YtjffignbiabmaaaDoor.W.T
open Go.ChangeShapes Go.WideShapes Go.ChangeAt Go.RowKit

theorem builder_below {T e : TypeId} {B b : Nat} {bs : List Value} {w w' : World} (h : Lib.IsBuilder T e B b bs w) (hb : Below w.heap.size w w') : Lib.IsBuilder T e B b bs w' := by
  have key : ∀ p, Lib.BuilderAt T e B b p bs w → Lib.BuilderAt T e B b p bs w' := by
    intro p h
    have hlt := h.lt
    obtain ⟨hB, v, hbk, hown, hne⟩ := h
    refine ⟨hB, v, (hb.block b hlt).trans hbk, ?_, hne⟩
    refine hown.kept (row := none) ⟨hb.os, hb.tape, hb.output, hb.size, fun k hk _ => hb.block k hk⟩ ?_
    cases hv : v.ownBlock with
    | none => exact .inl rfl
    | some k => exact .inr (by simp)
  rcases h with h | h
  · exact .inl (key _ h)
  · exact .inr (key _ h)

def bcs (s : ByteArray) : List Value := Lib.byteCells s.data.toList
theorem bcs_append (a b : ByteArray) : bcs (a ++ b) = bcs a ++ Lib.strCells b := by
  unfold bcs; rw [Lib.strCells_eq, ← Lib.byteCells_append]; congr 1
theorem bcs_blank (a : ByteArray) : bcs (a ++ ⟨#[32]⟩) = bcs a ++ [.int .u8 32] := bcs_append a ⟨#[32]⟩
theorem bcs_length (a : ByteArray) : (bcs a).length = a.size := by unfold bcs; rw [Lib.byteCells_length]; rfl

set_option maxRecDepth 20000 in
set_option maxHeartbeats 4000000 in
theorem implJoin_any (ad : Option Addr) (c : Nat) (l : List Tk) (w : World) (hl : l.length ≤ 1048576) (hs : ∀ x ∈ l, x.t.size ≤ 1048576) (h : Row w ad l) (ht : Tab w) :
    Calls Tryd.prog 58 #[.slice ad l.length c] w fun e w' => e = .returned (.tuple #[.string (joinS l), .bool (joinOk l)]) ∧ Below w.heap.size w w' := by
  have HR := hide h
  have HS := hide hs
  have HT := hide ht
  clear h hs ht
  by_cases hn : l.length ≤ 120
  · have hn' : ¬ (120 : Int) < (l.length : Int) := by omega
    have HBd := hide (Lib.fresh_isBuilder 114 5 w)
    go_enter Tryd.func58, Tryd.ntmps58
    go_wp2_with fail
    go_loopw [14] (fun i w' => ∃ j : Nat, j ≤ l.length ∧ i = .int .i64 j ∧ (joinTo l j).size ≤ 10 * j ∧ (∀ i (h : i < l.length), i < j → goodT l[i] = true) ∧ Hid (Lib.IsBuilder 114 5 w.heap.size w.heap.size (bcs (joinTo l j)) w') ∧ Below w.heap.size w w') (fun i _ => l.length - (intOf i).toNat)
    case atStart => exact ⟨0, by omega, rfl, Nat.le_refl 0, by intros; omega, HBd, (Below.refl _ _).alloc (Nat.le_refl _) _⟩
    case round =>
      clear HBd
      obtain ⟨j, hj, rfl, hz, hall, HBd, hB⟩ := hrel
      have HA := hide hall
      clear hall
      by_cases hlt : j < l.length
      · have hlt' : (j : Int) < (l.length : Int) := by omega
        have hj0 : (0 : Int) ≤ (j : Int) := by omega
        obtain ⟨b, o, rfl, hb, p0, p1, p2, p3⟩ := HR.out.tok hB hlt
        have hsz := HS.out _ (List.getElem_mem hlt)
        obtain ⟨x, hx⟩ : ∃ x, x = l[j] := ⟨_, rfl⟩
        rw [← hx] at p0 p1 p2 p3 hsz
        have HX := hide hx
        clear hx
        go_wp2_with fail
        refine (implText_any _ _ _ _ _ hsz (HT.out.below (hB.alloc hB.size _))).mono ?_
        rintro e w1 ⟨rfl, hb1⟩
        obtain ⟨c0, c1, c2, c3, hz1, hB1'⟩ := box_kept hb1
        have hB1 : Below w.heap.size w w1 := hB.trans (hB1'.mono hB.size)
        have HB1 := hide (builder_below HBd.out hB1')
        clear hb1 p0 p1 p2 p3 hB1' HBd
        by_cases hg : goodB x.k x.n x.t x.a = true
        · have hts := txt_size hg
          have HTT : ttOf x.k x.n x.a x.t = txtOf x.k x.n x.t := if_pos hg
          rw [HTT]
          clear HTT
          have hlen : (joinTo l j).size ≤ 1200 := by omega
          have HA2 : Hid (∀ i (h : i < l.length), i < j + 1 → goodT l[i] = true) := fun i hi hij => by
            by_cases e : i = j
            · subst e; rw [← HX.out]; exact hg
            · exact HA.out i hi (by omega)
          by_cases hjz : j = 0
          · subst hjz
            have HJ : Hid (joinTo l (0 + 1) = joinTo l 0 ++ txtOf x.k x.n x.t) := by
              have := join_no hlt (rfl : gapB l 0 = false); rw [← HX.out] at this; exact this
            go_wp2_with fail
            go_quiet (fail)
            go_wp2_with fail
            refine (Tryd.bWriteString _ _ _ _ _ (builder_below HB1.out (below_drewN (Below.refl _ _) _)) (by rw [bcs_length]; omega) (below_drewN hB1 _).size).mono ?_
            rintro e w3 ⟨rfl, hbd3, hb3⟩
            have hB3 : Below w.heap.size w w3 := (below_drewN hB1 _).trans hb3
            have HB3 : Hid (Lib.IsBuilder 114 5 w.heap.size w.heap.size (bcs (joinTo l (0 + 1))) w3) := by
              rw [HJ.out, bcs_append]; exact .inr hbd3
            clear hbd3 hb3
            go_wp2_with fail
            exact ⟨⟨1, by omega, rfl, by rw [HJ.out, ByteArray.size_append]; omega, HA2.out, HB3, hB3⟩, by simp [intOf]; omega⟩
          · obtain ⟨i, rfl⟩ : ∃ i, j = i + 1 := ⟨j - 1, by omega⟩
            clear hjz
            obtain ⟨b', o', hbo, -, q0, q1, q2, q3⟩ := HR.out.tok hB1 (i := i) (by omega)
            simp only [Option.some.injEq, Addr.mk.injEq, and_true] at hbo
            obtain ⟨rfl, rfl⟩ := hbo
            have hsy := HS.out _ (List.getElem_mem (show i < l.length by omega))
            obtain ⟨y, hy⟩ : ∃ y, y = l[i] := ⟨_, rfl⟩
            have hgy : goodB y.k y.n y.t y.a = true := by rw [hy]; exact HA.out i (by omega) (by omega)
            have HGp : Hid (gapB l (i + 1) = needB y.k y.n y.t x.k x.n x.t) := by
              have := gap_succ hlt; rw [← HX.out, ← hy] at this; exact this
            rw [← hy] at q0 q1 q2 q3 hsy
            clear hy
            have C0 := cell_regrown c0
            have C1 := cell_regrown c1
            have C2 := cell_regrown c2
            have C3 := cell_regrown c3
            have Q0 := cell_regrown q0
            have Q1 := cell_regrown q1
            have Q2 := cell_regrown q2
            have Q3 := cell_regrown q3
            clear c0 c1 c2 c3 q0 q1 q2 q3
            have cN : Hid (∀ d os, Calls Tryd.prog 98 #[.agg #[.int .i64 y.k, .int .i64 y.n, .string y.t, .int .i64 y.a], .agg #[.int .i64 x.k, .int .i64 x.n, .string x.t, .int .i64 x.a]] (Go.Sort.grow (redrawn w1 d) os) fun e w'' => e = .returned (.bool (gapB l (i + 1))) ∧ ∃ p : Regrown, w'' = Go.Sort.grow (redrawn w1 p.d) p.os) := fun d os => Calls.regrown_of (by rw [HGp.out]; exact runTogether_any y.k y.n y.a x.k x.n x.a y.t x.t _ hsy hsz hgy hg (HT.out.below (hB1.trans ((below_regrown w1 d os).mono hB1.size))))
            by_cases hn : gapB l (i + 1) = true
            · have HJ : Hid (joinTo l (i + 1 + 1) = joinTo l (i + 1) ++ ⟨#[32]⟩ ++ txtOf x.k x.n x.t) := by
                have := join_gap hlt hn; rw [← HX.out] at this; exact this
              rw [hn] at cN
              clear hn HGp
              go_wp2_with fail
              refine wp_region_quiet_below (by kernel_rfl) (by kernel_rfl) ?_
              repeat (go_big_quiet_step ((go_at_call 98; exact cN.out _ _)))
              refine wpQuiet_nil ?_
              intro _ hw'
              obtain ⟨⟨dq, osq⟩, hw''⟩ := hw'
              have hb2 := below_regrown w1 dq osq
              rw [← hw''] at hb2
              clear hw''
              rename_i w2
              have hB2 : Below w.heap.size w w2 := hB1.trans (hb2.mono hB1.size)
              have HB2 := hide (builder_below HB1.out hb2)
              clear hb2 HB1 cN C0 C1 C2 C3 Q0 Q1 Q2 Q3
              go_wp2_with fail
              refine (Tryd.bWriteByte _ _ _ _ _ HB2.out (by rw [bcs_length]; omega) hB2.size).mono ?_
              rintro e w3 ⟨rfl, hbd3, hb3⟩
              have hB3 : Below w.heap.size w w3 := hB2.trans hb3
              clear hb3
              go_wp2_with fail
              refine (Tryd.bWriteString _ _ _ _ _ (.inr hbd3) (by rw [List.length_append, bcs_length]; simp; omega) hB3.size).mono ?_
              rintro e w4 ⟨rfl, hbd4, hb4⟩
              have hB4 : Below w.heap.size w w4 := hB3.trans hb4
              have HB4 : Hid (Lib.IsBuilder 114 5 w.heap.size w.heap.size (bcs (joinTo l (i + 1 + 1))) w4) := by
                rw [HJ.out, bcs_append, bcs_blank]; exact .inr hbd4
              clear hbd4 hb4 hbd3
              go_wp2_with fail
              refine ⟨⟨i + 1 + 1, by omega, by go_num, ?_, HA2.out, HB4, hB4⟩, by simp [intOf]; omega⟩
              rw [HJ.out, ByteArray.size_append, ByteArray.size_append, show (⟨#[32]⟩ : ByteArray).size = 1 from rfl]; omega
            · rw [Bool.not_eq_true] at hn
              have HJ : Hid (joinTo l (i + 1 + 1) = joinTo l (i + 1) ++ txtOf x.k x.n x.t) := by
                have := join_no hlt hn; rw [← HX.out] at this; exact this
              rw [hn] at cN
              clear hn HGp
              go_wp2_with fail
              refine wp_region_quiet_below (by kernel_rfl) (by kernel_rfl) ?_
              repeat (go_big_quiet_step ((go_at_call 98; exact cN.out _ _)))
              refine wpQuiet_nil ?_
              intro _ hw'
              obtain ⟨⟨dq, osq⟩, hw''⟩ := hw'
              have hb2 := below_regrown w1 dq osq
              rw [← hw''] at hb2
              clear hw''
              rename_i w2
              have hB2 : Below w.heap.size w w2 := hB1.trans (hb2.mono hB1.size)
              have HB2 := hide (builder_below HB1.out hb2)
              clear hb2 HB1 cN C0 C1 C2 C3 Q0 Q1 Q2 Q3
              go_wp2_with fail
              refine (Tryd.bWriteString _ _ _ _ _ HB2.out (by rw [bcs_length]; omega) hB2.size).mono ?_
              rintro e w4 ⟨rfl, hbd4, hb4⟩
              have hB4 : Below w.heap.size w w4 := hB2.trans hb4
              have HB4 : Hid (Lib.IsBuilder 114 5 w.heap.size w.heap.size (bcs (joinTo l (i + 1 + 1))) w4) := by
                rw [HJ.out, bcs_append]; exact .inr hbd4
              clear hbd4 hb4
              go_wp2_with fail
              refine ⟨⟨i + 1 + 1, by omega, by go_num, ?_, HA2.out, HB4, hB4⟩, by simp [intOf]; omega⟩
              rw [HJ.out, ByteArray.size_append]; omega
        · rw [Bool.not_eq_true] at hg
          have HN : Hid (joinOk l = false) := join_bad hlt (by rw [← HX.out]; exact hg)
          have HN2 : Hid (joinS l = ⟨#[]⟩) := joinS_no HN.out
          go_wp2_with fail
          go_ret2
          exact ⟨by rw [HN.out, HN2.out]; rfl, hB1⟩
      · obtain rfl : j = l.length := by omega
        have hgood : l.all goodT = true := by
          rw [List.all_eq_true]
          intro x hx
          obtain ⟨i, hi, rfl⟩ := List.getElem_of_mem hx
          exact HA.out i hi hi
        by_cases h3 : (joinTo l l.length).size ≤ 300
        · have h3' : ¬ (300 : Int) < ((joinTo l l.length).size : Int) := by omega
          have HO : Hid (joinOk l = true) := (show joinOk l = true by unfold joinOk; rw [hgood, decide_eq_true hn, decide_eq_true h3]; rfl)
          have HO2 : Hid (joinS l = joinTo l l.length) := joinS_yes HO.out
          clear h3 hn hgood
          go_wp2_with fail
          refine (Tryd.Builder_Len _ _ _ _ HBd.out).mono ?_
          rintro e w1 ⟨rfl, rfl⟩
          rw [bcs_length]
          go_wp2_with fail
          refine (Tryd.Builder_String_any _ _ _ _ HBd.out hB.size).mono ?_
          rintro e w2 ⟨rfl, hb2⟩
          go_wp2_with fail
          go_ret2
          exact ⟨by rw [HO.out, HO2.out]; rfl, hB.trans hb2⟩
        · have h3' : (300 : Int) < ((joinTo l l.length).size : Int) := by omega
          have HO : Hid (joinOk l = false) := (show joinOk l = false by unfold joinOk; rw [hgood, decide_eq_true hn, decide_eq_false h3]; rfl)
          have HO2 : Hid (joinS l = ⟨#[]⟩) := joinS_no HO.out
          clear h3 hn hgood
          go_wp2_with fail
          refine (Tryd.Builder_Len _ _ _ _ HBd.out).mono ?_
          rintro e w1 ⟨rfl, rfl⟩
          rw [bcs_length]
          go_wp2_with fail
          go_ret2
          exact ⟨by rw [HO.out, HO2.out]; rfl, hB⟩
  · have hn' : (120 : Int) < (l.length : Int) := by omega
    have HO : Hid (joinOk l = false) := (show joinOk l = false by unfold joinOk; rw [decide_eq_false hn]; simp)
    have HO2 : Hid (joinS l = ⟨#[]⟩) := joinS_no HO.out
    clear hn
    go_enter Tryd.func58, Tryd.ntmps58
    go_wp2_with fail
    go_ret2
    exact ⟨by rw [HO.out, HO2.out]; rfl, Below.refl _ _⟩
end Go.Proofs.YtjffignbiabmaaaDoor.W.T

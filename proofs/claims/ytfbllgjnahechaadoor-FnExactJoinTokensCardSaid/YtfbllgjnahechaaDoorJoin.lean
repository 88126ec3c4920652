/-
  The contract of the specification's JoinTokens. Conditions: at most 1048576 tokens, texts of at most 1048576 bytes.
-/
import Derived.Test.YtfbllgjnahechaaDoorTokR
import Derived.Test.YtfbllgjnahechaaDoorNeed2
namespace Go.Proofs.YtfbllgjnahechaaDoor.W
open Go.ChangeShapes Go.WideShapes Go.ChangeAt Go.RowKit

def goodT (x : Tk) : Bool := goodB x.k x.n x.t x.a
def txtT (x : Tk) : ByteArray := txtOf x.k x.n x.t
def needT (x y : Tk) : Bool := needB x.k x.n x.t y.k y.n y.t
/-- Does a blank stand ahead of the i-th token? -/
def gapB (l : List Tk) : Nat → Bool
  | 0 => false
  | i + 1 => match l[i]?, l[i + 1]? with
    | some x, some y => needT x y
    | _, _ => false
def txtAt (l : List Tk) (i : Nat) : ByteArray := match l[i]? with
  | some x => txtT x
  | none => ⟨#[]⟩
/-- The first i tokens joined. -/
def joinTo (l : List Tk) : Nat → ByteArray
  | 0 => ⟨#[]⟩
  | i + 1 => (if gapB l i = true then joinTo l i ++ ⟨#[32]⟩ else joinTo l i) ++ txtAt l i
def joinOk (l : List Tk) : Bool := l.all goodT && (decide (l.length ≤ 120) && decide ((joinTo l l.length).size ≤ 300))
def joinS (l : List Tk) : ByteArray := if joinOk l = true then joinTo l l.length else ⟨#[]⟩

theorem join_gap {l : List Tk} {i : Nat} (hi : i < l.length) (h : gapB l i = true) : joinTo l (i + 1) = joinTo l i ++ ⟨#[32]⟩ ++ txtT l[i] := by
  simp [joinTo, h, txtAt, List.getElem?_eq_getElem hi]
theorem join_no {l : List Tk} {i : Nat} (hi : i < l.length) (h : gapB l i = false) : joinTo l (i + 1) = joinTo l i ++ txtT l[i] := by
  simp [joinTo, h, txtAt, List.getElem?_eq_getElem hi]
theorem gap_succ {l : List Tk} {i : Nat} (hi : i + 1 < l.length) : gapB l (i + 1) = needT l[i] l[i + 1] := by
  simp [gapB, List.getElem?_eq_getElem hi, List.getElem?_eq_getElem (show i < l.length by omega)]
theorem join_bad {l : List Tk} {i : Nat} (hi : i < l.length) (h : goodT l[i] = false) : joinOk l = false := by
  have : l.all goodT = false := by
    rw [Bool.eq_false_iff]; intro hc; rw [List.all_eq_true] at hc; rw [hc _ (List.getElem_mem hi)] at h; cases h
  simp [joinOk, this]
theorem joinS_no {l : List Tk} (h : joinOk l = false) : joinS l = ⟨#[]⟩ := if_neg (by rw [h]; simp)
theorem joinS_yes {l : List Tk} (h : joinOk l = true) : joinS l = joinTo l l.length := if_pos h

theorem bel_drewN {w w1 : World} {n : Nat} (h : Below (w.drewN n).heap.size (w.drewN n) w1) : Below w.heap.size w w1 := ⟨h.os, h.tape, h.output, h.size, h.block⟩

set_option maxHeartbeats 4000000 in
theorem specJoin_any (ad : Option Addr) (c : Nat) (l : List Tk) (w : World) (hl : l.length ≤ 1048576) (hs : ∀ x ∈ l, x.t.size ≤ 1048576) (h : Row w ad l) :
    Calls Tryd.prog 11 #[.slice ad l.length c] w fun e w' => e = .returned (.tuple #[.string (joinS l), .bool (joinOk l)]) ∧ Below w.heap.size w w' := by
  have HR := hide h
  have HS := hide hs
  clear h hs
  go_enter Tryd.func11, Tryd.ntmps11
  go_wp2_with fail
  go_loopw [4, 9] (fun s i w' => ∃ j : Nat, j ≤ l.length ∧ i = .int .i64 j ∧ s = .string (joinTo l j) ∧ (joinTo l j).size ≤ 10 * j ∧ (∀ i (h : i < l.length), i < j → goodT l[i] = true) ∧ Below w.heap.size w w') (fun _ i _ => l.length - (intOf i).toNat)
  case atStart => exact ⟨0, by omega, rfl, rfl, Nat.le_refl 0, by intros; omega, Below.refl _ _⟩
  case round =>
    obtain ⟨j, hj, rfl, rfl, hz, hall, hB⟩ := hrel
    have HA := hide hall
    clear hall
    by_cases hlt : j < l.length
    · have hlt' : (j : Int) < (l.length : Int) := by omega
      have hj0 : (0 : Int) ≤ (j : Int) := by omega
      obtain ⟨b, o, rfl, hb, p0, p1, p2, p3⟩ := HR.out.tok hB hlt
      have hsz := HS.out _ (List.getElem_mem hlt)
      obtain ⟨x, hx⟩ : ∃ x, x = l[j] := ⟨_, rfl⟩
      rw [← hx] at p0 p1 p2 p3 hsz
      have HX := hide hx
      clear hx
      go_wp2_with fail
      refine (specGood_any _ _ _ _ _ hsz).mono ?_
      rintro e w1 ⟨rfl, hb1⟩
      obtain ⟨c0, c1, c2, c3, hz1, hB1'⟩ := box_kept hb1
      have hB1 : Below w.heap.size w w1 := hB.trans (hB1'.mono hB.size)
      clear hb1 p0 p1 p2 p3 hB1'
      by_cases hg : goodB x.k x.n x.t x.a = true
      · have hts := txt_size hg
        have hsum : (joinTo l j).size + (txtOf x.k x.n x.t).size ≤ 9223372036854775807 := by omega
        have HA2 : Hid (∀ i (h : i < l.length), i < j + 1 → goodT l[i] = true) := fun i hi hij => by
          by_cases e : i = j
          · subst e; rw [← HX.out]; exact hg
          · exact HA.out i hi (by omega)
        by_cases hjz : j = 0
        · subst hjz
          have HJ : Hid (joinTo l (0 + 1) = joinTo l 0 ++ txtOf x.k x.n x.t) := by
            have := join_no hlt (rfl : gapB l 0 = false); rw [← HX.out] at this; exact this
          go_wp2_with fail
          go_quiet (fail)
          go_wp2_with fail
          refine (l1Text_any _ _ _ _ _ (good_num hg)).mono ?_
          rintro e w3 ⟨rfl, hb3⟩
          go_wp2_with fail
          have hb3' := bel_drewN hb3
          exact ⟨⟨1, by omega, rfl, by rw [HJ.out], by rw [HJ.out, ByteArray.size_append]; omega, HA2.out, hB1.trans (hb3'.mono hB1.size)⟩, by simp [intOf]; omega⟩
        · obtain ⟨i, rfl⟩ : ∃ i, j = i + 1 := ⟨j - 1, by omega⟩
          clear hjz
          obtain ⟨b', o', hbo, -, q0, q1, q2, q3⟩ := HR.out.tok hB1 (i := i) (by omega)
          simp only [Option.some.injEq, Addr.mk.injEq, and_true] at hbo
          obtain ⟨rfl, rfl⟩ := hbo
          obtain ⟨y, hy⟩ : ∃ y, y = l[i] := ⟨_, rfl⟩
          have hgy : goodB y.k y.n y.t y.a = true := by rw [hy]; exact HA.out i (by omega) (by omega)
          have HGp : Hid (gapB l (i + 1) = needB y.k y.n y.t x.k x.n x.t) := by
            have := gap_succ hlt; rw [← HX.out, ← hy] at this; exact this
          rw [← hy] at q0 q1 q2 q3
          clear hy
          have C0 := cell_regrown c0
          have C1 := cell_regrown c1
          have C2 := cell_regrown c2
          have C3 := cell_regrown c3
          have Q0 := cell_regrown q0
          have Q1 := cell_regrown q1
          have Q2 := cell_regrown q2
          have Q3 := cell_regrown q3
          clear c0 c1 c2 c3 q0 q1 q2 q3
          have cN : Hid (∀ d os, Calls Tryd.prog 22 #[.agg #[.int .i64 y.k, .int .i64 y.n, .string y.t, .int .i64 y.a], .agg #[.int .i64 x.k, .int .i64 x.n, .string x.t, .int .i64 x.a]] (Go.Sort.grow (redrawn w1 d) os) fun e w'' => e = .returned (.bool (gapB l (i + 1))) ∧ ∃ p : Regrown, w'' = Go.Sort.grow (redrawn w1 p.d) p.os) := fun d os => Calls.regrown_of (by rw [HGp.out]; exact l1Needs_any y.k y.n y.a x.k x.n x.a y.t x.t _ hgy hg)
          by_cases hn : gapB l (i + 1) = true
          · have HJ : Hid (joinTo l (i + 1 + 1) = joinTo l (i + 1) ++ ⟨#[32]⟩ ++ txtOf x.k x.n x.t) := by
              have := join_gap hlt hn; rw [← HX.out] at this; exact this
            rw [hn] at cN
            clear hn HGp
            have hsum1 : (joinTo l (i + 1)).size + 1 ≤ 9223372036854775807 := by omega
            have hsum2 : (joinTo l (i + 1)).size + 1 + (txtOf x.k x.n x.t).size ≤ 9223372036854775807 := by omega
            go_wp2_with fail
            refine wp_region_quiet_below (by kernel_rfl) (by kernel_rfl) ?_
            repeat (go_big_quiet_step ((go_at_call 22; exact cN.out _ _)))
            refine wpQuiet_nil ?_
            intro _ hw'
            obtain ⟨⟨dq, osq⟩, hw''⟩ := hw'
            subst hw''
            go_wp2_with fail
            refine (l1Text_any _ _ _ _ _ (good_num hg)).mono ?_
            rintro e w3 ⟨rfl, hb3⟩
            have hb2 := below_regrown w1 dq osq
            have hB3 : Below w.heap.size w w3 := hB1.trans ((hb2.trans (hb3.mono hb2.size)).mono hB1.size)
            clear hb2 hb3 C0 C1 C2 C3 Q0 Q1 Q2 Q3
            go_wp2_with fail
            refine ⟨⟨i + 1 + 1, by omega, by go_num, by rw [HJ.out], ?_, HA2.out, hB3⟩, by simp [intOf]; omega⟩
            rw [HJ.out, ByteArray.size_append, ByteArray.size_append, show (⟨#[32]⟩ : ByteArray).size = 1 from rfl]; omega
          · rw [Bool.not_eq_true] at hn
            have HJ : Hid (joinTo l (i + 1 + 1) = joinTo l (i + 1) ++ txtOf x.k x.n x.t) := by
              have := join_no hlt hn; rw [← HX.out] at this; exact this
            rw [hn] at cN
            clear hn HGp
            go_wp2_with fail
            refine wp_region_quiet_below (by kernel_rfl) (by kernel_rfl) ?_
            repeat (go_big_quiet_step ((go_at_call 22; exact cN.out _ _)))
            refine wpQuiet_nil ?_
            intro _ hw'
            obtain ⟨⟨dq, osq⟩, hw''⟩ := hw'
            subst hw''
            go_wp2_with fail
            refine (l1Text_any _ _ _ _ _ (good_num hg)).mono ?_
            rintro e w3 ⟨rfl, hb3⟩
            have hb2 := below_regrown w1 dq osq
            have hB3 : Below w.heap.size w w3 := hB1.trans ((hb2.trans (hb3.mono hb2.size)).mono hB1.size)
            clear hb2 hb3 C0 C1 C2 C3 Q0 Q1 Q2 Q3
            go_wp2_with fail
            refine ⟨⟨i + 1 + 1, by omega, by go_num, by rw [HJ.out], ?_, HA2.out, hB3⟩, by simp [intOf]; omega⟩
            rw [HJ.out, ByteArray.size_append]; omega
      · rw [Bool.not_eq_true] at hg
        have HN : Hid (joinOk l = false) := join_bad hlt (by rw [← HX.out]; exact hg)
        have HN2 : Hid (joinS l = ⟨#[]⟩) := joinS_no HN.out
        go_wp2_with fail
        go_ret2
        exact ⟨by rw [HN.out, HN2.out]; rfl, hB1⟩
    · obtain rfl : j = l.length := by omega
      have hgood : l.all goodT = true := by
        rw [List.all_eq_true]
        intro x hx
        obtain ⟨i, hi, rfl⟩ := List.getElem_of_mem hx
        exact HA.out i hi hi
      by_cases hn : l.length ≤ 120
      · have hn' : ¬ (120 : Int) < (l.length : Int) := by omega
        by_cases h3 : (joinTo l l.length).size ≤ 300
        · have h3' : ¬ (300 : Int) < ((joinTo l l.length).size : Int) := by omega
          have HO : Hid (joinOk l = true) := by unfold joinOk; rw [hgood, decide_eq_true hn, decide_eq_true h3]; exact (rfl : (true && (true && true)) = true)
          have HO2 : Hid (joinS l = joinTo l l.length) := joinS_yes HO.out
          clear h3 hn hgood
          go_wp2_with fail
          go_ret2
          exact ⟨by rw [HO.out, HO2.out]; rfl, hB⟩
        · have h3' : (300 : Int) < ((joinTo l l.length).size : Int) := by omega
          have HO : Hid (joinOk l = false) := by unfold joinOk; rw [hgood, decide_eq_true hn, decide_eq_false h3]; exact (rfl : (true && (true && false)) = false)
          have HO2 : Hid (joinS l = ⟨#[]⟩) := joinS_no HO.out
          clear h3 hn hgood
          go_wp2_with fail
          go_ret2
          exact ⟨by rw [HO.out, HO2.out]; rfl, hB⟩
      · have hn' : (120 : Int) < (l.length : Int) := by omega
        have HO : Hid (joinOk l = false) := by unfold joinOk; rw [hgood, decide_eq_false hn]; exact (rfl : (true && (false && _)) = false)
        have HO2 : Hid (joinS l = ⟨#[]⟩) := joinS_no HO.out
        clear hn hgood
        go_wp2_with fail
        go_ret2
        exact ⟨by rw [HO.out, HO2.out]; rfl, hB⟩
end Go.Proofs.YtfbllgjnahechaaDoor.W

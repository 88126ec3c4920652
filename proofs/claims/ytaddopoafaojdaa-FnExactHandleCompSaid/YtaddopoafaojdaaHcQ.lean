/-
  Rules that go on with both computations: contracts of the program's goBoth and pass, given what is made of the two. Conditions: at most 60 cells.
-/
import Derived.Test.YtaddopoafaojdaaHcP
namespace Go.Proofs.Ytaddopoafaojdaa.C
open Go.Proofs.Ytaddopoafaojdaa.W
open Go.ChangeShapes Go.WideShapes Go.ChangeAt Go.RowKit
set_option linter.unusedVariables false

theorem bth_no {x y : Option Tr} (h : (x.isSome && y.isSome) = false) : bth x y = none := by
  cases x with
  | none => rfl
  | some x =>
    cases y with
    | none => rfl
    | some y => simp at h
theorem pas_no {n : Int} {x y : Option Tr} (h : (x.isSome && y.isSome) = false) : pas n x y = none := by
  cases x with
  | none => rfl
  | some x =>
    cases y with
    | none => rfl
    | some y => simp at h

set_option maxRecDepth 20000 in
set_option maxHeartbeats 4000000 in
theorem goBoth_any (k n m q : Int) (ha : Option Addr) (hc : Nat) (a1 : Option Addr) (l1 c1 : Nat) (a2 : Option Addr) (l2 c2 : Nat) (w : World) (x y : Option Tr) (Hx : Hg q ha hc w (.slice a1 l1 c1) x) (Hy : Hg q ha hc w (.slice a2 l2 c2) y)
    (ox : ∀ z, x = some z → z.ok ∧ z.flat.length ≤ 60) (oy : ∀ z, y = some z → z.ok ∧ z.flat.length ≤ 60) :
    Calls Try.prog 49 #[.agg #[.int .i64 k, .int .i64 n], .agg #[.int .i64 q, .slice ha 3 hc], .agg #[.int .i64 m, .slice a1 l1 c1, .slice a2 l2 c2]] w (RU2 w (oF (bth x y)) (bth x y).isSome) := by
  unfold RU2
  obtain ⟨W, hW⟩ : ∃ W, W = (((w.alloc (.cells #[.int .i64 k, .int .i64 n] 62)).alloc (.cells #[.int .i64 q, .slice ha 3 hc] 33)).alloc (.cells #[.int .i64 m, .slice a1 l1 c1, .slice a2 l2 c2] 83)) := ⟨_, rfl⟩
  have hB : Below w.heap.size w W := by rw [hW]; exact belC _ _ _ _
  have hXh : Bx W (w.heap.size + 1) #[.int .i64 q, .slice ha 3 hc] 33 := by
    rw [hW]
    have := (Bx.new (w.alloc (.cells #[.int .i64 k, .int .i64 n] 62)) #[.int .i64 q, .slice ha 3 hc] 33).alloc (.cells #[.int .i64 m, .slice a1 l1 c1, .slice a2 l2 c2] 83)
    simpa using this
  have hXo : Bx W (w.heap.size + 1 + 1) #[.int .i64 m, .slice a1 l1 c1, .slice a2 l2 c2] 83 := by
    rw [hW]
    have := Bx.new ((w.alloc (.cells #[.int .i64 k, .int .i64 n] 62)).alloc (.cells #[.int .i64 q, .slice ha 3 hc] 33)) #[.int .i64 m, .slice a1 l1 c1, .slice a2 l2 c2] 83
    simpa using this
  have HC := hide (bothHandled_any m q ha hc a1 l1 c1 a2 l2 c2 W x y (fun w1 hb => Hx w1 (hB.trans (hb.mono hB.size))) (fun w1 hb => Hy w1 (hB.trans (hb.mono hB.size))))
  unfold BH at HC
  have cXh := hXh.c
  have cXo := hXo.c
  have HW := hide hW
  have HB := hide hB
  clear hW hXh hXo hB Hx Hy
  by_cases hok : (x.isSome && y.isSome) = true
  · obtain ⟨x', rfl⟩ : ∃ x', x = some x' := by cases x with | none => simp at hok | some x => exact ⟨x, rfl⟩
    obtain ⟨y', rfl⟩ : ∃ y', y = some y' := by cases y with | none => simp at hok | some y => exact ⟨y, rfl⟩
    obtain ⟨hxo, hx6⟩ := ox x' rfl
    obtain ⟨hyo, hy6⟩ := oy y' rfl
    have HBt : Hid (bth (some x') (some y') = if (x'.wit y').flat.length ≤ 60 then some (x'.wit y') else none) := hide rfl
    have HFo := hide (Tr.wit_fol (y := y') hxo)
    have HFB := hide (fun (a : Option Addr) (c : Nat) (p : Value) (w' : World) (h : CRow w' a x'.flat) (hN : Nx_both p (fun n => y'.flat.map (mp n)) w') => followed_both a c x'.flat p (fun n => y'.flat.map (mp n)) w' hx6 h (x'.tellOk hxo) (fun n _ _ => by rw [List.length_map]; have := y'.flat_pos; omega) hN)
    have HB1 := hide (fun (XB : Nat) (a : Option Addr) (c : Nat) (w' : World) (hX : Bx w' XB #[.slice a y'.flat.length c] 28) (hR : CRow w' a y'.flat) => both1_any XB a c y' hyo hy6 w' hX hR)
    clear ox oy
    simp only [hok] at HC
    clear hok
    have HoX : Hid (oF (some x') = x'.flat) := hide rfl
    have HoY : Hid (oF (some y') = y'.flat) := hide rfl
    rw [HoX.out, HoY.out] at HC
    unfold RU2 folL at HFB
    rw [HFo.out] at HFB
    obtain ⟨XL, hXL⟩ : ∃ XL, XL = x'.flat := ⟨_, rfl⟩
    obtain ⟨YL, hYL⟩ : ∃ YL, YL = y'.flat := ⟨_, rfl⟩
    obtain ⟨ZL, hZL⟩ : ∃ ZL, ZL = (x'.wit y').flat := ⟨_, rfl⟩
    rw [← hXL] at HC HFB
    rw [← hYL] at HC HB1 HFB
    rw [← hZL] at HFB
    have HZe : Hid (oF (bth (some x') (some y')) = if ZL.length ≤ 60 then ZL else []) := hide (by rw [HBt.out, hZL]; split <;> rfl)
    have HZs : Hid ((bth (some x') (some y')).isSome = decide (ZL.length ≤ 60)) := hide (by
      rw [HBt.out, hZL]
      by_cases h : (x'.wit y').flat.length ≤ 60
      · rw [if_pos h, decide_eq_true h]; rfl
      · rw [if_neg h, decide_eq_false h]; rfl)
    rw [HZe.out, HZs.out]
    obtain ⟨RL, hRL⟩ : ∃ RL, RL = (if ZL.length ≤ 60 then ZL else []) := ⟨_, rfl⟩
    obtain ⟨RB, hRB⟩ : ∃ RB, RB = decide (ZL.length ≤ 60) := ⟨_, rfl⟩
    rw [← hRL, ← hRB] at HFB ⊢
    clear hRL hRB hXL hYL hZL hxo hx6 hyo hy6 HBt HFo HoX HoY HZe HZs
    go_enter Try.func49, Try.ntmps49
    go_upto_region 1 with fail
    rw [← HW.out]
    clear HW
    go_wp2_with fail
    refine Calls.mono HC.out ?_
    rintro e w1 ⟨ra, rl, rc, sa, sl, sc, rfl, hr, hb⟩
    obtain ⟨rfl, rfl, hr1, hr2⟩ := hr trivial
    have hB1 : Below w.heap.size w w1 := HB.out.trans (hb.mono HB.out.size)
    obtain ⟨W2, hW2⟩ : ∃ W2, W2 = w1.alloc (.cells #[.slice sa YL.length sc] 28) := ⟨_, rfl⟩
    have hb2 : Below w1.heap.size w1 W2 := by rw [hW2]; exact (Below.refl _ _).alloc (Nat.le_refl _) _
    have hX2 : Bx W2 w1.heap.size #[.slice sa YL.length sc] 28 := by rw [hW2]; exact Bx.new _ _ _
    have HF := hide (HFB.out ra rc _ W2 (hr1.below hb2) (HB1.out _ sa sc W2 hX2 (hr2.below hb2)))
    have hB2 : Below w.heap.size w W2 := hB1.trans (hb2.mono hB1.size)
    have HW2 := hide hW2
    clear hr hr1 hr2 hb hb2 hX2 hW2 HC HFB HB1 cXh cXo
    go_upto_region 2 with fail
    rw [← HW2.out]
    clear HW2
    go_wp2_with fail
    refine Calls.mono HF.out ?_
    rintro e w3 ⟨v, rfl, ho, hb3⟩
    obtain ⟨va, vc, rfl⟩ := iOwn_form ho
    have HO := hide (iOwn_lower ho hB2.size)
    have hB3 : Below w.heap.size w w3 := hB2.trans (hb3.mono hB2.size)
    clear ho hb3 HF
    go_wp2_with fail
    exact bodyPost_ret (v := .tuple #[.slice va RL.length vc, .bool RB]) (by simp [results, Try.results49, go_sem]) rfl ⟨_, rfl, HO.out, hB3⟩
  · rw [Bool.not_eq_true] at hok
    rw [bth_no hok]
    rw [hok] at HC
    clear hok ox oy
    show Calls _ _ _ _ (fun e w' => ∃ v, e = .returned (.tuple #[v, .bool false]) ∧ w'.ownsRow w.heap.size 52 2 v 0 [] ∧ Below w.heap.size w w')
    go_enter Try.func49, Try.ntmps49
    go_upto_region 1 with fail
    rw [← HW.out]
    clear HW
    go_wp2_with fail
    refine Calls.mono HC.out ?_
    rintro e w1 ⟨ra, rl, rc, sa, sl, sc, rfl, -, hb⟩
    have hB1 : Below w.heap.size w w1 := HB.out.trans (hb.mono HB.out.size)
    clear hb HC cXh cXo
    go_wp2_with fail
    exact bodyPost_ret (v := .tuple #[.slice none 0 0, .bool false]) (by simp [results, Try.results49, go_sem]) rfl ⟨_, rfl, World.ownsRow_nil _ _ _ _, hB1.alloc hB1.size _⟩

set_option maxRecDepth 20000 in
set_option maxHeartbeats 4000000 in
theorem pass_any (k n m q : Int) (ha : Option Addr) (hc : Nat) (a1 : Option Addr) (l1 c1 : Nat) (a2 : Option Addr) (l2 c2 : Nat) (w : World) (x y : Option Tr) (Hx : Hg q ha hc w (.slice a1 l1 c1) x) (Hy : Hg q ha hc w (.slice a2 l2 c2) y)
    (ox : ∀ z, x = some z → z.ok ∧ z.flat.length ≤ 60) (oy : ∀ z, y = some z → z.ok ∧ z.flat.length ≤ 60) :
    Calls Try.prog 54 #[.agg #[.int .i64 k, .int .i64 n], .agg #[.int .i64 q, .slice ha 3 hc], .agg #[.int .i64 m, .slice a1 l1 c1, .slice a2 l2 c2]] w (RU2 w (oF (pas m x y)) (pas m x y).isSome) := by
  unfold RU2
  obtain ⟨W, hW⟩ : ∃ W, W = (((w.alloc (.cells #[.int .i64 k, .int .i64 n] 62)).alloc (.cells #[.int .i64 q, .slice ha 3 hc] 33)).alloc (.cells #[.int .i64 m, .slice a1 l1 c1, .slice a2 l2 c2] 83)) := ⟨_, rfl⟩
  have hB : Below w.heap.size w W := by rw [hW]; exact belC _ _ _ _
  have hXh : Bx W (w.heap.size + 1) #[.int .i64 q, .slice ha 3 hc] 33 := by
    rw [hW]
    have := (Bx.new (w.alloc (.cells #[.int .i64 k, .int .i64 n] 62)) #[.int .i64 q, .slice ha 3 hc] 33).alloc (.cells #[.int .i64 m, .slice a1 l1 c1, .slice a2 l2 c2] 83)
    simpa using this
  have hXo : Bx W (w.heap.size + 1 + 1) #[.int .i64 m, .slice a1 l1 c1, .slice a2 l2 c2] 83 := by
    rw [hW]
    have := Bx.new ((w.alloc (.cells #[.int .i64 k, .int .i64 n] 62)).alloc (.cells #[.int .i64 q, .slice ha 3 hc] 33)) #[.int .i64 m, .slice a1 l1 c1, .slice a2 l2 c2] 83
    simpa using this
  have HC := hide (bothHandled_any m q ha hc a1 l1 c1 a2 l2 c2 W x y (fun w1 hb => Hx w1 (hB.trans (hb.mono hB.size))) (fun w1 hb => Hy w1 (hB.trans (hb.mono hB.size))))
  unfold BH at HC
  have cXh := hXh.c
  have cXo := hXo.c
  have HW := hide hW
  have HB := hide hB
  have HXo := hide hXo
  clear hW hXh hXo hB Hx Hy
  by_cases hok : (x.isSome && y.isSome) = true
  · obtain ⟨x', rfl⟩ : ∃ x', x = some x' := by cases x with | none => simp at hok | some x => exact ⟨x, rfl⟩
    obtain ⟨y', rfl⟩ : ∃ y', y = some y' := by cases y with | none => simp at hok | some y => exact ⟨y, rfl⟩
    obtain ⟨hxo, hx6⟩ := ox x' rfl
    obtain ⟨hyo, hy6⟩ := oy y' rfl
    have hxp := x'.flat_pos
    have hyp := y'.flat_pos
    clear ox oy hxo hyo
    simp only [hok] at HC
    clear hok
    have HoX : Hid (oF (some x') = x'.flat) := hide rfl
    have HoY : Hid (oF (some y') = y'.flat) := hide rfl
    rw [HoX.out, HoY.out] at HC
    have HPs : Hid (pas m (some x') (some y') = if 1 + x'.flat.length + y'.flat.length ≤ 60 then some (.ask m x' y') else none) := hide rfl
    have HPf : Hid ((Tr.ask m x' y').flat = [⟨2, m⟩] ++ x'.flat ++ y'.flat) := hide (by simp [Tr.flat])
    by_cases hfit : 1 + x'.flat.length + y'.flat.length ≤ 60
    · have HG1 : Hid (pas m (some x') (some y') = some (.ask m x' y')) := hide (by rw [HPs.out, if_pos hfit])
      rw [HG1.out]
      have HG2 : Hid (oF (some (Tr.ask m x' y')) = [⟨2, m⟩] ++ x'.flat ++ y'.flat) := hide HPf.out
      rw [HG2.out]
      show Calls _ _ _ _ (fun e w' => ∃ v, e = .returned (.tuple #[v, .bool true]) ∧ _)
      have HCc := hide (fun (g b1 b2 o2 c2 b3 o3 c3 : Nat) (w' : World) (hg : g < w'.heap.size) q1 q2 q3 h1 h2 h3 => concatC_any g b1 0 1 b2 o2 c2 b3 o3 c3 [⟨2, m⟩] x'.flat y'.flat w' (by simp; omega) (by simp; omega) hg q1 q2 q3 h1 h2 h3)
      have HLn : Hid (([(⟨2, m⟩ : Cc)] ++ x'.flat ++ y'.flat).length = [(⟨2, m⟩ : Cc)].length + x'.flat.length + y'.flat.length) := hide (by simp only [List.length_append])
      rw [← HLn.out] at HCc
      obtain ⟨ZL, hZL⟩ : ∃ ZL, ZL = [(⟨2, m⟩ : Cc)] ++ x'.flat ++ y'.flat := ⟨_, rfl⟩
      rw [← hZL] at HCc ⊢
      obtain ⟨XL, hXL⟩ : ∃ XL, XL = x'.flat := ⟨_, rfl⟩
      obtain ⟨YL, hYL⟩ : ∃ YL, YL = y'.flat := ⟨_, rfl⟩
      rw [← hXL] at HC HCc hxp hfit hx6
      rw [← hYL] at HC HCc hyp hfit hy6
      have hfi : ¬ (60 : Int) < 1 + (XL.length : Int) + (YL.length : Int) := by omega
      clear hZL hXL hYL HLn HG1 HG2 HPs HPf HoX HoY
      go_enter Try.func54, Try.ntmps54
      go_upto_region 1 with fail
      rw [← HW.out]
      clear HW
      go_wp2_with fail
      refine Calls.mono HC.out ?_
      rintro e w1 ⟨ra, rl, rc, sa, sl, sc, rfl, hr, hb⟩
      obtain ⟨rfl, rfl, hr1, hr2⟩ := hr trivial
      have hB1 : Below w.heap.size w w1 := HB.out.trans (hb.mono HB.out.size)
      have hXo1 := HXo.out.below hb HXo.out.lt
      have cXo1 := hXo1.c
      have hxl1 := hXo1.lt
      obtain ⟨xb, xo, rfl⟩ := row_some2 hr1 hxp
      obtain ⟨yb, yo, rfl⟩ := row_some2 hr2 hyp
      obtain ⟨W2, hW2⟩ : ∃ W2, W2 = (w1.alloc (.cells #[.int .i64 2, .int .i64 m] 52)).alloc (.cells #[.slice (some ⟨w1.heap.size, 0, none⟩) 1 1, .slice (some ⟨xb, xo, none⟩) XL.length rc, .slice (some ⟨yb, yo, none⟩) YL.length sc] 28) := ⟨_, rfl⟩
      have hb2 : Below w1.heap.size w1 W2 := by rw [hW2]; exact ((Below.refl _ _).alloc (Nat.le_refl _) _).alloc (by simp) _
      have hX1 : Bx W2 w1.heap.size #[.int .i64 2, .int .i64 m] 52 := by rw [hW2]; exact (Bx.new w1 _ _).alloc _
      have hX2 : Bx W2 (w1.heap.size + 1) #[.slice (some ⟨w1.heap.size, 0, none⟩) 1 1, .slice (some ⟨xb, xo, none⟩) XL.length rc, .slice (some ⟨yb, yo, none⟩) YL.length sc] 28 := by
        rw [hW2]
        have := Bx.new (w1.alloc (.cells #[.int .i64 2, .int .i64 m] 52)) #[.slice (some ⟨w1.heap.size, 0, none⟩) 1 1, .slice (some ⟨xb, xo, none⟩) XL.length rc, .slice (some ⟨yb, yo, none⟩) YL.length sc] 28
        simpa using this
      have hrow1 : CRow W2 (some ⟨w1.heap.size, 0, none⟩) [⟨2, m⟩] := .inr ⟨_, 0, rfl, hX1.lt, fun i hi => by
        obtain rfl : i = 0 := by simpa using hi
        exact ⟨(hX1.c 0).trans rfl, (hX1.c 1).trans rfl⟩⟩
      have HF := hide (HCc.out (w1.heap.size + 1) w1.heap.size xb xo rc yb yo sc W2 hX2.lt ((hX2.c 0).trans rfl) ((hX2.c 1).trans rfl) ((hX2.c 2).trans rfl) hrow1 (hr1.below hb2) (hr2.below hb2))
      have hB2 : Below w.heap.size w W2 := hB1.trans (hb2.mono hB1.size)
      have HW2 := hide hW2
      clear hr hr1 hr2 hb hb2 hX1 hX2 hW2 HC HCc cXh cXo hrow1 hXo1
      go_wp2_with fail
      rw [← HW2.out]
      clear HW2
      refine Calls.mono HF.out ?_
      rintro e w3 ⟨v, rfl, ho, hb3⟩
      obtain ⟨va, vc, rfl⟩ := iOwn_form ho
      have HO := hide (iOwn_lower ho hB2.size)
      have hB3 : Below w.heap.size w w3 := hB2.trans (hb3.mono hB2.size)
      clear ho hb3 HF cXo1
      go_wp2_with fail
      exact bodyPost_ret (v := .tuple #[.slice va ZL.length vc, .bool true]) (by simp [results, Try.results54, go_sem]) rfl ⟨_, rfl, HO.out, hB3⟩
    · have HG1 : Hid (pas m (some x') (some y') = none) := hide (by rw [HPs.out, if_neg hfit])
      rw [HG1.out]
      show Calls _ _ _ _ (fun e w' => ∃ v, e = .returned (.tuple #[v, .bool false]) ∧ w'.ownsRow w.heap.size 52 2 v 0 [] ∧ Below w.heap.size w w')
      obtain ⟨XL, hXL⟩ : ∃ XL, XL = x'.flat := ⟨_, rfl⟩
      obtain ⟨YL, hYL⟩ : ∃ YL, YL = y'.flat := ⟨_, rfl⟩
      rw [← hXL] at HC hfit hx6
      rw [← hYL] at HC hfit hy6
      have hfi : (60 : Int) < 1 + (XL.length : Int) + (YL.length : Int) := by omega
      clear hXL hYL HG1 HPs HPf HoX HoY hxp hyp
      go_enter Try.func54, Try.ntmps54
      go_upto_region 1 with fail
      rw [← HW.out]
      clear HW
      go_wp2_with fail
      refine Calls.mono HC.out ?_
      rintro e w1 ⟨ra, rl, rc, sa, sl, sc, rfl, hr, hb⟩
      obtain ⟨rfl, rfl, -, -⟩ := hr trivial
      have hB1 : Below w.heap.size w w1 := HB.out.trans (hb.mono HB.out.size)
      clear hr hb HC cXh cXo
      go_wp2_with fail
      exact bodyPost_ret (v := .tuple #[.slice none 0 0, .bool false]) (by simp [results, Try.results54, go_sem]) rfl ⟨_, rfl, World.ownsRow_nil _ _ _ _, hB1⟩
  · rw [Bool.not_eq_true] at hok
    rw [pas_no hok]
    rw [hok] at HC
    clear hok ox oy
    show Calls _ _ _ _ (fun e w' => ∃ v, e = .returned (.tuple #[v, .bool false]) ∧ w'.ownsRow w.heap.size 52 2 v 0 [] ∧ Below w.heap.size w w')
    go_enter Try.func54, Try.ntmps54
    go_upto_region 1 with fail
    rw [← HW.out]
    clear HW
    go_wp2_with fail
    refine Calls.mono HC.out ?_
    rintro e w1 ⟨ra, rl, rc, sa, sl, sc, rfl, -, hb⟩
    have hB1 : Below w.heap.size w w1 := HB.out.trans (hb.mono HB.out.size)
    clear hb HC cXh cXo
    go_wp2_with fail
    exact bodyPost_ret (v := .tuple #[.slice none 0 0, .bool false]) (by simp [results, Try.results54, go_sem]) rfl ⟨_, rfl, World.ownsRow_nil _ _ _ _, hB1⟩
end Go.Proofs.Ytaddopoafaojdaa.C

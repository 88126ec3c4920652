/-
  What the program's rules make of an operation: contracts of goFirst, goSecond, stop, bothHandled, goBoth, pass, given what is made of the two computations behind it. Conditions: at most 60 cells.
-/
import Derived.Test.YtaddopoafaojdaaHcM
import Derived.Test.YtaddopoafaojdaaHcK
import Derived.Test.YtaddopoafaojdaaRwG
import Derived.Deep.CutRange
namespace Go.Proofs.Ytaddopoafaojdaa.C
open Go.Proofs.Ytaddopoafaojdaa.W
open Go.ChangeShapes Go.WideShapes Go.ChangeAt Go.RowKit
set_option linter.unusedVariables false

theorem belC (w : World) (a b c : Obj) : Below w.heap.size w (((w.alloc a).alloc b).alloc c) := (((Below.refl _ _).alloc (Nat.le_refl _) _).alloc (by simp) _).alloc (by simp; omega) _
/-- What handled tells of a computation, wherever w stays as it is. -/
def Hg (q : Int) (ha : Option Addr) (hc : Nat) (w : World) (v : Value) (x : Option Tr) : Prop :=
  ∀ w1, Below w.heap.size w w1 → Calls Try.prog 24 #[.agg #[.int .i64 q, .slice ha 3 hc], v] w1 (RU2 w1 (oF x) x.isSome)
theorem RU2.lower {w w1 : World} {L : List Cc} {b : Bool} {e : Ending} {w' : World} (h : RU2 w1 L b e w') (hb : Below w.heap.size w w1) : RU2 w L b e w' := by
  obtain ⟨v, rfl, ho, hb2⟩ := h
  exact ⟨v, rfl, iOwn_lower ho hb.size, hb.trans (hb2.mono hb.size)⟩

set_option maxRecDepth 20000 in
set_option maxHeartbeats 2000000 in
theorem goFirst_any (k n m q : Int) (ha : Option Addr) (hc : Nat) (a1 : Option Addr) (l1 c1 : Nat) (a2 : Option Addr) (l2 c2 : Nat) (w : World) (x : Option Tr) (H : Hg q ha hc w (.slice a1 l1 c1) x) :
    Calls Try.prog 46 #[.agg #[.int .i64 k, .int .i64 n], .agg #[.int .i64 q, .slice ha 3 hc], .agg #[.int .i64 m, .slice a1 l1 c1, .slice a2 l2 c2]] w (RU2 w (oF x) x.isSome) := by
  have HH := hide H
  have HB := hide (belC w (.cells #[.int .i64 k, .int .i64 n] 62) (.cells #[.int .i64 q, .slice ha 3 hc] 33) (.cells #[.int .i64 m, .slice a1 l1 c1, .slice a2 l2 c2] 83))
  have HC := hide (HH.out _ HB.out)
  unfold RU2
  obtain ⟨X, hX⟩ : ∃ X, X = oF x := ⟨_, rfl⟩
  obtain ⟨OK, hOK⟩ : ∃ OK, OK = x.isSome := ⟨_, rfl⟩
  unfold RU2 at HC
  rw [← hX, ← hOK] at HC ⊢
  clear hX hOK H HH
  go_enter Try.func46, Try.ntmps46
  go_wp2_with fail
  refine Calls.mono HC.out ?_
  rintro e w1 ⟨v, rfl, ho, hb⟩
  obtain ⟨va, vc, rfl⟩ := iOwn_form ho
  have HO := hide (iOwn_lower ho HB.out.size)
  have hB1 : Below w.heap.size w w1 := HB.out.trans (hb.mono HB.out.size)
  clear ho hb HC HB
  go_wp2_with fail
  exact bodyPost_ret (v := .tuple #[.slice va X.length vc, .bool OK]) (by simp [results, Try.results46, go_sem]) rfl ⟨_, rfl, HO.out, hB1⟩

set_option maxRecDepth 20000 in
set_option maxHeartbeats 2000000 in
theorem goSecond_any (k n m q : Int) (ha : Option Addr) (hc : Nat) (a1 : Option Addr) (l1 c1 : Nat) (a2 : Option Addr) (l2 c2 : Nat) (w : World) (x : Option Tr) (H : Hg q ha hc w (.slice a2 l2 c2) x) :
    Calls Try.prog 48 #[.agg #[.int .i64 k, .int .i64 n], .agg #[.int .i64 q, .slice ha 3 hc], .agg #[.int .i64 m, .slice a1 l1 c1, .slice a2 l2 c2]] w (RU2 w (oF x) x.isSome) := by
  have HH := hide H
  have HB := hide (belC w (.cells #[.int .i64 k, .int .i64 n] 62) (.cells #[.int .i64 q, .slice ha 3 hc] 33) (.cells #[.int .i64 m, .slice a1 l1 c1, .slice a2 l2 c2] 83))
  have HC := hide (HH.out _ HB.out)
  unfold RU2
  obtain ⟨X, hX⟩ : ∃ X, X = oF x := ⟨_, rfl⟩
  obtain ⟨OK, hOK⟩ : ∃ OK, OK = x.isSome := ⟨_, rfl⟩
  unfold RU2 at HC
  rw [← hX, ← hOK] at HC ⊢
  clear hX hOK H HH
  go_enter Try.func48, Try.ntmps48
  go_wp2_with fail
  refine Calls.mono HC.out ?_
  rintro e w1 ⟨v, rfl, ho, hb⟩
  obtain ⟨va, vc, rfl⟩ := iOwn_form ho
  have HO := hide (iOwn_lower ho HB.out.size)
  have hB1 : Below w.heap.size w w1 := HB.out.trans (hb.mono HB.out.size)
  clear ho hb HC HB
  go_wp2_with fail
  exact bodyPost_ret (v := .tuple #[.slice va X.length vc, .bool OK]) (by simp [results, Try.results48, go_sem]) rfl ⟨_, rfl, HO.out, hB1⟩

set_option maxRecDepth 20000 in
set_option maxHeartbeats 2000000 in
theorem stop_any (k n m q : Int) (ha : Option Addr) (hc : Nat) (a1 : Option Addr) (l1 c1 : Nat) (a2 : Option Addr) (l2 c2 : Nat) (w : World) :
    Calls Try.prog 52 #[.agg #[.int .i64 k, .int .i64 n], .agg #[.int .i64 q, .slice ha 3 hc], .agg #[.int .i64 m, .slice a1 l1 c1, .slice a2 l2 c2]] w (RU2 w [⟨1, n⟩] true) := by
  unfold RU2
  obtain ⟨W, hW⟩ : ∃ W, W = (((w.alloc (.cells #[.int .i64 k, .int .i64 n] 62)).alloc (.cells #[.int .i64 q, .slice ha 3 hc] 33)).alloc (.cells #[.int .i64 m, .slice a1 l1 c1, .slice a2 l2 c2] 83)) := ⟨_, rfl⟩
  have hB : Below w.heap.size w W := by rw [hW]; exact belC _ _ _ _
  have hX : Bx W w.heap.size #[.int .i64 k, .int .i64 n] 62 := by rw [hW]; exact ((Bx.new w _ _).alloc _).alloc _
  have cX := hX.c
  have hsz := hB.size
  have HW := hide hW
  have HB := hide hB
  clear hW hX hB
  go_enter Try.func52, Try.ntmps52
  go_upto_region 1 with fail
  rw [← HW.out]
  clear HW
  go_wp2_with fail
  refine bodyPost_ret (v := .tuple #[.slice (some ⟨W.heap.size, 0, none⟩) 1 1, .bool true]) (by simp [results, Try.results52, go_sem]) rfl ⟨_, rfl, ?_, HB.out.alloc HB.out.size _⟩
  exact ⟨rfl, .inr ⟨W.heap.size, 1, _, rfl, hsz, heap_alloc_new W _, Nat.le_refl _, by unfold maxLen; omega, rfl, rfl⟩⟩

/-- What bothHandled tells. -/
def BH (w : World) (x y : Option Tr) (e : Ending) (w' : World) : Prop := ∃ (a1 : Option Addr) (l1 c1 : Nat) (a2 : Option Addr) (l2 c2 : Nat), e = .returned (.tuple #[.slice a1 l1 c1, .slice a2 l2 c2, .bool (x.isSome && y.isSome)]) ∧ ((x.isSome && y.isSome) = true → l1 = (oF x).length ∧ l2 = (oF y).length ∧ CRow w' a1 (oF x) ∧ CRow w' a2 (oF y)) ∧ Below w.heap.size w w'

set_option maxRecDepth 20000 in
set_option maxHeartbeats 4000000 in
theorem bothHandled_any (m q : Int) (ha : Option Addr) (hc : Nat) (a1 : Option Addr) (l1 c1 : Nat) (a2 : Option Addr) (l2 c2 : Nat) (w : World) (x y : Option Tr) (Hx : Hg q ha hc w (.slice a1 l1 c1) x) (Hy : Hg q ha hc w (.slice a2 l2 c2) y) :
    Calls Try.prog 58 #[.agg #[.int .i64 q, .slice ha 3 hc], .agg #[.int .i64 m, .slice a1 l1 c1, .slice a2 l2 c2]] w (BH w x y) := by
  unfold BH
  obtain ⟨W, hW⟩ : ∃ W, W = ((w.alloc (.cells #[.int .i64 q, .slice ha 3 hc] 33)).alloc (.cells #[.int .i64 m, .slice a1 l1 c1, .slice a2 l2 c2] 83)) := ⟨_, rfl⟩
  have hB : Below w.heap.size w W := by rw [hW]; exact ((Below.refl _ _).alloc (Nat.le_refl _) _).alloc (by simp) _
  have hXh : Bx W w.heap.size #[.int .i64 q, .slice ha 3 hc] 33 := by rw [hW]; exact (Bx.new w _ _).alloc _
  have hXo : Bx W (w.heap.size + 1) #[.int .i64 m, .slice a1 l1 c1, .slice a2 l2 c2] 83 := by
    rw [hW]
    have := Bx.new (w.alloc (.cells #[.int .i64 q, .slice ha 3 hc] 33)) #[.int .i64 m, .slice a1 l1 c1, .slice a2 l2 c2] 83
    simpa using this
  have HC1 := hide (Hx W hB)
  have HY := hide Hy
  have HW := hide hW
  have HB := hide hB
  have HXh := hide hXh
  have HXo := hide hXo
  unfold RU2 at HC1
  clear hW hXh hXo hB Hx Hy
  cases x with
  | none =>
    show Calls _ _ _ _ (fun e w' => ∃ (a1 : Option Addr) (l1 c1 : Nat) (a2 : Option Addr) (l2 c2 : Nat), e = .returned (.tuple #[.slice a1 l1 c1, .slice a2 l2 c2, .bool false]) ∧ (false = true → _) ∧ Below w.heap.size w w')
    have cXh := HXh.out.c
    have cXo := HXo.out.c
    go_enter Try.func58, Try.ntmps58
    go_upto_region 1 with fail
    rw [← HW.out]
    clear HW
    go_wp2_with fail
    refine Calls.mono HC1.out ?_
    rintro e w1 ⟨v, rfl, ho, hb⟩
    obtain ⟨va, vc, rfl⟩ := iOwn_form ho
    have hB1 : Below w.heap.size w w1 := HB.out.trans (hb.mono HB.out.size)
    clear ho hb HC1 cXh cXo
    simp only [Option.isSome_none]
    go_wp2_with fail
    exact bodyPost_ret (v := .tuple #[.slice none 0 0, .slice none 0 0, .bool false]) (by simp [results, Try.results58, go_sem]) rfl ⟨_, _, _, _, _, _, rfl, (fun h => by cases h), hB1⟩
  | some x =>
    show Calls _ _ _ _ (fun e w' => ∃ (a1 : Option Addr) (l1 c1 : Nat) (a2 : Option Addr) (l2 c2 : Nat), e = .returned (.tuple #[.slice a1 l1 c1, .slice a2 l2 c2, .bool y.isSome]) ∧ (y.isSome = true → _) ∧ Below w.heap.size w w')
    have cXh := HXh.out.c
    have cXo := HXo.out.c
    obtain ⟨X, hX⟩ : ∃ X, X = oF (some x) := ⟨_, rfl⟩
    rw [← hX] at HC1 ⊢
    clear hX
    go_enter Try.func58, Try.ntmps58
    go_upto_region 1 with fail
    rw [← HW.out]
    clear HW
    go_wp2_with fail
    refine Calls.mono HC1.out ?_
    rintro e w1 ⟨v, rfl, ho, hb⟩
    obtain ⟨va, vc, rfl, -, hrow⟩ := cOwn_row ho
    have hB1 : Below w.heap.size w w1 := HB.out.trans (hb.mono HB.out.size)
    have HR1 := hide hrow
    have cXh1 := (HXh.out.below hb HXh.out.lt).c
    have cXo1 := (HXo.out.below hb HXo.out.lt).c
    have HC2 := hide (HY.out w1 hB1)
    unfold RU2 at HC2
    obtain ⟨Y, hY⟩ : ∃ Y, Y = oF y := ⟨_, rfl⟩
    obtain ⟨OK, hOK⟩ : ∃ OK, OK = y.isSome := ⟨_, rfl⟩
    rw [← hY, ← hOK] at HC2
    have HYe := hide hY
    have HOe := hide hOK
    have hxl : w.heap.size + 1 < w1.heap.size := Nat.lt_of_lt_of_le HXo.out.lt hb.size
    clear ho hb HC1 cXh cXo hrow HY hY hOK
    simp only [Option.isSome_some]
    go_wp2_with fail
    refine Calls.mono HC2.out ?_
    rintro e w2 ⟨v2, rfl, ho2, hb2⟩
    obtain ⟨ya, yc, rfl, -, hrow2⟩ := cOwn_row ho2
    have hB2 : Below w.heap.size w w2 := hB1.trans (hb2.mono hB1.size)
    have HR2 := hide hrow2
    have HR12 := hide (HR1.out.below hb2)
    clear ho2 hb2 HC2 cXh1 cXo1 hrow2 HR1
    go_wp2_with fail
    exact bodyPost_ret (v := .tuple #[.slice va X.length vc, .slice ya Y.length yc, .bool OK]) (by simp [results, Try.results58, go_sem]) rfl ⟨_, _, _, _, _, _, by rw [HOe.out], fun _ => ⟨rfl, by rw [HYe.out], HR12.out, by rw [← HYe.out]; exact HR2.out⟩, hB2⟩

set_option maxRecDepth 20000 in
set_option maxHeartbeats 2000000 in
theorem both1_any (XB : Nat) (a : Option Addr) (c : Nat) (y : Tr) (hy : y.ok) (h6 : y.flat.length ≤ 60) (w : World) (hX : Bx w XB #[.slice a y.flat.length c] 28) (hR : CRow w a y.flat) : Nx_both (.pointer (some ⟨XB, 0, none⟩)) (fun n => y.flat.map (mp n)) w := by
  intro n w1 h0 h1 hb
  obtain ⟨b, o, rfl⟩ := row_some2 hR y.flat_pos
  have cx : w1.cell? ⟨XB, 0, none⟩ = some (.slice (some ⟨b, o, none⟩) y.flat.length c) := (hb.cell (p := ⟨XB, 0, none⟩) hX.lt).trans (hX.c 0)
  have HC := hide (telling_any b o c y.flat n w1 (by omega) y.flat_pos h0 h1 (y.tellOk hy) (hR.below hb))
  show Calls _ _ _ _ (fun e w2 => ∃ (a : Option Addr) (k : Nat), e = .returned (.slice a (y.flat.map (mp n)).length k) ∧ CRow w2 a (y.flat.map (mp n)) ∧ Below w1.heap.size w1 w2)
  obtain ⟨Z, hZ⟩ : ∃ Z, Z = y.flat.map (mp n) := ⟨_, rfl⟩
  have hZl : Z.length = y.flat.length := by rw [hZ, List.length_map]
  rw [← hZ] at HC ⊢
  rw [← hZl] at HC cx
  clear hZ hZl hX hR
  go_enter Try.func60, Try.ntmps60
  go_wp2_with fail
  refine Calls.mono HC.out ?_
  rintro e w2 ⟨g, cap, rfl, ho, hb2⟩
  obtain ⟨va, vc, ev, -, hrow⟩ := cOwn_row ho
  simp only [Value.slice.injEq] at ev
  obtain ⟨rfl, -, rfl⟩ := ev
  have HR := hide hrow
  clear ho hrow HC cx
  go_wp2_with fail
  go_ret
  exact ⟨_, _, rfl, HR.out, hb2⟩
end Go.Proofs.Ytaddopoafaojdaa.C

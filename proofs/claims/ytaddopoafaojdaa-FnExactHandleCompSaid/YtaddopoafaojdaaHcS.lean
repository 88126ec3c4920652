/-
  Trees counted, and joined, by the specification: contracts of l9Size, l9Leaves, l9With. Conditions: at most 1048576 cells. Written by wip/build/mk_hcs.py.
-/
import Derived.Test.YtaddopoafaojdaaHcM
import Derived.Test.YtaddopoafaojdaaCoF
import Derived.Test.YtaddopoafaojdaaCoA
import Derived.Test.YtaddopoafaojdaaRwG
import Derived.Deep.RegionHeld3
import Derived.Deep.CutRange
namespace Go.Proofs.Ytaddopoafaojdaa.C
open Go.Proofs.Ytaddopoafaojdaa.W
open Go.ChangeShapes Go.WideShapes Go.ChangeAt Go.RowKit
set_option linter.unusedVariables false

def SizeGoal (t : Tr) : Prop := ∀ (u : Value) (P : Nat → Prop) (w : World), t.flat.length ≤ 1048576 → CV w P t u →
    Calls Try.prog 30 #[u] w fun e w' => e = .returned (.int .i64 (t.flat.length : Int)) ∧ Below w.heap.size w w'

set_option maxRecDepth 20000 in
set_option maxHeartbeats 4000000 in
theorem l9Size_any : ∀ t, SizeGoal t := by
  intro t
  induction t with
  | ret xn =>
    intro u P w hl hT
    obtain rfl : u = .agg #[.bool false, .int .i64 xn, .slice none 0 0] := hT
    have hB : Below w.heap.size w (w.alloc (.cells #[.bool false, .int .i64 xn, .slice none 0 0] 44)) := (Below.refl _ _).alloc (Nat.le_refl _) _
    clear hl
    show Calls _ _ _ _ (fun e w' => e = .returned (.int .i64 1) ∧ Below w.heap.size w w')
    go_enter Try.func30, Try.ntmps30
    go_wp2_with fail
    refine wp_loop_rounds 1 ?_
    rw [rounds_succ]
    go_wp2_with fail
    go_ret
    exact ⟨rfl, hB⟩
  | ask xn a b iha ihb =>
    intro u P w hl hT
    obtain ⟨g, cap, ba, na, sa, bb, nb, sb, rfl, hP, hg, c0, c1, c2, c3, c4, c5, h1, h2⟩ := hT
    obtain ⟨aad, al, ac, ea⟩ : ∃ aad al ac, sa = .slice aad al ac := by obtain ⟨_, _, ad, l, c, e⟩ := h1.form; simp at e; exact ⟨_, _, _, e.2.2⟩
    obtain ⟨bad, bl, bc, eb⟩ : ∃ bad bl bc, sb = .slice bad bl bc := by obtain ⟨_, _, ad, l, c, e⟩ := h2.form; simp at e; exact ⟨_, _, _, e.2.2⟩
    subst ea eb
    have hfl : (Tr.ask xn a b).flat.length = a.flat.length + b.flat.length + 1 := by simp [Tr.flat]
    rw [hfl] at hl ⊢
    obtain ⟨w0, hw0⟩ : ∃ w0, w0 = w.alloc (.cells #[.bool true, .int .i64 xn, .slice (some ⟨g, 0, none⟩) 2 cap] 44) := ⟨_, rfl⟩
    have hB0 : Below w.heap.size w w0 := by rw [hw0]; exact (Below.refl _ _).alloc (Nat.le_refl _) _
    have hX : Bx w0 w.heap.size #[.bool true, .int .i64 xn, .slice (some ⟨g, 0, none⟩) 2 cap] 44 := by rw [hw0]; exact Bx.new _ _ _
    have cX := hX.c
    have HCl : Hid (∀ w', Below w.heap.size w w' → w'.cell? ⟨g, 0, none⟩ = some (.bool ba) ∧ w'.cell? ⟨g, 1, none⟩ = some (.int .i64 na) ∧ w'.cell? ⟨g, 2, none⟩ = some (.slice aad al ac) ∧ w'.cell? ⟨g, 3, none⟩ = some (.bool bb) ∧ w'.cell? ⟨g, 4, none⟩ = some (.int .i64 nb) ∧ w'.cell? ⟨g, 5, none⟩ = some (.slice bad bl bc)) := hide (fun w' hb =>
      ⟨(hb.cell (p := ⟨g, 0, none⟩) hg).trans c0, (hb.cell (p := ⟨g, 1, none⟩) hg).trans c1, (hb.cell (p := ⟨g, 2, none⟩) hg).trans c2, (hb.cell (p := ⟨g, 3, none⟩) hg).trans c3, (hb.cell (p := ⟨g, 4, none⟩) hg).trans c4, (hb.cell (p := ⟨g, 5, none⟩) hg).trans c5⟩)
    have HIa := hide (fun (w' : World) (hb : Below w.heap.size w w') => iha _ P w' (by omega) (h1.below hb))
    have HIb := hide (fun (w' : World) (hb : Below w.heap.size w w') => ihb _ P w' (by omega) (h2.below hb))
    obtain ⟨LA, hLA⟩ : ∃ LA, LA = a.flat.length := ⟨_, rfl⟩
    obtain ⟨LB, hLB⟩ : ∃ LB, LB = b.flat.length := ⟨_, rfl⟩
    rw [← hLA] at HIa hl ⊢
    rw [← hLB] at HIb hl ⊢
    have HW0 := hide hw0
    obtain ⟨q0, q1, q2, -⟩ := HCl.out w0 hB0
    clear hLA hLB hw0 hX iha ihb h1 h2 c0 c1 c2 c3 c4 c5 hfl
    go_enter Try.func30, Try.ntmps30
    go_upto_region 1 with fail
    rw [← HW0.out]
    clear HW0
    go_wp2_with fail
    refine wp_loop_rounds 3 ?_
    rw [rounds_succ]
    go_wp2_with fail
    refine Calls.mono (HIa.out _ (hB0.alloc hB0.size _)) ?_
    rintro e w2 ⟨rfl, hb2⟩
    have hB2 : Below w.heap.size w w2 := (hB0.alloc hB0.size _).trans (hb2.mono (by have := hB0.size; simp; omega))
    obtain ⟨-, -, -, q3, q4, q5⟩ := HCl.out w2 hB2
    clear hb2 q0 q1 q2 cX
    go_wp2_with fail
    rw [rounds_succ]
    go_wp2_with fail
    refine Calls.mono (HIb.out _ (hB2.alloc hB2.size _)) ?_
    rintro e w3 ⟨rfl, hb3⟩
    have hB3 : Below w.heap.size w w3 := (hB2.alloc hB2.size _).trans (hb3.mono (by have := hB2.size; simp; omega))
    clear hb3 q3 q4 q5
    go_wp2_with fail
    rw [rounds_succ]
    go_wp2_with fail
    go_ret
    exact ⟨ret_int (by omega), hB3⟩

def LeafGoal (t : Tr) : Prop := ∀ (u : Value) (P : Nat → Prop) (w : World), t.flat.length ≤ 1048576 → CV w P t u →
    Calls Try.prog 31 #[u] w fun e w' => e = .returned (.int .i64 (t.lvs : Int)) ∧ Below w.heap.size w w'

set_option maxRecDepth 20000 in
set_option maxHeartbeats 4000000 in
theorem l9Leaves_any : ∀ t, LeafGoal t := by
  intro t
  induction t with
  | ret xn =>
    intro u P w hl hT
    obtain rfl : u = .agg #[.bool false, .int .i64 xn, .slice none 0 0] := hT
    have hB : Below w.heap.size w (w.alloc (.cells #[.bool false, .int .i64 xn, .slice none 0 0] 44)) := (Below.refl _ _).alloc (Nat.le_refl _) _
    clear hl
    show Calls _ _ _ _ (fun e w' => e = .returned (.int .i64 1) ∧ Below w.heap.size w w')
    go_enter Try.func31, Try.ntmps31
    go_wp2_with fail
    go_ret
    exact ⟨rfl, hB⟩
  | ask xn a b iha ihb =>
    intro u P w hl hT
    obtain ⟨g, cap, ba, na, sa, bb, nb, sb, rfl, hP, hg, c0, c1, c2, c3, c4, c5, h1, h2⟩ := hT
    obtain ⟨aad, al, ac, ea⟩ : ∃ aad al ac, sa = .slice aad al ac := by obtain ⟨_, _, ad, l, c, e⟩ := h1.form; simp at e; exact ⟨_, _, _, e.2.2⟩
    obtain ⟨bad, bl, bc, eb⟩ : ∃ bad bl bc, sb = .slice bad bl bc := by obtain ⟨_, _, ad, l, c, e⟩ := h2.form; simp at e; exact ⟨_, _, _, e.2.2⟩
    subst ea eb
    have hfl : (Tr.ask xn a b).flat.length = a.flat.length + b.flat.length + 1 := by simp [Tr.flat]
    rw [hfl] at hl
    have hlv1 := a.lvs_le
    have hlv2 := b.lvs_le
    obtain ⟨w0, hw0⟩ : ∃ w0, w0 = w.alloc (.cells #[.bool true, .int .i64 xn, .slice (some ⟨g, 0, none⟩) 2 cap] 44) := ⟨_, rfl⟩
    have hB0 : Below w.heap.size w w0 := by rw [hw0]; exact (Below.refl _ _).alloc (Nat.le_refl _) _
    have hX : Bx w0 w.heap.size #[.bool true, .int .i64 xn, .slice (some ⟨g, 0, none⟩) 2 cap] 44 := by rw [hw0]; exact Bx.new _ _ _
    have HAll : Hid (∀ w', Below w0.heap.size w0 w' → w'.cell? ⟨w.heap.size, 2, none⟩ = some (.slice (some ⟨g, 0, none⟩) 2 cap) ∧ w'.cell? ⟨g, 0, none⟩ = some (.bool ba) ∧ w'.cell? ⟨g, 1, none⟩ = some (.int .i64 na) ∧ w'.cell? ⟨g, 2, none⟩ = some (.slice aad al ac) ∧ w'.cell? ⟨g, 3, none⟩ = some (.bool bb) ∧ w'.cell? ⟨g, 4, none⟩ = some (.int .i64 nb) ∧ w'.cell? ⟨g, 5, none⟩ = some (.slice bad bl bc)) := hide (fun w' hb => by
      have hbb := hB0.trans (hb.mono hB0.size)
      exact ⟨((hX.below hb hX.lt).c 2).trans rfl, (hbb.cell (p := ⟨g, 0, none⟩) hg).trans c0, (hbb.cell (p := ⟨g, 1, none⟩) hg).trans c1, (hbb.cell (p := ⟨g, 2, none⟩) hg).trans c2, (hbb.cell (p := ⟨g, 3, none⟩) hg).trans c3, (hbb.cell (p := ⟨g, 4, none⟩) hg).trans c4, (hbb.cell (p := ⟨g, 5, none⟩) hg).trans c5⟩)
    have cX := hX.c
    have HIa := hide (fun (w' : World) (hb : Below w0.heap.size w0 w') => iha _ P w' (by omega) (h1.below (hB0.trans (hb.mono hB0.size))))
    have HIb := hide (fun (w' : World) (hb : Below w0.heap.size w0 w') => ihb _ P w' (by omega) (h2.below (hB0.trans (hb.mono hB0.size))))
    have HB0 := hide hB0
    show Calls _ _ _ _ (fun e w' => e = .returned (.int .i64 ((a.lvs + b.lvs : Nat) : Int)) ∧ Below w.heap.size w w')
    obtain ⟨LA, hLA⟩ : ∃ LA, LA = a.lvs := ⟨_, rfl⟩
    obtain ⟨LB, hLB⟩ : ∃ LB, LB = b.lvs := ⟨_, rfl⟩
    have hla : LA + LB ≤ 1048576 := by omega
    have hwr : IntKind.i64.wrap ((LA : Int) + (LB : Int)) = (LA : Int) + (LB : Int) := by rw [IntKind.wrap_i64]; omega
    rw [← hLA] at HIa ⊢
    rw [← hLB] at HIb ⊢
    have HW0 := hide hw0
    have HWB0 : Hid (Below w0.heap.size w0 w0.drew) := hide (belowDrew (Below.refl _ _))
    clear hLA hLB hw0 hX iha ihb h1 h2 c0 c1 c2 c3 c4 c5 hfl hB0 hlv1 hlv2 hl
    go_enter Try.func31, Try.ntmps31
    go_upto_region 1 with fail
    rw [← HW0.out]
    clear HW0
    go_wp2_with fail
    clear cX
    obtain ⟨u0, u1, u2, u3, u4, u5, u6⟩ := HAll.out w0.drew HWB0.out
    go_region_held3 (fun w' => w'.cell? ⟨w.heap.size, 2, none⟩ = some (.slice (some ⟨g, 0, none⟩) 2 cap) ∧ w'.cell? ⟨g, 0, none⟩ = some (.bool ba) ∧ w'.cell? ⟨g, 1, none⟩ = some (.int .i64 na) ∧ w'.cell? ⟨g, 2, none⟩ = some (.slice aad al ac) ∧ w'.cell? ⟨g, 3, none⟩ = some (.bool bb) ∧ w'.cell? ⟨g, 4, none⟩ = some (.int .i64 nb) ∧ w'.cell? ⟨g, 5, none⟩ = some (.slice bad bl bc)) (first | (with_reducible exact HAll.out _ HWB0.out) | (with_reducible exact HAll.out _ HWB1.out) | (with_reducible exact HAll.out _ HWB2.out))
      (first
        | ((with_reducible refine Calls.mono (HIb.out _ HWB1.out) ?_); rintro e W2 ⟨rfl, hx⟩; have HWB2 : Hid (Below w0.heap.size w0 W2) := hide (HWB1.out.trans (hx.mono HWB1.out.size)); clear hx)
        | ((with_reducible refine Calls.mono (HIa.out _ HWB0.out) ?_); rintro e W1 ⟨rfl, hx⟩; have HWB1 : Hid (Below w0.heap.size w0 W1) := hide (HWB0.out.trans (hx.mono HWB0.out.size)); clear hx))
    all_goals
      have hBf : Below w.heap.size w W2 := HB0.out.trans (HWB2.out.mono HB0.out.size)
      clear u0 u1 u2 u3 u4 u5 u6
      go_wp2_with fail
      go_ret
      first | exact ⟨ret_int (by omega), hBf⟩ | exact ⟨by rw [hwr]; exact ret_int (by omega), hBf⟩

def WithGoal (y t : Tr) : Prop := ∀ (u v : Value) (P Q : Nat → Prop) (w : World), y.ok → t.ok → CV w P t u → CV w Q y v →
    Calls Try.prog 32 #[u, v] w fun e w' => ∃ z, e = .returned z ∧ CV w' (fun g => w.heap.size ≤ g) (t.wit y) z ∧ Below w.heap.size w w'

set_option maxRecDepth 20000 in
set_option maxHeartbeats 4000000 in
theorem l9With_any (y : Tr) : ∀ t, WithGoal y t := by
  intro t
  induction t with
  | ret xn =>
    intro u v P Q w hyo hok hT hY
    obtain rfl : u = .agg #[.bool false, .int .i64 xn, .slice none 0 0] := hT
    obtain ⟨yb, yn, ya, yl, yc, rfl⟩ := hY.form
    have h1 : 0 ≤ xn ∧ xn ≤ 99 := by simpa [Tr.ok, inB] using hok
    obtain ⟨w0, hw0⟩ : ∃ w0, w0 = ((w.alloc (.cells #[.bool false, .int .i64 xn, .slice none 0 0] 44)).alloc (.cells #[.bool yb, .int .i64 yn, .slice ya yl yc] 44)).alloc (.cells #[.bool false, .int .i64 0, .slice none 0 0] 44) := ⟨_, rfl⟩
    have hB0 : Below w.heap.size w w0 := by rw [hw0]; exact (((Below.refl _ _).alloc (Nat.le_refl _) _).alloc (by simp) _).alloc (by simp; omega) _
    have hXt : Bx w0 w.heap.size #[.bool false, .int .i64 xn, .slice none 0 0] 44 := by rw [hw0]; exact ((Bx.new w _ _).alloc _).alloc _
    have hXy : Bx w0 (w.heap.size + 1) #[.bool yb, .int .i64 yn, .slice ya yl yc] 44 := by
      rw [hw0]
      have := (Bx.new (w.alloc (.cells #[.bool false, .int .i64 xn, .slice none 0 0] 44)) #[.bool yb, .int .i64 yn, .slice ya yl yc] 44).alloc (.cells #[.bool false, .int .i64 0, .slice none 0 0] 44)
      simpa using this
    have hXr : Bx w0 (w.heap.size + 1 + 1) #[.bool false, .int .i64 0, .slice none 0 0] 44 := by
      rw [hw0]
      have := Bx.new ((w.alloc (.cells #[.bool false, .int .i64 xn, .slice none 0 0] 44)).alloc (.cells #[.bool yb, .int .i64 yn, .slice ya yl yc] 44)) #[.bool false, .int .i64 0, .slice none 0 0] 44
      simpa using this
    have HC := hide (l9Add_any xn h1.1 h1.2 y _ Q w0 hyo (hY.below hB0))
    have cT := hXt.c
    have cY := hXy.c
    have HXr := hide hXr
    have HB0 := hide hB0
    have HW0 := hide hw0
    have hlr := hXr.lt
    show Calls _ _ _ _ (fun e w' => ∃ z, e = .returned z ∧ CV w' (fun g => w.heap.size ≤ g) (y.add xn) z ∧ Below w.heap.size w w')
    clear hok hw0 hXt hXy hXr hY hB0 h1
    go_enter Try.func32, Try.ntmps32
    go_upto_region 1 with fail
    rw [← HW0.out]
    clear HW0
    go_wp2_with fail
    refine Calls.mono HC.out ?_
    rintro e w1 ⟨v1, rfl, hv1, hb1⟩
    obtain ⟨zb, zn, za, zl, zc, rfl⟩ := hv1.form
    have HV := hide hv1
    have hXr1 := HXr.out.below hb1 hlr
    have cR := hXr1.c
    have fR := hXr1.f
    have HXr1 := hide hXr1
    have HB1 := hide (HB0.out.trans (hb1.mono HB0.out.size))
    clear hv1 hb1 HC cT cY hXr1
    go_wp2_with fail
    have hR := set3_at HXr1.out (.bool zb) (.int .i64 zn) (.slice za zl zc)
    have r0 := (cell_of_blk hR 0).trans rfl
    have r1 := (cell_of_blk hR 1).trans rfl
    have r2 := (cell_of_blk hR 2).trans rfl
    have hz := HB0.out.size
    refine bodyPost_ret (v := .agg #[.bool zb, .int .i64 zn, .slice za zl zc]) (by simp [results, Try.results32, go_sem, r0, r1, r2]) rfl ⟨_, rfl, ?_, ?_⟩
    · refine HV.out.keep (by show _ ≤ (set3 w1 (w.heap.size + 1 + 1) (.bool zb) (.int .i64 zn) (.slice za zl zc)).heap.size; rw [set3_size]; exact Nat.le_refl _) (fun k h1 h2 => ?_)
      have h1' : w0.heap.size ≤ k := h1
      exact ⟨set3_ne _ _ _ _ _ (by omega), by omega⟩
    · exact below_set3 HB1.out (by omega) _ _ _
  | ask xn a b iha ihb =>
    intro u v P Q w hyo hok hT hY
    obtain ⟨yb, yn, ya, yl, yc, rfl⟩ := hY.form
    obtain ⟨g, cap, ba, na, sa, bb, nb, sb, rfl, hP, hg, c0, c1, c2, c3, c4, c5, h1, h2⟩ := hT
    obtain ⟨aad, al, ac, ea⟩ : ∃ aad al ac, sa = .slice aad al ac := by obtain ⟨_, _, ad, l, c, e⟩ := h1.form; simp at e; exact ⟨_, _, _, e.2.2⟩
    obtain ⟨bad, bl, bc, eb⟩ : ∃ bad bl bc, sb = .slice bad bl bc := by obtain ⟨_, _, ad, l, c, e⟩ := h2.form; simp at e; exact ⟨_, _, _, e.2.2⟩
    subst ea eb
    obtain ⟨w0, hw0⟩ : ∃ w0, w0 = ((w.alloc (.cells #[.bool true, .int .i64 xn, .slice (some ⟨g, 0, none⟩) 2 cap] 44)).alloc (.cells #[.bool yb, .int .i64 yn, .slice ya yl yc] 44)).alloc (.cells #[.bool false, .int .i64 0, .slice none 0 0] 44) := ⟨_, rfl⟩
    have hB0 : Below w.heap.size w w0 := by rw [hw0]; exact (((Below.refl _ _).alloc (Nat.le_refl _) _).alloc (by simp) _).alloc (by simp; omega) _
    have hbT : w0.heap[w.heap.size]? = some (.cells #[.bool true, .int .i64 xn, .slice (some ⟨g, 0, none⟩) 2 cap] 44) := by rw [hw0, heap_alloc_old _ _ (by simp; omega), heap_alloc_old _ _ (by simp)]; exact heap_alloc_new _ _
    have hbY : w0.heap[w.heap.size + 1]? = some (.cells #[.bool yb, .int .i64 yn, .slice ya yl yc] 44) := by
      rw [hw0, heap_alloc_old _ _ (by simp)]
      have := heap_alloc_new (w.alloc (.cells #[.bool true, .int .i64 xn, .slice (some ⟨g, 0, none⟩) 2 cap] 44)) (.cells #[.bool yb, .int .i64 yn, .slice ya yl yc] 44)
      simpa using this
    have hbR : w0.heap[w.heap.size + 1 + 1]? = some (.cells #[.bool false, .int .i64 0, .slice none 0 0] 44) := by
      rw [hw0]
      have := heap_alloc_new ((w.alloc (.cells #[.bool true, .int .i64 xn, .slice (some ⟨g, 0, none⟩) 2 cap] 44)).alloc (.cells #[.bool yb, .int .i64 yn, .slice ya yl yc] 44)) (.cells #[.bool false, .int .i64 0, .slice none 0 0] 44)
      simpa using this
    have hsz0 : w0.heap.size = w.heap.size + 1 + 1 + 1 := by rw [hw0]; simp
    have HW0 := hide hw0
    have HSz := hide hsz0
    have HAll : Hid (∀ w', Below w0.heap.size w0 w' → w'.cell? ⟨w.heap.size, 1, none⟩ = some (.int .i64 xn) ∧ w'.cell? ⟨w.heap.size, 2, none⟩ = some (.slice (some ⟨g, 0, none⟩) 2 cap) ∧ w'.cell? ⟨g, 0, none⟩ = some (.bool ba) ∧ w'.cell? ⟨g, 1, none⟩ = some (.int .i64 na) ∧ w'.cell? ⟨g, 2, none⟩ = some (.slice aad al ac) ∧ w'.cell? ⟨g, 3, none⟩ = some (.bool bb) ∧ w'.cell? ⟨g, 4, none⟩ = some (.int .i64 nb) ∧ w'.cell? ⟨g, 5, none⟩ = some (.slice bad bl bc) ∧ w'.cell? ⟨w.heap.size + 1, 0, none⟩ = some (.bool yb) ∧ w'.cell? ⟨w.heap.size + 1, 1, none⟩ = some (.int .i64 yn) ∧ w'.cell? ⟨w.heap.size + 1, 2, none⟩ = some (.slice ya yl yc)) := hide (fun w' hb => by
      have hgw : g < w0.heap.size := by omega
      have hww : w.heap.size < w0.heap.size := by omega
      have hyw : w.heap.size + 1 < w0.heap.size := by omega
      exact ⟨(hb.cell (p := ⟨w.heap.size, 1, none⟩) hww).trans ((cell_of_blk hbT 1).trans rfl), (hb.cell (p := ⟨w.heap.size, 2, none⟩) hww).trans ((cell_of_blk hbT 2).trans rfl),
        (hb.cell (p := ⟨g, 0, none⟩) hgw).trans ((hB0.cell (p := ⟨g, 0, none⟩) hg).trans c0), (hb.cell (p := ⟨g, 1, none⟩) hgw).trans ((hB0.cell (p := ⟨g, 1, none⟩) hg).trans c1), (hb.cell (p := ⟨g, 2, none⟩) hgw).trans ((hB0.cell (p := ⟨g, 2, none⟩) hg).trans c2),
        (hb.cell (p := ⟨g, 3, none⟩) hgw).trans ((hB0.cell (p := ⟨g, 3, none⟩) hg).trans c3), (hb.cell (p := ⟨g, 4, none⟩) hgw).trans ((hB0.cell (p := ⟨g, 4, none⟩) hg).trans c4), (hb.cell (p := ⟨g, 5, none⟩) hgw).trans ((hB0.cell (p := ⟨g, 5, none⟩) hg).trans c5), (hb.cell (p := ⟨w.heap.size + 1, 0, none⟩) hyw).trans ((cell_of_blk hbY 0).trans rfl), (hb.cell (p := ⟨w.heap.size + 1, 1, none⟩) hyw).trans ((cell_of_blk hbY 1).trans rfl), (hb.cell (p := ⟨w.heap.size + 1, 2, none⟩) hyw).trans ((cell_of_blk hbY 2).trans rfl)⟩)
    have HWB0 : Hid (Below w0.heap.size w0 w0.drew) := hide (belowDrew (Below.refl _ _))
    have HBw : Hid (Below w.heap.size w w0) := hide hB0
    have HbR := hide hbR
    have H1 := hide (h1.below hB0)
    have H2 := hide (h2.below hB0)
    have HIa := hide (fun (w' : World) (hb : Below w0.heap.size w0 w') => iha _ _ P Q w' hyo hok.2.1 ((h1.below hB0).below hb) ((hY.below hB0).below hb))
    have HIb := hide (fun (w' : World) (hb : Below w0.heap.size w0 w') => ihb _ _ P Q w' hyo hok.2.2 ((h2.below hB0).below hb) ((hY.below hB0).below hb))
    have hlR : w.heap.size + 1 + 1 < w0.heap.size := by omega
    have HSet : Hid (∀ (w' : World) (x y z : Value) (B : Obj), Below w0.heap.size w0 w' → ((set3 w' (w.heap.size + 1 + 1) x y z).alloc B).cell? ⟨w.heap.size, 1, none⟩ = some (.int .i64 xn) ∧ ((set3 w' (w.heap.size + 1 + 1) x y z).alloc B).cell? ⟨w.heap.size, 2, none⟩ = some (.slice (some ⟨g, 0, none⟩) 2 cap) ∧ ((set3 w' (w.heap.size + 1 + 1) x y z).alloc B).cell? ⟨g, 0, none⟩ = some (.bool ba) ∧ ((set3 w' (w.heap.size + 1 + 1) x y z).alloc B).cell? ⟨g, 1, none⟩ = some (.int .i64 na) ∧ ((set3 w' (w.heap.size + 1 + 1) x y z).alloc B).cell? ⟨g, 2, none⟩ = some (.slice aad al ac) ∧ ((set3 w' (w.heap.size + 1 + 1) x y z).alloc B).cell? ⟨g, 3, none⟩ = some (.bool bb) ∧ ((set3 w' (w.heap.size + 1 + 1) x y z).alloc B).cell? ⟨g, 4, none⟩ = some (.int .i64 nb) ∧ ((set3 w' (w.heap.size + 1 + 1) x y z).alloc B).cell? ⟨g, 5, none⟩ = some (.slice bad bl bc) ∧ ((set3 w' (w.heap.size + 1 + 1) x y z).alloc B).cell? ⟨w.heap.size + 1, 0, none⟩ = some (.bool yb) ∧ ((set3 w' (w.heap.size + 1 + 1) x y z).alloc B).cell? ⟨w.heap.size + 1, 1, none⟩ = some (.int .i64 yn) ∧ ((set3 w' (w.heap.size + 1 + 1) x y z).alloc B).cell? ⟨w.heap.size + 1, 2, none⟩ = some (.slice ya yl yc)) := hide (fun w' x y z B hb => by
      have hb2 : w0.heap.size ≤ w'.heap.size := hb.size
      have hS : ∀ k, k < w0.heap.size → k ≠ w.heap.size + 1 + 1 → ∀ o, ((set3 w' (w.heap.size + 1 + 1) x y z).alloc B).cell? ⟨k, o, none⟩ = w'.cell? ⟨k, o, none⟩ := fun k hk hn o => World.cell?_of_block (w := w') (a := ⟨k, o, none⟩) (by
        show ((set3 w' (w.heap.size + 1 + 1) x y z).alloc B).heap[k]? = w'.heap[k]?
        rw [heap_alloc_old _ _ (by rw [set3_size]; omega), set3_ne _ _ _ _ _ hn])
      obtain ⟨v0, v1, v2, v3, v4, v5, v6, v7, v8, v9, v10⟩ := HAll.out w' hb
      have k5 : w.heap.size + 1 < w0.heap.size := by have := HSz.out; omega
      have k6 : w.heap.size + 1 ≠ w.heap.size + 1 + 1 := by omega
      have k1 : w.heap.size < w0.heap.size := by have := HSz.out; omega
      have k2 : g < w0.heap.size := by omega
      have k3 : g ≠ w.heap.size + 1 + 1 := by omega
      have k4 : w.heap.size ≠ w.heap.size + 1 + 1 := by omega
      exact ⟨(hS _ k1 k4 _).trans v0, (hS _ k1 k4 _).trans v1, (hS _ k2 k3 _).trans v2, (hS _ k2 k3 _).trans v3, (hS _ k2 k3 _).trans v4, (hS _ k2 k3 _).trans v5, (hS _ k2 k3 _).trans v6, (hS _ k2 k3 _).trans v7, (hS _ k5 k6 _).trans v8, (hS _ k5 k6 _).trans v9, (hS _ k5 k6 _).trans v10⟩)
    clear hY hbY hyo hok hsz0 hw0 hB0 hbT hbR h1 h2 iha ihb c0 c1 c2 c3 c4 c5
    go_enter Try.func32, Try.ntmps32
    go_wp2_with fail
    rw [← HW0.out]
    clear HW0
    obtain ⟨u0, u1, u2, u3, u4, u5, u6, u7, u8, u9, u10⟩ := HAll.out w0.drew HWB0.out
    go_region_held3 (fun w' => w'.cell? ⟨w.heap.size, 1, none⟩ = some (.int .i64 xn) ∧ w'.cell? ⟨w.heap.size, 2, none⟩ = some (.slice (some ⟨g, 0, none⟩) 2 cap) ∧ w'.cell? ⟨g, 0, none⟩ = some (.bool ba) ∧ w'.cell? ⟨g, 1, none⟩ = some (.int .i64 na) ∧ w'.cell? ⟨g, 2, none⟩ = some (.slice aad al ac) ∧ w'.cell? ⟨g, 3, none⟩ = some (.bool bb) ∧ w'.cell? ⟨g, 4, none⟩ = some (.int .i64 nb) ∧ w'.cell? ⟨g, 5, none⟩ = some (.slice bad bl bc) ∧ w'.cell? ⟨w.heap.size + 1, 0, none⟩ = some (.bool yb) ∧ w'.cell? ⟨w.heap.size + 1, 1, none⟩ = some (.int .i64 yn) ∧ w'.cell? ⟨w.heap.size + 1, 2, none⟩ = some (.slice ya yl yc)) (first | (with_reducible exact HAll.out _ HWB0.out) | (with_reducible exact HAll.out _ HWB1.out) | (with_reducible exact HAll.out _ HWB2.out) | (with_reducible exact HAll.out _ HWB3.out) | (with_reducible exact HSet.out _ _ _ _ _ HWB2.out))
      (first
        | ((with_reducible refine Calls.mono (HIb.out _ HWB1.out) ?_); rintro e W2 ⟨Wv2, rfl, hv, hx⟩; have HWB2 : Hid (Below w0.heap.size w0 W2) := hide (HWB1.out.trans (hx.mono HWB1.out.size)); have hs2 : W1.heap.size ≤ W2.heap.size := hx.size; have HV1_2 := hide (HV1.out.below hx); have HV2 := hide hv; obtain ⟨bb2, nb2, ad2, l2, cc2, rfl⟩ := hv.form; have HWB3 : Hid (Below w0.heap.size w0 (W2.alloc (.cells #[.bool bb1, .int .i64 nb1, .slice ad1 l1 cc1, .bool bb2, .int .i64 nb2, .slice ad2 l2 cc2] 44))) := hide (HWB2.out.alloc HWB2.out.size _); have hzr : W2.heap[w.heap.size + 1 + 1]? = some (.cells #[.bool false, .int .i64 0, .slice none 0 0] 44) := (HWB2.out.block (w.heap.size + 1 + 1) hlR).trans HbR.out; have zr0 : W2.cell? ⟨w.heap.size + 1 + 1, 0, none⟩ = some (.bool false) := (cell_of_blk hzr 0).trans rfl; have zr1 : W2.cell? ⟨w.heap.size + 1 + 1, 1, none⟩ = some (.int .i64 0) := (cell_of_blk hzr 1).trans rfl; have zr2 : W2.cell? ⟨w.heap.size + 1 + 1, 2, none⟩ = some (.slice none 0 0) := (cell_of_blk hzr 2).trans rfl; have zrf := unfrozen_of_blk hzr; have HZr := hide hzr; have hlW : w.heap.size + 1 + 1 < W2.heap.size := Nat.lt_of_lt_of_le hlR HWB2.out.size; have hnW : ¬ w.heap.size + 1 + 1 = W2.heap.size := (by omega); have hnW' : ¬ W2.heap.size = w.heap.size + 1 + 1 := (by omega); have hzA : ∀ B : Obj, (W2.alloc B).heap[w.heap.size + 1 + 1]? = some (.cells #[.bool false, .int .i64 0, .slice none 0 0] 44) := (fun B => (heap_alloc_old _ _ hlW).trans hzr); have za0 : ∀ B : Obj, (W2.alloc B).cell? ⟨w.heap.size + 1 + 1, 0, none⟩ = some (.bool false) := (fun B => (cell_of_blk (hzA B) 0).trans rfl); have za1 : ∀ B : Obj, (W2.alloc B).cell? ⟨w.heap.size + 1 + 1, 1, none⟩ = some (.int .i64 0) := (fun B => (cell_of_blk (hzA B) 1).trans rfl); have za2 : ∀ B : Obj, (W2.alloc B).cell? ⟨w.heap.size + 1 + 1, 2, none⟩ = some (.slice none 0 0) := (fun B => (cell_of_blk (hzA B) 2).trans rfl); have zaf : ∀ (B : Obj) i, (W2.alloc B).frozen? ⟨w.heap.size + 1 + 1, i, none⟩ = false := (fun B => unfrozen_of_blk (hzA B)); have HZA := hide hzA; clear hv hx hzr hzA)
        | ((with_reducible refine Calls.mono (HIa.out _ HWB0.out) ?_); rintro e W1 ⟨Wv1, rfl, hv, hx⟩; have HWB1 : Hid (Below w0.heap.size w0 W1) := hide (HWB0.out.trans (hx.mono HWB0.out.size)); have HV1 := hide hv; have hs1 : w0.heap.size ≤ W1.heap.size := hx.size; obtain ⟨bb1, nb1, ad1, l1, cc1, rfl⟩ := hv.form; clear hv hx))
    all_goals
      clear u0 u1 u2 u3 u4 u5 u6 u7 u8 u9 u10 zr0 zr1 zr2 zrf za0 za1 za2 zaf
      go_wp2_with fail
      have hR : ((set3 W2 (w.heap.size + 1 + 1) (.bool true) (.int .i64 xn) (.slice (some ⟨W2.heap.size, 0, none⟩) 2 2)).alloc (.cells #[.bool bb1, .int .i64 nb1, .slice ad1 l1 cc1, .bool bb2, .int .i64 nb2, .slice ad2 l2 cc2] 44)).heap[w.heap.size + 1 + 1]? = some (.cells #[.bool true, .int .i64 xn, .slice (some ⟨W2.heap.size, 0, none⟩) 2 2] 44 (0, 0)) := (heap_alloc_old _ _ (by rw [set3_size]; exact hlW)).trans (set3_at HZr.out _ _ _)
      have hG : ((set3 W2 (w.heap.size + 1 + 1) (.bool true) (.int .i64 xn) (.slice (some ⟨W2.heap.size, 0, none⟩) 2 2)).alloc (.cells #[.bool bb1, .int .i64 nb1, .slice ad1 l1 cc1, .bool bb2, .int .i64 nb2, .slice ad2 l2 cc2] 44)).heap[W2.heap.size]? = some (.cells #[.bool bb1, .int .i64 nb1, .slice ad1 l1 cc1, .bool bb2, .int .i64 nb2, .slice ad2 l2 cc2] 44 (0, 0)) := by
        have := heap_alloc_new (set3 W2 (w.heap.size + 1 + 1) (.bool true) (.int .i64 xn) (.slice (some ⟨W2.heap.size, 0, none⟩) 2 2)) (.cells #[.bool bb1, .int .i64 nb1, .slice ad1 l1 cc1, .bool bb2, .int .i64 nb2, .slice ad2 l2 cc2] 44)
        rw [set3_size] at this
        exact this
      have r0 := (cell_of_blk hR 0).trans rfl
      have r1 := (cell_of_blk hR 1).trans rfl
      have r2 := (cell_of_blk hR 2).trans rfl
      have hk : ∀ k, k ≠ w.heap.size + 1 + 1 → k < W2.heap.size → ((set3 W2 (w.heap.size + 1 + 1) (.bool true) (.int .i64 xn) (.slice (some ⟨W2.heap.size, 0, none⟩) 2 2)).alloc (.cells #[.bool bb1, .int .i64 nb1, .slice ad1 l1 cc1, .bool bb2, .int .i64 nb2, .slice ad2 l2 cc2] 44)).heap[k]? = W2.heap[k]? := fun k hn hlt => (heap_alloc_old _ _ (by rw [set3_size]; exact hlt)).trans (set3_ne _ _ _ _ _ hn)
      have hss : W2.heap.size ≤ ((set3 W2 (w.heap.size + 1 + 1) (.bool true) (.int .i64 xn) (.slice (some ⟨W2.heap.size, 0, none⟩) 2 2)).alloc (.cells #[.bool bb1, .int .i64 nb1, .slice ad1 l1 cc1, .bool bb2, .int .i64 nb2, .slice ad2 l2 cc2] 44)).heap.size := by simp [World.setCell]
      refine bodyPost_ret (v := .agg #[.bool true, .int .i64 xn, .slice (some ⟨W2.heap.size, 0, none⟩) 2 2]) (by simp [results, Try.results32, go_sem, r0, r1, r2]) rfl ⟨_, rfl, ?_, ?_⟩
      · have hz := HSz.out
        refine CV.pair hG (by omega) ?_ ?_
        · exact HV1_2.out.keep hss (fun k h1 h2 => by have h1' : w0.heap.size ≤ k := h1; exact ⟨hk k (by omega) h2, by omega⟩)
        · exact HV2.out.keep hss (fun k h1 h2 => by have h1' : W1.heap.size ≤ k := h1; exact ⟨hk k (by omega) h2, by omega⟩)
      · have hb1 : Below w.heap.size w W2 := HBw.out.trans (HWB2.out.mono HBw.out.size)
        exact (below_set3 hb1 (by omega) _ _ _).alloc (by rw [set3_size]; exact hb1.size) _
end Go.Proofs.Ytaddopoafaojdaa.C

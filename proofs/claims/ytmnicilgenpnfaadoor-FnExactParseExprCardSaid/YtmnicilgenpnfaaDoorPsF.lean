/-
  The specification's one at a number and at a name. Written by build/mk_psf.py. Conditions: at most 1000 tokens.
-/
import Derived.Test.YtmnicilgenpnfaaDoorPsD
namespace Go.Proofs.YtmnicilgenpnfaaDoor.W
open Go.ChangeShapes Go.WideShapes Go.ChangeAt Go.RowKit
set_option linter.unusedVariables false
set_option linter.unusedSimpArgs false

set_option maxRecDepth 20000 in
set_option maxHeartbeats 8000000 in
theorem one_num (g : Nat) (ta : Option Addr) (tc en : Nat) (l : List T.Tk) (p d : Nat) (w : World) (hl : l.length ≤ 1000) (hd : d ≤ 100) (he : EnvS w g ta l) (hb : Bk w g (spC ta l.length tc p en (-1) false) 33) (hlt : p < l.length) (hk : l[p].k = 1) :
    Calls Tryd.prog 18 #[.pointer (some ⟨g, 0, none⟩), .int .i64 (d : Int)] w (SO w g ta tc en l (.ok (.leaf ⟨1, l[p].n, ⟨#[]⟩⟩) (p + 1))) := by
  have hp : p ≤ l.length := by omega
  have hlt2 : (p : Int) < (l.length : Int) := by omega
  have hbq : ((p : Int) == (l.length : Int)) = false := beq_eq_false_iff_ne.2 (by omega)
  have s45 := sq_kind (s := [45]) hlt (by rw [hk]; decide)
  have s33 := sq_kind (s := [33]) hlt (by rw [hk]; decide)
  have s40 := sq_kind (s := [40]) hlt (by rw [hk]; decide)
  unfold SO
  simp only
  have hgl := hb.lt
  have HB := hide hb
  have HE := hide he
  have hd' : ¬ (100 : Int) < (d : Int) := by omega
  have hd0 : (0 : Int) ≤ (d : Int) := by omega
  have hp0 : (0 : Int) ≤ (p : Int) := by omega
  clear hb he
  have c3 : w.cell? ⟨g, 3, none⟩ = some (.int .i64 (-1)) := (HB.out.c 3).trans rfl
  go_enter Tryd.func18, Tryd.ntmps18
  go_upto_region 6 with fail
  obtain ⟨W, hW⟩ : ∃ W, W = w.alloc (.cells #[.int .i64 0, .int .i64 0, .string ⟨#[]⟩, .slice none 0 0] 36) := ⟨_, rfl⟩
  have HGc : Hid (w.grownBy W (some g)) := hide (by rw [hW]; exact gr_alloc (gr_refl w _))
  have HBc : Hid (Bk W g (spC ta l.length tc p en (-1) false) 33) := hide (by rw [hW]; exact HB.out.alloc)
  have HRc : Hid (Bk W w.heap.size #[.int .i64 0, .int .i64 0, .string ⟨#[]⟩, .slice none 0 0] 36) := hide (by rw [hW]; exact heap_alloc_new w _)
  rw [← hW]
  clear hW c3 HB
  have hq := sign_new g ta tc l p en false ⟨#[45]⟩ _ hl hp HBc.out (HE.out.grown HGc.out).row
  rw [show (⟨#[45]⟩ : ByteArray).data.toList = [45] from rfl, s45] at hq
  have HQ := hide hq
  clear hq
  go_wp2_with fail
  refine Calls.mono HQ.out ?_
  rintro e w1 ⟨rfl, hbx⟩
  have HGn := hide (gr_trans HGc.out (gr_below (some g) hbx))
  have HBn := hide (HBc.out.below hbx)
  have HRn := hide (HRc.out.below hbx)
  clear hbx HGc HBc HRc HQ
  have HGc := HGn
  have HBc := HBn
  have HRc := HRn
  clear HGn HBn HRn
  have hq := sign_new g ta tc l p en false ⟨#[33]⟩ _ hl hp HBc.out (HE.out.grown HGc.out).row
  rw [show (⟨#[33]⟩ : ByteArray).data.toList = [33] from rfl, s33] at hq
  have HQ := hide hq
  clear hq
  go_wp2_with fail
  refine Calls.mono HQ.out ?_
  rintro e w2 ⟨rfl, hbx⟩
  have HGn := hide (gr_trans HGc.out (gr_below (some g) hbx))
  have HBn := hide (HBc.out.below hbx)
  have HRn := hide (HRc.out.below hbx)
  clear hbx HGc HBc HRc HQ
  have HGc := HGn
  have HBc := HBn
  have HRc := HRn
  clear HGn HBn HRn
  have hq := sign_new g ta tc l p en false ⟨#[40]⟩ _ hl hp HBc.out (HE.out.grown HGc.out).row
  rw [show (⟨#[40]⟩ : ByteArray).data.toList = [40] from rfl, s40] at hq
  have HQ := hide hq
  clear hq
  go_wp2_with fail
  refine Calls.mono HQ.out ?_
  rintro e w3 ⟨rfl, hbx⟩
  have HGn := hide (gr_trans HGc.out (gr_below (some g) hbx))
  have HBn := hide (HBc.out.below hbx)
  have HRn := hide (HRc.out.below hbx)
  clear hbx HGc HBc HRc HQ
  have HGc := HGn
  have HBc := HBn
  have HRc := HRn
  clear HGn HBn HRn
  have C0 := cell_regrown ((HBc.out.c 0).trans rfl : w3.cell? ⟨g, 0, none⟩ = some (.slice ta l.length tc))
  have C1 := cell_regrown ((HBc.out.c 1).trans rfl : w3.cell? ⟨g, 1, none⟩ = some (.int .i64 (p : Int)))
  obtain ⟨b, o, rfl, hbl, q0, q1, q2, q3⟩ := (HE.out.grown HGc.out).row.tok (Below.refl _ _) hlt
  have hnb : b ≠ g := HE.out.apart b o rfl
  obtain ⟨x, hx⟩ : ∃ x, x = l[p] := ⟨_, rfl⟩
  rw [← hx] at hk q0 q1 q2 q3
  have HX0 := hide hx
  clear hx
  obtain ⟨xk, xn, xt, xa⟩ := x
  simp only at hk q0 q1 q2 q3
  subst hk
  have Q0 := cell_regrown q0
  have Q1 := hide q1
  have Q2 := hide q2
  have Q3 := hide q3
  have Q00 := hide q0
  clear q0 q1 q2 q3
  go_wp2_with fail
  refine wp_region_quiet_below (by kernel_rfl) (by kernel_rfl) ?_
  repeat (go_big_quiet_step (fail))
  refine wpQuiet_nil ?_
  intro _ hw'
  obtain ⟨⟨dq, osq⟩, hw''⟩ := hw'
  subst hw''
  obtain ⟨X, hX⟩ : ∃ X, X = Go.Sort.grow (redrawn w3 dq) osq := ⟨_, rfl⟩
  have HX : Hid (Below w3.heap.size w3 X) := hide (by rw [hX]; exact below_regrown w3 dq osq)
  try simp only [Go.Regrown.d, Go.Regrown.os] at hX ⊢
  rw [← hX]
  have HGx := hide (gr_trans HGc.out (gr_below (some g) HX.out))
  have HBx := hide (HBc.out.below HX.out)
  have HRx := hide (HRc.out.below HX.out)
  have hgX : g < X.heap.size := HBx.out.lt
  have hbX : b < X.heap.size := Nat.lt_of_lt_of_le hbl HX.out.size
  have hwX : w.heap.size < X.heap.size := HRx.out.lt
  have e0 := (HX.out.cell (p := ⟨b, o + p * 4, none⟩) hbl).trans Q00.out
  have e1 := (HX.out.cell (p := ⟨b, o + p * 4 + 1, none⟩) hbl).trans Q1.out
  have e2 := (HX.out.cell (p := ⟨b, o + p * 4 + 2, none⟩) hbl).trans Q2.out
  have e3 := (HX.out.cell (p := ⟨b, o + p * 4 + 3, none⟩) hbl).trans Q3.out
  have d0 : X.cell? ⟨g, 0, none⟩ = some (.slice (some ⟨b, o, none⟩) l.length tc) := (HBx.out.c 0).trans rfl
  have d1 : X.cell? ⟨g, 1, none⟩ = some (.int .i64 (p : Int)) := (HBx.out.c 1).trans rfl
  have HA : Hid (∀ w', Below X.heap.size X w' → w'.cell? ⟨g, 0, none⟩ = some (.slice (some ⟨b, o, none⟩) l.length tc) ∧ w'.cell? ⟨g, 1, none⟩ = some (.int .i64 (p : Int)) ∧ w'.cell? ⟨b, o + p * 4, none⟩ = some (.int .i64 1) ∧ w'.cell? ⟨b, o + p * 4 + 1, none⟩ = some (.int .i64 xn) ∧ w'.cell? ⟨b, o + p * 4 + 2, none⟩ = some (.string xt) ∧ w'.cell? ⟨b, o + p * 4 + 3, none⟩ = some (.int .i64 xa)) := hide (fun w' hb => ⟨(hb.cell (p := ⟨g, 0, none⟩) hgX).trans d0, (hb.cell (p := ⟨g, 1, none⟩) hgX).trans d1, (hb.cell (p := ⟨b, o + p * 4, none⟩) hbX).trans e0, (hb.cell (p := ⟨b, o + p * 4 + 1, none⟩) hbX).trans e1, (hb.cell (p := ⟨b, o + p * 4 + 2, none⟩) hbX).trans e2, (hb.cell (p := ⟨b, o + p * 4 + 3, none⟩) hbX).trans e3⟩)
  clear hX C0 C1 Q0 HGc HBc HRc HX Q00 Q1 Q2 Q3 e0 e1 e2 e3 d0 d1
  have HWd : Hid (Below X.heap.size X X.drew) := hide ⟨rfl, rfl, rfl, Nat.le_refl _, fun _ _ => rfl⟩
  have HWb : Hid (∀ O : Obj, Below X.heap.size X (X.alloc O).drew) := hide (fun O => ⟨rfl, rfl, rfl, by show X.heap.size ≤ (X.alloc O).heap.size; simp, fun k hk => heap_alloc_old _ _ hk⟩)
  obtain ⟨v0, v1, v2, v3, v4, v5⟩ := HA.out X.drew HWd.out
  go_upto_region 23 with fail
  go_region_held3 (fun w' => w'.cell? ⟨g, 0, none⟩ = some (.slice (some ⟨b, o, none⟩) l.length tc) ∧ w'.cell? ⟨g, 1, none⟩ = some (.int .i64 (p : Int)) ∧ w'.cell? ⟨b, o + p * 4, none⟩ = some (.int .i64 1) ∧ w'.cell? ⟨b, o + p * 4 + 1, none⟩ = some (.int .i64 xn) ∧ w'.cell? ⟨b, o + p * 4 + 2, none⟩ = some (.string xt) ∧ w'.cell? ⟨b, o + p * 4 + 3, none⟩ = some (.int .i64 xa)) (first | (with_reducible exact HA.out _ HWd.out) | (with_reducible exact HA.out _ (HWb.out _)) | go_keep) (fail)
  all_goals
    clear v0 v1 v2 v3 v4 v5
    obtain ⟨Y, hY⟩ : ∃ Y, Y = (X.alloc (.cells #[.int .i64 1, .int .i64 xn, .string xt, .int .i64 xa] 44)).drew := ⟨_, rfl⟩
    have HYB : Hid (Below X.heap.size X Y) := hide (by rw [hY]; exact HWb.out _)
    have HKY : Hid (Bk Y X.heap.size #[.int .i64 1, .int .i64 xn, .string xt, .int .i64 xa] 44) := hide (by rw [hY]; exact heap_alloc_new X _)
    rw [← hY]
    have HGY := hide (gr_trans HGx.out (gr_below (some g) HYB.out))
    have HBY := hide (HBx.out.below HYB.out)
    have HRY := hide (HRx.out.below HYB.out)
    have c1 : Y.cell? ⟨g, 1, none⟩ = some (.int .i64 (p : Int)) := (HBY.out.c 1).trans rfl
    have fz := HBY.out.f
    clear hY HYB HGx HBx HRx HA HWd HWb
    go_upto_region 25 with fail
    obtain ⟨U, hU⟩ : ∃ U, U = Y.setCell ⟨g, 1, none⟩ (.int .i64 ((p : Int) + 1)) := ⟨_, rfl⟩
    rw [← hU]
    have HGU : Hid (w.grownBy U (some g)) := hide (by rw [hU]; exact gr_set HGY.out _ _)
    have HBU : Hid (Bk U g (spC (some ⟨b, o, none⟩) l.length tc (p + 1) en (-1) false) 33) := hide (by
      have hz := HBY.out.set 1 (.int .i64 ((p : Int) + 1))
      simp only [spC, List.setIfInBounds_toArray, List.set_cons_zero, List.set_cons_succ] at hz
      rw [hU]; unfold spC; rw [show ((p + 1 : Nat) : Int) = (p : Int) + 1 by omega]; exact hz)
    have HRU : Hid (Bk U w.heap.size #[.int .i64 0, .int .i64 0, .string ⟨#[]⟩, .slice none 0 0] 36) := hide (by rw [hU]; exact HRY.out.other (by omega))
    have HKU : Hid (Bk U X.heap.size #[.int .i64 1, .int .i64 xn, .string xt, .int .i64 xa] 44) := hide (by rw [hU]; exact HKY.out.other (by omega))
    have rc := HRU.out.c
    have rf := HRU.out.f
    have kc := HKU.out.c
    clear hU c1 fz HGY HBY HRY HKY
    go_wp2_with fail
    refine bodyPost_ret (v := l2v ⟨1, xn, ⟨#[]⟩⟩ (.slice none 0 0)) (by simp [results, Tryd.results18, go_sem, l2v, *]) rfl ⟨⟨.slice none 0 0, by show _ = Ending.returned (l2v ⟨1, l[p].n, ⟨#[]⟩⟩ _); rw [← HX0.out], rfl⟩, ?_, ?_⟩
    · exact HBU.out.set4 (by omega)
    · exact gr_set4 HGU.out (Nat.le_refl _)

set_option maxRecDepth 20000 in
set_option maxHeartbeats 8000000 in
theorem one_name (g : Nat) (ta : Option Addr) (tc en : Nat) (l : List T.Tk) (p d : Nat) (w : World) (hl : l.length ≤ 1000) (hd : d ≤ 100) (he : EnvS w g ta l) (hb : Bk w g (spC ta l.length tc p en (-1) false) 33) (hlt : p < l.length) (hk : l[p].k = 2) :
    Calls Tryd.prog 18 #[.pointer (some ⟨g, 0, none⟩), .int .i64 (d : Int)] w (SO w g ta tc en l (.ok (.leaf ⟨2, 0, l[p].t⟩) (p + 1))) := by
  have hp : p ≤ l.length := by omega
  have hlt2 : (p : Int) < (l.length : Int) := by omega
  have hbq : ((p : Int) == (l.length : Int)) = false := beq_eq_false_iff_ne.2 (by omega)
  have s45 := sq_kind (s := [45]) hlt (by rw [hk]; decide)
  have s33 := sq_kind (s := [33]) hlt (by rw [hk]; decide)
  have s40 := sq_kind (s := [40]) hlt (by rw [hk]; decide)
  unfold SO
  simp only
  have hgl := hb.lt
  have HB := hide hb
  have HE := hide he
  have hd' : ¬ (100 : Int) < (d : Int) := by omega
  have hd0 : (0 : Int) ≤ (d : Int) := by omega
  have hp0 : (0 : Int) ≤ (p : Int) := by omega
  clear hb he
  have c3 : w.cell? ⟨g, 3, none⟩ = some (.int .i64 (-1)) := (HB.out.c 3).trans rfl
  go_enter Tryd.func18, Tryd.ntmps18
  go_upto_region 6 with fail
  obtain ⟨W, hW⟩ : ∃ W, W = w.alloc (.cells #[.int .i64 0, .int .i64 0, .string ⟨#[]⟩, .slice none 0 0] 36) := ⟨_, rfl⟩
  have HGc : Hid (w.grownBy W (some g)) := hide (by rw [hW]; exact gr_alloc (gr_refl w _))
  have HBc : Hid (Bk W g (spC ta l.length tc p en (-1) false) 33) := hide (by rw [hW]; exact HB.out.alloc)
  have HRc : Hid (Bk W w.heap.size #[.int .i64 0, .int .i64 0, .string ⟨#[]⟩, .slice none 0 0] 36) := hide (by rw [hW]; exact heap_alloc_new w _)
  rw [← hW]
  clear hW c3 HB
  have hq := sign_new g ta tc l p en false ⟨#[45]⟩ _ hl hp HBc.out (HE.out.grown HGc.out).row
  rw [show (⟨#[45]⟩ : ByteArray).data.toList = [45] from rfl, s45] at hq
  have HQ := hide hq
  clear hq
  go_wp2_with fail
  refine Calls.mono HQ.out ?_
  rintro e w1 ⟨rfl, hbx⟩
  have HGn := hide (gr_trans HGc.out (gr_below (some g) hbx))
  have HBn := hide (HBc.out.below hbx)
  have HRn := hide (HRc.out.below hbx)
  clear hbx HGc HBc HRc HQ
  have HGc := HGn
  have HBc := HBn
  have HRc := HRn
  clear HGn HBn HRn
  have hq := sign_new g ta tc l p en false ⟨#[33]⟩ _ hl hp HBc.out (HE.out.grown HGc.out).row
  rw [show (⟨#[33]⟩ : ByteArray).data.toList = [33] from rfl, s33] at hq
  have HQ := hide hq
  clear hq
  go_wp2_with fail
  refine Calls.mono HQ.out ?_
  rintro e w2 ⟨rfl, hbx⟩
  have HGn := hide (gr_trans HGc.out (gr_below (some g) hbx))
  have HBn := hide (HBc.out.below hbx)
  have HRn := hide (HRc.out.below hbx)
  clear hbx HGc HBc HRc HQ
  have HGc := HGn
  have HBc := HBn
  have HRc := HRn
  clear HGn HBn HRn
  have hq := sign_new g ta tc l p en false ⟨#[40]⟩ _ hl hp HBc.out (HE.out.grown HGc.out).row
  rw [show (⟨#[40]⟩ : ByteArray).data.toList = [40] from rfl, s40] at hq
  have HQ := hide hq
  clear hq
  go_wp2_with fail
  refine Calls.mono HQ.out ?_
  rintro e w3 ⟨rfl, hbx⟩
  have HGn := hide (gr_trans HGc.out (gr_below (some g) hbx))
  have HBn := hide (HBc.out.below hbx)
  have HRn := hide (HRc.out.below hbx)
  clear hbx HGc HBc HRc HQ
  have HGc := HGn
  have HBc := HBn
  have HRc := HRn
  clear HGn HBn HRn
  have C0 := cell_regrown ((HBc.out.c 0).trans rfl : w3.cell? ⟨g, 0, none⟩ = some (.slice ta l.length tc))
  have C1 := cell_regrown ((HBc.out.c 1).trans rfl : w3.cell? ⟨g, 1, none⟩ = some (.int .i64 (p : Int)))
  obtain ⟨b, o, rfl, hbl, q0, q1, q2, q3⟩ := (HE.out.grown HGc.out).row.tok (Below.refl _ _) hlt
  have hnb : b ≠ g := HE.out.apart b o rfl
  obtain ⟨x, hx⟩ : ∃ x, x = l[p] := ⟨_, rfl⟩
  rw [← hx] at hk q0 q1 q2 q3
  have HX0 := hide hx
  clear hx
  obtain ⟨xk, xn, xt, xa⟩ := x
  simp only at hk q0 q1 q2 q3
  subst hk
  have Q0 := cell_regrown q0
  have Q1 := hide q1
  have Q2 := hide q2
  have Q3 := hide q3
  have Q00 := hide q0
  clear q0 q1 q2 q3
  go_wp2_with fail
  refine wp_region_quiet_below (by kernel_rfl) (by kernel_rfl) ?_
  repeat (go_big_quiet_step (fail))
  refine wpQuiet_nil ?_
  intro _ hw'
  obtain ⟨⟨dq, osq⟩, hw''⟩ := hw'
  subst hw''
  obtain ⟨X, hX⟩ : ∃ X, X = Go.Sort.grow (redrawn w3 dq) osq := ⟨_, rfl⟩
  have HX : Hid (Below w3.heap.size w3 X) := hide (by rw [hX]; exact below_regrown w3 dq osq)
  try simp only [Go.Regrown.d, Go.Regrown.os] at hX ⊢
  rw [← hX]
  have HGx := hide (gr_trans HGc.out (gr_below (some g) HX.out))
  have HBx := hide (HBc.out.below HX.out)
  have HRx := hide (HRc.out.below HX.out)
  have hgX : g < X.heap.size := HBx.out.lt
  have hbX : b < X.heap.size := Nat.lt_of_lt_of_le hbl HX.out.size
  have hwX : w.heap.size < X.heap.size := HRx.out.lt
  have e0 := (HX.out.cell (p := ⟨b, o + p * 4, none⟩) hbl).trans Q00.out
  have e1 := (HX.out.cell (p := ⟨b, o + p * 4 + 1, none⟩) hbl).trans Q1.out
  have e2 := (HX.out.cell (p := ⟨b, o + p * 4 + 2, none⟩) hbl).trans Q2.out
  have e3 := (HX.out.cell (p := ⟨b, o + p * 4 + 3, none⟩) hbl).trans Q3.out
  have d0 : X.cell? ⟨g, 0, none⟩ = some (.slice (some ⟨b, o, none⟩) l.length tc) := (HBx.out.c 0).trans rfl
  have d1 : X.cell? ⟨g, 1, none⟩ = some (.int .i64 (p : Int)) := (HBx.out.c 1).trans rfl
  have HA : Hid (∀ w', Below X.heap.size X w' → w'.cell? ⟨g, 0, none⟩ = some (.slice (some ⟨b, o, none⟩) l.length tc) ∧ w'.cell? ⟨g, 1, none⟩ = some (.int .i64 (p : Int)) ∧ w'.cell? ⟨b, o + p * 4, none⟩ = some (.int .i64 2) ∧ w'.cell? ⟨b, o + p * 4 + 1, none⟩ = some (.int .i64 xn) ∧ w'.cell? ⟨b, o + p * 4 + 2, none⟩ = some (.string xt) ∧ w'.cell? ⟨b, o + p * 4 + 3, none⟩ = some (.int .i64 xa)) := hide (fun w' hb => ⟨(hb.cell (p := ⟨g, 0, none⟩) hgX).trans d0, (hb.cell (p := ⟨g, 1, none⟩) hgX).trans d1, (hb.cell (p := ⟨b, o + p * 4, none⟩) hbX).trans e0, (hb.cell (p := ⟨b, o + p * 4 + 1, none⟩) hbX).trans e1, (hb.cell (p := ⟨b, o + p * 4 + 2, none⟩) hbX).trans e2, (hb.cell (p := ⟨b, o + p * 4 + 3, none⟩) hbX).trans e3⟩)
  clear hX C0 C1 Q0 HGc HBc HRc HX Q00 Q1 Q2 Q3 e0 e1 e2 e3 d0 d1
  have HWd : Hid (Below X.heap.size X X.drew) := hide ⟨rfl, rfl, rfl, Nat.le_refl _, fun _ _ => rfl⟩
  have HWb : Hid (∀ O : Obj, Below X.heap.size X (X.alloc O).drew) := hide (fun O => ⟨rfl, rfl, rfl, by show X.heap.size ≤ (X.alloc O).heap.size; simp, fun k hk => heap_alloc_old _ _ hk⟩)
  obtain ⟨v0, v1, v2, v3, v4, v5⟩ := HA.out X.drew HWd.out
  go_upto_region 23 with fail
  go_region_held3 (fun w' => w'.cell? ⟨g, 0, none⟩ = some (.slice (some ⟨b, o, none⟩) l.length tc) ∧ w'.cell? ⟨g, 1, none⟩ = some (.int .i64 (p : Int)) ∧ w'.cell? ⟨b, o + p * 4, none⟩ = some (.int .i64 2) ∧ w'.cell? ⟨b, o + p * 4 + 1, none⟩ = some (.int .i64 xn) ∧ w'.cell? ⟨b, o + p * 4 + 2, none⟩ = some (.string xt) ∧ w'.cell? ⟨b, o + p * 4 + 3, none⟩ = some (.int .i64 xa)) (first | (with_reducible exact HA.out _ HWd.out) | (with_reducible exact HA.out _ (HWb.out _)) | go_keep) (fail)
  all_goals
    clear v0 v1 v2 v3 v4 v5
    obtain ⟨Y, hY⟩ : ∃ Y, Y = (X.alloc (.cells #[.int .i64 2, .int .i64 xn, .string xt, .int .i64 xa] 44)).drew := ⟨_, rfl⟩
    have HYB : Hid (Below X.heap.size X Y) := hide (by rw [hY]; exact HWb.out _)
    have HKY : Hid (Bk Y X.heap.size #[.int .i64 2, .int .i64 xn, .string xt, .int .i64 xa] 44) := hide (by rw [hY]; exact heap_alloc_new X _)
    rw [← hY]
    have HGY := hide (gr_trans HGx.out (gr_below (some g) HYB.out))
    have HBY := hide (HBx.out.below HYB.out)
    have HRY := hide (HRx.out.below HYB.out)
    have c1 : Y.cell? ⟨g, 1, none⟩ = some (.int .i64 (p : Int)) := (HBY.out.c 1).trans rfl
    have fz := HBY.out.f
    clear hY HYB HGx HBx HRx HA HWd HWb
    go_upto_region 25 with fail
    obtain ⟨U, hU⟩ : ∃ U, U = Y.setCell ⟨g, 1, none⟩ (.int .i64 ((p : Int) + 1)) := ⟨_, rfl⟩
    rw [← hU]
    have HGU : Hid (w.grownBy U (some g)) := hide (by rw [hU]; exact gr_set HGY.out _ _)
    have HBU : Hid (Bk U g (spC (some ⟨b, o, none⟩) l.length tc (p + 1) en (-1) false) 33) := hide (by
      have hz := HBY.out.set 1 (.int .i64 ((p : Int) + 1))
      simp only [spC, List.setIfInBounds_toArray, List.set_cons_zero, List.set_cons_succ] at hz
      rw [hU]; unfold spC; rw [show ((p + 1 : Nat) : Int) = (p : Int) + 1 by omega]; exact hz)
    have HRU : Hid (Bk U w.heap.size #[.int .i64 0, .int .i64 0, .string ⟨#[]⟩, .slice none 0 0] 36) := hide (by rw [hU]; exact HRY.out.other (by omega))
    have HKU : Hid (Bk U X.heap.size #[.int .i64 2, .int .i64 xn, .string xt, .int .i64 xa] 44) := hide (by rw [hU]; exact HKY.out.other (by omega))
    have rc := HRU.out.c
    have rf := HRU.out.f
    have kc := HKU.out.c
    clear hU c1 fz HGY HBY HRY HKY
    go_wp2_with fail
    refine bodyPost_ret (v := l2v ⟨2, 0, xt⟩ (.slice none 0 0)) (by simp [results, Tryd.results18, go_sem, l2v, *]) rfl ⟨⟨.slice none 0 0, by show _ = Ending.returned (l2v ⟨2, 0, l[p].t⟩ _); rw [← HX0.out], rfl⟩, ?_, ?_⟩
    · exact HBU.out.set4 (by omega)
    · exact gr_set4 HGU.out (Nat.le_refl _)

end Go.Proofs.YtmnicilgenpnfaaDoor.W

/-
  Some texts of this proof in one: RbV, RbX, GmM.
-/
import Derived.Test.YtdajalchdbgooaaRbU
import Derived.Test.YtdajalchdbgooaaJ17
import Derived.Test.YtdajalchdbgooaaJ07
import Derived.Lib.SmallJoins
import Derived.ChangeOld
import Derived.Below
/-
  l6Back: a value of a good machine read back. Conditions: a good machine.
-/
namespace Go.Proofs.Ytdajalchdbgooaa.W
open Go.ChangeShapes Go.WideShapes Go.ChangeAt Go.RowKit
set_option linter.unusedVariables false

set_option maxRecDepth 20000 in
set_option maxHeartbeats 4000000 in
theorem back_num (cb0 : Nat) (ad : Option Addr) (c : Nat) (l : List Cc) (mv : Value) (m : Mc) (v : Vl) (hv : v.fn = false) : BkV cb0 ad c l mv m (numT v.num) v := by
  intro w hE
  obtain ⟨vf, vn, vp, ve⟩ := v
  simp only at *
  have HE := hide hE
  have hmr := hE.mr
  obtain ⟨af, cf, av, cv', ab, cb', rfl, -⟩ := hmr
  obtain ⟨w0, hw0⟩ : ∃ w0, w0 = ((w.alloc (.cells #[.bool m.done, .int .i64 m.pl, .int .i64 m.env, .int .i64 m.val, .slice af m.fs.length cf, .slice av m.vs.length cv', .slice ab m.bs.length cb'] 28)).alloc (.cells #[.bool vf, .int .i64 vn, .int .i64 vp, .int .i64 ve] 74)).alloc (.cells #[.int .i64 0, .int .i64 0, .slice none 0 0] 102) := ⟨_, rfl⟩
  have hB0 : Below w.heap.size w w0 := by rw [hw0]; exact (((Below.refl _ _).alloc (Nat.le_refl _) _).alloc (by simp) _).alloc (by simp; omega) _
  have hsz0 : w0.heap.size = w.heap.size + 1 + 1 + 1 := by rw [hw0]; simp
  have hbM : Bx w0 w.heap.size #[.bool m.done, .int .i64 m.pl, .int .i64 m.env, .int .i64 m.val, .slice af m.fs.length cf, .slice av m.vs.length cv', .slice ab m.bs.length cb'] 28 := by rw [hw0]; exact ((Bx.new _ _ _).alloc _).alloc _
  have hbV : Bx w0 (w.heap.size + 1) #[.bool vf, .int .i64 vn, .int .i64 vp, .int .i64 ve] 74 := by
    have := Bx.new (w.alloc (.cells #[.bool m.done, .int .i64 m.pl, .int .i64 m.env, .int .i64 m.val, .slice af m.fs.length cf, .slice av m.vs.length cv', .slice ab m.bs.length cb'] 28)) #[.bool vf, .int .i64 vn, .int .i64 vp, .int .i64 ve] 74
    rw [hw0]
    exact Bx.alloc (by simpa using this) _
  have hbR : Bx w0 (w.heap.size + 1 + 1) #[.int .i64 0, .int .i64 0, .slice none 0 0] 102 := by
    have := Bx.new ((w.alloc (.cells #[.bool m.done, .int .i64 m.pl, .int .i64 m.env, .int .i64 m.val, .slice af m.fs.length cf, .slice av m.vs.length cv', .slice ab m.bs.length cb'] 28)).alloc (.cells #[.bool vf, .int .i64 vn, .int .i64 vp, .int .i64 ve] 74)) #[.int .i64 0, .int .i64 0, .slice none 0 0] 102
    rw [hw0]
    simpa using this
  subst hv
  have HB0 := hide hB0
  have HW0 := hide hw0
  clear hw0 hE hB0 hsz0 hbM hbV hbR
  go_enter Try.func60, Try.ntmps60
  go_wp2_with fail
  have hre : Bx (((w.alloc (.cells #[.bool m.done, .int .i64 m.pl, .int .i64 m.env, .int .i64 m.val, .slice af m.fs.length cf, .slice av m.vs.length cv', .slice ab m.bs.length cb'] 28)).alloc (.cells #[.bool false, .int .i64 vn, .int .i64 vp, .int .i64 ve] 74)).alloc (.cells #[.int .i64 2, .int .i64 vn, .slice none 0 0] 102)) (w.heap.size + 1 + 1) #[.int .i64 2, .int .i64 vn, .slice none 0 0] 102 := by
    have := Bx.new ((w.alloc (.cells #[.bool m.done, .int .i64 m.pl, .int .i64 m.env, .int .i64 m.val, .slice af m.fs.length cf, .slice av m.vs.length cv', .slice ab m.bs.length cb'] 28)).alloc (.cells #[.bool false, .int .i64 vn, .int .i64 vp, .int .i64 ve] 74)) #[.int .i64 2, .int .i64 vn, .slice none 0 0] 102
    simpa using this
  have s0 := (hre.c 0).trans rfl
  have s1 := (hre.c 1).trans rfl
  have s2 := (hre.c 2).trans rfl
  refine bodyPost_ret (v := .tuple #[.agg #[.int .i64 2, .int .i64 vn, .slice none 0 0], .bool true]) (by simp [results, Try.results60, go_sem, s0, s1, s2]) rfl ⟨?_, (((Below.refl _ _).alloc (Nat.le_refl _) _).alloc (by simp) _).alloc (by simp; omega) _⟩
  unfold SpV
  rw [if_pos (by simp [numT, F.flat])]
  exact ⟨⟨2, vn⟩, .nil, _, rfl, rfl, KidT.nil⟩

set_option maxRecDepth 20000 in
set_option maxHeartbeats 8000000 in
theorem back_fn (cb0 : Nat) (ad : Option Addr) (c : Nat) (l : List Cc) (mv : Value) (m : Mc) (v : Vl) (T : F) (p : Nat) (x : Cc) (k : F) (r : List Cc) (hv : v.fn = true) (hp : v.pl = (p : Int)) (hpl : p < l.length) (hl : l.length ≤ 1048576) (hr : rt 1 (l.drop p) = some (.cons x k .nil, r))
    (hF : ∀ (w : World) (s : Value) (P : Nat → Prop), KidT w P k s → SpE w cb0 ad c l mv m → Calls Try.prog 85 #[.pointer (some ⟨cb0, 0, none⟩), mv, .agg #[.int .i64 x.k, .int .i64 x.n, s], .int .i64 v.env, .int .i64 0] w fun e w' => SpV w' w.heap.size T e ∧ Below w.heap.size w w') : BkV cb0 ad c l mv m T v := by
  intro w hE
  obtain ⟨vf, vn, vp, ve⟩ := v
  simp only at *
  have HE := hide hE
  have hmr := hE.mr
  obtain ⟨af, cf, av, cv', ab, cb', rfl, -⟩ := hmr
  obtain ⟨w0, hw0⟩ : ∃ w0, w0 = ((w.alloc (.cells #[.bool m.done, .int .i64 m.pl, .int .i64 m.env, .int .i64 m.val, .slice af m.fs.length cf, .slice av m.vs.length cv', .slice ab m.bs.length cb'] 28)).alloc (.cells #[.bool vf, .int .i64 vn, .int .i64 vp, .int .i64 ve] 74)).alloc (.cells #[.int .i64 0, .int .i64 0, .slice none 0 0] 102) := ⟨_, rfl⟩
  have hB0 : Below w.heap.size w w0 := by rw [hw0]; exact (((Below.refl _ _).alloc (Nat.le_refl _) _).alloc (by simp) _).alloc (by simp; omega) _
  have hsz0 : w0.heap.size = w.heap.size + 1 + 1 + 1 := by rw [hw0]; simp
  have hbM : Bx w0 w.heap.size #[.bool m.done, .int .i64 m.pl, .int .i64 m.env, .int .i64 m.val, .slice af m.fs.length cf, .slice av m.vs.length cv', .slice ab m.bs.length cb'] 28 := by rw [hw0]; exact ((Bx.new _ _ _).alloc _).alloc _
  have hbV : Bx w0 (w.heap.size + 1) #[.bool vf, .int .i64 vn, .int .i64 vp, .int .i64 ve] 74 := by
    have := Bx.new (w.alloc (.cells #[.bool m.done, .int .i64 m.pl, .int .i64 m.env, .int .i64 m.val, .slice af m.fs.length cf, .slice av m.vs.length cv', .slice ab m.bs.length cb'] 28)) #[.bool vf, .int .i64 vn, .int .i64 vp, .int .i64 ve] 74
    rw [hw0]
    exact Bx.alloc (by simpa using this) _
  have hbR : Bx w0 (w.heap.size + 1 + 1) #[.int .i64 0, .int .i64 0, .slice none 0 0] 102 := by
    have := Bx.new ((w.alloc (.cells #[.bool m.done, .int .i64 m.pl, .int .i64 m.env, .int .i64 m.val, .slice af m.fs.length cf, .slice av m.vs.length cv', .slice ab m.bs.length cb'] 28)).alloc (.cells #[.bool vf, .int .i64 vn, .int .i64 vp, .int .i64 ve] 74)) #[.int .i64 0, .int .i64 0, .slice none 0 0] 102
    rw [hw0]
    simpa using this
  subst hv
  subst hp
  have HF := hide hF
  have HRd : Hid (∀ w', Below w0.heap.size w0 w' → Calls Try.prog 84 #[.slice ad l.length c, .int .i64 (p : Int)] w' fun e w'' => Below w'.heap.size w' w'' ∧ ∃ s, e = .returned (.tuple #[.agg #[.int .i64 x.k, .int .i64 x.n, s], .int .i64 ((l.length - r.length : Nat) : Int)]) ∧ KidT w'' (fun g => w'.heap.size ≤ g) k s) := hide (fun w' hb => by
    have := l3Read_any l.length ad c l p w' hl ((HE.out.row.below hB0).below hb) (by omega) (by omega)
    unfold TRdGoal at this
    rw [hr] at this
    refine Calls.mono this ?_
    rintro e w'' ⟨hb', x', k', s, e1, e2, e3⟩
    simp only [F.cons.injEq, and_true] at e1
    obtain ⟨rfl, rfl⟩ := e1
    exact ⟨hb', s, e2, e3⟩)
  obtain ⟨LN, hLN⟩ : ∃ LN, LN = l.length - r.length := ⟨_, rfl⟩
  rw [← hLN] at HRd
  have HB0 := hide hB0
  have HSz := hide hsz0
  have HBM := hide hbM
  have HBV := hide hbV
  have HBR := hide hbR
  have HW0 := hide hw0
  have hcl := World.block_lt_of_cell? w _ hE.code
  have hcode : w0.cell? ⟨cb0, 0, none⟩ = some (.slice ad l.length c) := (hB0.cell (p := ⟨cb0, 0, none⟩) hcl).trans hE.code
  have hs0 := hB0.size
  have hc0 : cb0 < w0.heap.size := Nat.lt_of_lt_of_le hcl hs0
  have hv0 : w.heap.size + 1 < w0.heap.size := by omega
  have HAll : Hid (∀ w', Below w0.heap.size w0 w' → w'.cell? ⟨cb0, 0, none⟩ = some (.slice ad l.length c) ∧ w'.cell? ⟨w.heap.size + 1, 2, none⟩ = some (.int .i64 (p : Int))) := hide (fun w' hb => ⟨(hb.cell (p := ⟨cb0, 0, none⟩) hc0).trans hcode, (hb.cell (p := ⟨w.heap.size + 1, 2, none⟩) hv0).trans ((hbV.c 2).trans rfl)⟩)
  have HBd : Hid (Below w0.heap.size w0 w0.drew) := hide ⟨rfl, rfl, rfl, Nat.le_refl _, fun _ _ => rfl⟩
  have HBa : Hid (Below w0.heap.size w0 (w0.alloc (.cells #[.int .i64 0, .int .i64 0, .slice none 0 0] 102)).drew) := hide (belowDrew (blF _ _))
  have HCl := hide hcl
  obtain ⟨u0, u1⟩ := HAll.out w0.drew HBd.out
  obtain ⟨t0, t1⟩ := HAll.out (w0.alloc (.cells #[.int .i64 0, .int .i64 0, .slice none 0 0] 102)).drew HBa.out
  clear hw0 hE hB0 hsz0 hbM hbV hbR hF hr hLN hcl hcode hs0 hl
  go_enter Try.func60, Try.ntmps60
  go_wp2_with fail
  rw [← HW0.out]
  clear HW0
  go_cut [8, 9] from 16 to 25 (fun v8 v9 wx => ∃ (b : Nat) (ta : Option Addr) (tn tc : Nat), v8 = .pointer (some ⟨b, 0, none⟩) ∧ wx.heap[b]? = some (.cells #[.int .i64 x.k, .int .i64 x.n, .slice ta tn tc] 102 (0, 0)) ∧ KidT wx (fun g => w0.heap.size ≤ g) k (.slice ta tn tc) ∧ Below w0.heap.size w0 wx)
  case first =>
    go_region_held3 (fun w' => w'.cell? ⟨cb0, 0, none⟩ = some (.slice ad l.length c) ∧ w'.cell? ⟨w.heap.size + 1, 2, none⟩ = some (.int .i64 (p : Int))) (first | (with_reducible exact HAll.out _ HBd.out) | (with_reducible exact HAll.out _ HBa.out) | (with_reducible exact HAll.out _ HX1.out) | (with_reducible exact HAll.out _ (HX1.out.alloc HX1.out.size _)) | (with_reducible exact HAll.out _ (below_fill3 HX1.out (b := w0.heap.size) (Nat.le_refl _) _ _ _)))
      (first
        | ((with_reducible refine Calls.mono (HRd.out _ (by first | exact HBd.out | exact HBa.out)) ?_); rintro e W1 ⟨hx, ts, rfl, htk⟩; have HX1 : Hid (Below w0.heap.size w0 W1) := hide (by first | exact HBd.out.trans (hx.mono HBd.out.size) | exact HBa.out.trans (hx.mono HBa.out.size)); (try have zb : W1.heap[w0.heap.size]? = some (.cells #[.int .i64 0, .int .i64 0, .slice none 0 0] 102) := (hx.block w0.heap.size (show w0.heap.size < (w0.alloc (.cells #[.int .i64 0, .int .i64 0, .slice none 0 0] 102)).heap.size by simp)).trans (heap_alloc_new _ _)); (try have zc0 : W1.cell? ⟨w0.heap.size, 0, none⟩ = some (.int .i64 0) := (cell_of_blk zb 0).trans rfl); (try have zc1 : W1.cell? ⟨w0.heap.size, 1, none⟩ = some (.int .i64 0) := (cell_of_blk zb 1).trans rfl); (try have zc2 : W1.cell? ⟨w0.heap.size, 2, none⟩ = some (.slice none 0 0) := (cell_of_blk zb 2).trans rfl); (try have zf := unfrozen_of_blk zb); (try have hzb := hide zb; clear zb); have HTk := hide htk; obtain ⟨ta, tc, rfl⟩ := htk.form; obtain ⟨tn, htn⟩ : ∃ tn, tn = k.len := ⟨_, rfl⟩; rw [← htn] at HTk ⊢; clear htk htn hx))
    all_goals
      go_wp2_with fail
      first
        | (go_meet; exact ⟨W1.heap.size, ta, tn, tc, rfl, heap_alloc_new _ _, (HTk.out.below (blF _ _)).weak (fun g hg _ => hg), HX1.out.alloc HX1.out.size _⟩)
        | (go_meet; exact ⟨w0.heap.size, ta, tn, tc, rfl, fill3_at hzb.out _ _ _, (kid_fill3 (lo := (w0.alloc (.cells #[.int .i64 0, .int .i64 0, .slice none 0 0] 102)).drew.heap.size) HTk.out (show w0.heap.size < (w0.alloc (.cells #[.int .i64 0, .int .i64 0, .slice none 0 0] 102)).heap.size by simp) _ _ _).weak (fun g hg _ => by have h' : (w0.alloc (.cells #[.int .i64 0, .int .i64 0, .slice none 0 0] 102)).heap.size ≤ g := hg; simp at h'; omega), below_fill3 HX1.out (Nat.le_refl _) _ _ _⟩)
  case rest =>
    obtain ⟨b, ta, tn, tc, rfl, hbb, hTk, hBc⟩ := hcut
    have c0 : wc.cell? ⟨b, 0, none⟩ = some (.int .i64 x.k) := (cell_of_blk hbb 0).trans rfl
    have c1 : wc.cell? ⟨b, 1, none⟩ = some (.int .i64 x.n) := (cell_of_blk hbb 1).trans rfl
    have c2 : wc.cell? ⟨b, 2, none⟩ = some (.slice ta tn tc) := (cell_of_blk hbb 2).trans rfl
    have hsz0 := HSz.out
    have hM := HBM.out.below hBc (by omega)
    have hV := HBV.out.below hBc (by omega)
    have hR := HBR.out.below hBc (by omega)
    have m0 := (hM.c 0).trans rfl
    have m1 := (hM.c 1).trans rfl
    have m2 := (hM.c 2).trans rfl
    have m3 := (hM.c 3).trans rfl
    have m4 := (hM.c 4).trans rfl
    have m5 := (hM.c 5).trans rfl
    have m6 := (hM.c 6).trans rfl
    have v3 := (hV.c 3).trans rfl
    have HR := hide hR
    have hRl := hR.lt
    have HBw : Hid (Below w.heap.size w wc) := hide (HB0.out.trans (hBc.mono HB0.out.size))
    have HCf := hide (HF.out wc (.slice ta tn tc) _ hTk (HE.out.below HBw.out))
    have HBs := hide HBw.out.size
    clear hbb hTk hBc hsz0 hM hV hR u0 u1 t0 t1
    go_wp2_with fail
    refine Calls.mono HCf.out ?_
    rintro e w2 ⟨hv, hb2⟩
    have hR2 : Bx w2 (w.heap.size + 1 + 1) #[.int .i64 0, .int .i64 0, .slice none 0 0] 102 := HR.out.below hb2 hRl
    have HR2 := hide hR2
    have r0 : w2.cell? ⟨w.heap.size + 1 + 1, 0, none⟩ = some (.int .i64 0) := (hR2.c 0).trans rfl
    have r1 : w2.cell? ⟨w.heap.size + 1 + 1, 1, none⟩ = some (.int .i64 0) := (hR2.c 1).trans rfl
    have r2 : w2.cell? ⟨w.heap.size + 1 + 1, 2, none⟩ = some (.slice none 0 0) := (hR2.c 2).trans rfl
    have rf := hR2.f
    have HB2 := hide (HBw.out.trans (hb2.mono HBw.out.size))
    have HRl := hide hRl
    clear hb2 c0 c1 c2 m0 m1 m2 m3 m4 m5 m6 v3 hR2 hRl
    unfold SpV at hv
    by_cases h6 : T.flat.length ≤ 600
    · rw [if_pos h6] at hv
      obtain ⟨tx, tk, ts, hTe, rfl, hkt⟩ := hv
      have HKt := hide hkt
      have HTe := hide hTe
      obtain ⟨ua, uc, rfl⟩ := hkt.form
      obtain ⟨un, hun⟩ : ∃ un, un = tk.len := ⟨_, rfl⟩
      rw [← hun] at HKt ⊢
      clear hkt hun hTe
      go_wp2_with fail
      have hre := fill3_at HR2.out (.int .i64 tx.k) (.int .i64 tx.n) (.slice ua un uc)
      have s0 := (cell_of_blk hre 0).trans rfl
      have s1 := (cell_of_blk hre 1).trans rfl
      have s2 := (cell_of_blk hre 2).trans rfl
      have hbs := HBs.out
      refine bodyPost_ret (v := .tuple #[.agg #[.int .i64 tx.k, .int .i64 tx.n, .slice ua un uc], .bool true]) (by simp [results, Try.results60, go_sem, s0, s1, s2]) rfl ⟨?_, below_fill3 HB2.out (by omega) _ _ _⟩
      unfold SpV
      rw [if_pos h6]
      exact ⟨tx, tk, _, HTe.out, rfl, (kid_fill3 (lo := wc.heap.size) HKt.out HRl.out _ _ _).weak (fun g hg _ => by have h' : wc.heap.size ≤ g := hg; omega)⟩
    · rw [if_neg h6] at hv
      subst hv
      go_wp2_with fail
      have hre := fill3_at HR2.out (.int .i64 0) (.int .i64 0) (.slice none 0 0)
      have s0 := (cell_of_blk hre 0).trans rfl
      have s1 := (cell_of_blk hre 1).trans rfl
      have s2 := (cell_of_blk hre 2).trans rfl
      refine bodyPost_ret (v := .tuple #[.agg #[.int .i64 0, .int .i64 0, .slice none 0 0], .bool false]) (by simp [results, Try.results60, go_sem, s0, s1, s2]) rfl ⟨?_, below_fill3 HB2.out (by omega) _ _ _⟩
      unfold SpV
      rw [if_neg h6]
theorem l6Back_any (cb0 : Nat) (ad : Option Addr) (c : Nat) (l : List Cc) (a : F) (mv : Value) (m : Mc) (hC : Cl l a) (h : GM a l m) (hle : BLens m) : ∀ (f j : Nat), j < f → (hj : j < m.vs.length) → BkV cb0 ad c l mv m (rbT l m.vs m.bs f (j : Int)) m.vs[j]
  | 0, j, hjf, _ => by omega
  | f + 1, j, hjf, hj => by
    have e0 : m.vs[((j : Int)).toNat]? = some m.vs[j] := by simp [hj]
    by_cases hf : m.vs[j].fn = true
    · obtain ⟨x, k, r, hr, hx, hg, hk, ho, hfb, p0, p1, he, h0, hlt, hkl, -⟩ := val_part hC h hj hf
      have eT : rbT l m.vs m.bs (f + 1) (j : Int) = fil (rbT l m.vs m.bs f) m.bs m.vs[j].env 0 0 0 (.cons x k .nil) := by
        rw [rbT, e0]
        simp only
        rw [if_pos hf, hr]
      rw [eT]
      obtain ⟨p, hp⟩ := Int.eq_ofNat_of_zero_le p0
      have hl6 := hC.le
      obtain ⟨b1, b2, -⟩ := hfb
      have hLF := l6Fill_any cb0 ad c l mv m (rbT l m.vs m.bs f) m.vs[j].env (bw m.bs m.vs[j].env).1.toNat (rbT_len _ _ _ f) h.bs hle he (by omega) (fun q hq => by
        have q1 := lkB_ok h.bs q m.vs[j].env he.2 (by omega)
        have q2 := lkB_le h.bs q m.vs[j].env he.2 (by omega)
        obtain ⟨i, hi⟩ := Int.eq_ofNat_of_zero_le q1.1
        have hi2 : i < m.vs.length := by omega
        exact ⟨i, hi2, hi, l6Back_any cb0 ad c l a mv m hC h hle f i (by omega) hi2⟩) k
      rw [hp, Int.toNat_natCast] at hr
      refine back_fn cb0 ad c l mv m m.vs[j] _ p x k r hf hp (by omega) (by omega) hr (fun w s P hK hE => ?_)
      exact hLF x s P w 0 hg hk ho (fun h1 => by rw [hx] at h1; exact absurd h1 (by decide)) (by simpa [binds] using b2) (by omega) hK hE
    · have hf' : m.vs[j].fn = false := by simpa using hf
      have eT : rbT l m.vs m.bs (f + 1) (j : Int) = numT m.vs[j].num := by
        rw [rbT, e0]
        simp only
        rw [if_neg hf]
      rw [eT]
      exact back_num cb0 ad c l mv m m.vs[j] hf'
end Go.Proofs.Ytdajalchdbgooaa.W

/-
  ReadBack of the specification. Conditions: at most 1048576 cells.
-/
namespace Go.Proofs.Ytdajalchdbgooaa.W
open Go.ChangeShapes Go.WideShapes Go.ChangeAt Go.RowKit
set_option linter.unusedVariables false

set_option maxRecDepth 20000 in
set_option maxHeartbeats 8000000 in
theorem specBack_any (ad : Option Addr) (c : Nat) (l : List Cc) (v : Value) (m : Mc) (w : World) (hl : l.length ≤ 1048576) (h : CRow w ad l) (hm : MRow w v m) :
    Calls Try.prog 25 #[.slice ad l.length c, v] w fun e w' => ∃ s', e = .returned (.tuple #[s', .bool (bkB l m)]) ∧ w'.ownsRow w.heap.size 59 2 s' (bkL l m).length (cv (bkL l m)) ∧ Below w.heap.size w w' := by
  have HM := hide hm
  obtain ⟨af, cf, av, cv', ab, cb', rfl, h1, h2, h3, h4, h5, h6, h7, h8, h9⟩ := hm
  have hb0 : Below w.heap.size w (w.alloc (.cells #[.bool m.done, .int .i64 m.pl, .int .i64 m.env, .int .i64 m.val, .slice af m.fs.length cf, .slice av m.vs.length cv', .slice ab m.bs.length cb'] 28)) := (Below.refl _ _).alloc (Nat.le_refl _) _
  cases hc : closedT l with
  | none =>
    have HC := hide (fun (w' : World) (hb : Below w.heap.size w w') => l6Of_none ad c l w' hl (h.below hb) hc)
    have hbo : bkO l m = false := by unfold bkO goodM; rw [hc]; rfl
    have hbb : bkB l m = false := by unfold bkB; rw [hbo]; rfl
    have hbl : bkL l m = [] := by unfold bkL; rw [hbo]; rfl
    rw [hbb, hbl]
    clear h hc hbo hbb hbl h1 h2 h3 HM
    go_enter Try.func25, Try.ntmps25
    go_wp2_with fail
    refine (HC.out _ hb0).mono ?_
    rintro r w1 ⟨rfl, hb1⟩
    have HB1 := hide (hb0.trans (hb1.mono (by simp)))
    clear hb1 hb0
    go_wp2_with fail
    exact bodyPost_ret (v := .tuple #[.slice none 0 0, .bool false]) (by simp [results, Try.results25, go_sem]) rfl ⟨_, rfl, World.ownsRow_nil _ _ _ _, HB1.out⟩
  | some a =>
    have HC := hide (fun (w' : World) (hb : Below w.heap.size w w') => l6Of_some ad c l a w' (h.below hb) hc)
    have HG := hide (fun (w' : World) (cb0 : Nat) (hb : Below w.heap.size w w') (hcd : CD w' cb0 (.slice ad l.length c) l.length a) => l6Good_any cb0 ad c l a _ m w' (closedT_some hc).1 hcd (h.below hb) (HM.out.below hb))
    have hgm : goodM l m = gM a l m := by unfold goodM; rw [hc]
    rw [← hgm] at HG
    have HCD := hide (fun (w' : World) (cb0 : Nat) (hcd : CD w' cb0 (.slice ad l.length c) l.length a) => (by
      obtain ⟨kb, vb, q, -⟩ := hcd.ex
      exact (q.c 0).trans rfl : w'.cell? ⟨cb0, 0, none⟩ = some (.slice ad l.length c)))
    by_cases hO : goodM l m = true ∧ m.done = true ∧ m.fs.length = 0
    · obtain ⟨g1, g2, g3⟩ := hO
      obtain ⟨a', hca, hC, hGM, j, hv, hjl⟩ := bk_good g1 g2
      obtain ⟨-, -, r3, r4⟩ := bk_run hC hGM hv hjl
      have hbo : bkO l m = decide ((bkT l m).flat.length ≤ 600) := by unfold bkO; rw [g1, g2, decide_eq_true g3]; simp
      have HBO := hide hbo
      have hlens : BLens m := ⟨hGM.nb, hGM.nv⟩
      have hTe : bkT l m = rbT l m.vs m.bs m.vs.length (j : Int) := by unfold bkT; rw [hv]
      have HBk0 := hide (fun (cb0 : Nat) (w' : World) (hb : Below w.heap.size w w') (hcode : w'.cell? ⟨cb0, 0, none⟩ = some (.slice ad l.length c)) => l6Back_any cb0 ad c l a' _ m hC hGM hlens m.vs.length j hjl hjl w' ⟨hcode, h.below hb, HM.out.below hb⟩)
      rw [← hTe] at HBk0
      have hb0' := hb0
      rw [g1] at HG
      rw [g2, hv, g3] at HG HBk0 hb0
      rw [g2, hv, g3]
      have HV := hide h2
      obtain ⟨T, hT⟩ : ∃ T, T = bkT l m := ⟨_, rfl⟩
      rw [← hT] at HBk0 HBO
      have HT := hide hT
      have HTok := hide r3
      have hjv : (j : Int) < (m.vs.length : Int) := by omega
      clear hca hC hGM r3 r4 h1 h2 h3 hbo hTe hT HM g1 g3 hv hgm hlens hb0' hc h
      go_enter Try.func25, Try.ntmps25
      go_wp2_with fail
      refine (HC.out _ hb0).mono ?_
      rintro r w1 ⟨cb0, rfl, hcd, -, hb1⟩
      have hBm : Bx w1 w.heap.size #[.bool true, .int .i64 m.pl, .int .i64 m.env, .int .i64 (j : Int), .slice af 0 cf, .slice av m.vs.length cv', .slice ab m.bs.length cb'] 28 := (hb1.block _ (by simp)).trans (heap_alloc_new _ _)
      have hcm := hBm.c
      have hB1 : Below w.heap.size w w1 := hb0.trans (hb1.mono hb0.size)
      have HB1 := hide hB1
      have HG1 := hide (HG.out w1 cb0 hB1 hcd)
      have hcode := HCD.out w1 cb0 hcd
      have HCo := hide hcode
      have HBm := hide hBm
      have HBk1 := hide (fun (w' : World) (hb : Below w1.heap.size w1 w') => HBk0.out cb0 w' (hB1.trans (hb.mono hB1.size)) ((hb.cell (p := ⟨cb0, 0, none⟩) (World.block_lt_of_cell? w1 _ hcode)).trans hcode))
      clear hb1 hcd hb0 hB1 hcode hBm HC HG HBk0 HCD
      go_wp2_with fail
      refine HG1.out.mono ?_
      rintro r w0 ⟨rfl, hb2⟩
      obtain ⟨vb, vo, hva, hvl', p0, p1, p2, p3⟩ := VlRow.tok HV.out (HB1.out.trans (hb2.mono HB1.out.size)) hjl
      subst hva
      have hml1 := HBm.out.lt
      have hBm := HBm.out.below hb2 hml1
      have hml := hBm.lt
      have hz1 := HB1.out.size
      have hz2 := hb2.size
      have hvl : vb < w0.heap.size := by omega
      have HB2 : Hid (Below w.heap.size w w0) := hide (HB1.out.trans (hb2.mono HB1.out.size))
      have HAll : Hid (∀ w', Below w0.heap.size w0 w' → w'.cell? ⟨w.heap.size, 0, none⟩ = some (.bool true) ∧ w'.cell? ⟨w.heap.size, 1, none⟩ = some (.int .i64 m.pl) ∧ w'.cell? ⟨w.heap.size, 2, none⟩ = some (.int .i64 m.env) ∧ w'.cell? ⟨w.heap.size, 3, none⟩ = some (.int .i64 (j : Int)) ∧ w'.cell? ⟨w.heap.size, 4, none⟩ = some (.slice af 0 cf) ∧ w'.cell? ⟨w.heap.size, 5, none⟩ = some (.slice (some ⟨vb, vo, none⟩) m.vs.length cv') ∧ w'.cell? ⟨w.heap.size, 6, none⟩ = some (.slice ab m.bs.length cb') ∧ w'.cell? ⟨vb, vo + j * 4, none⟩ = some (.bool m.vs[j].fn) ∧ w'.cell? ⟨vb, vo + j * 4 + 1, none⟩ = some (.int .i64 m.vs[j].num) ∧ w'.cell? ⟨vb, vo + j * 4 + 2, none⟩ = some (.int .i64 m.vs[j].pl) ∧ w'.cell? ⟨vb, vo + j * 4 + 3, none⟩ = some (.int .i64 m.vs[j].env)) := hide (fun w' hb => ⟨(hb.cell (p := ⟨w.heap.size, 0, none⟩) hml).trans ((hBm.c 0).trans rfl), (hb.cell (p := ⟨w.heap.size, 1, none⟩) hml).trans ((hBm.c 1).trans rfl), (hb.cell (p := ⟨w.heap.size, 2, none⟩) hml).trans ((hBm.c 2).trans rfl), (hb.cell (p := ⟨w.heap.size, 3, none⟩) hml).trans ((hBm.c 3).trans rfl), (hb.cell (p := ⟨w.heap.size, 4, none⟩) hml).trans ((hBm.c 4).trans rfl), (hb.cell (p := ⟨w.heap.size, 5, none⟩) hml).trans ((hBm.c 5).trans rfl), (hb.cell (p := ⟨w.heap.size, 6, none⟩) hml).trans ((hBm.c 6).trans rfl), (hb.cell (p := ⟨vb, vo + j * 4, none⟩) hvl).trans p0, (hb.cell (p := ⟨vb, vo + j * 4 + 1, none⟩) hvl).trans p1, (hb.cell (p := ⟨vb, vo + j * 4 + 2, none⟩) hvl).trans p2, (hb.cell (p := ⟨vb, vo + j * 4 + 3, none⟩) hvl).trans p3⟩)
      have HBd : Hid (Below w0.heap.size w0 w0.drew) := hide ⟨rfl, rfl, rfl, Nat.le_refl _, fun _ _ => rfl⟩
      have HBa : Hid (Below w0.heap.size w0 (w0.alloc (.cells #[.int .i64 0, .int .i64 0, .slice none 0 0] 102)).drew) := hide (belowDrew (blF _ _))
      have HBk := hide (fun (w' : World) (hb : Below w0.heap.size w0 w') => HBk1.out w' (hb2.trans (hb.mono hb2.size)))
      have hcm0 := hBm.c
      obtain ⟨fa0, fa1, fa2, fa3, fa4, fa5, fa6, fa7, fa8, fa9, fa10⟩ := HAll.out w0.drew HBd.out
      obtain ⟨fb0, fb1, fb2, fb3, fb4, fb5, fb6, fb7, fb8, fb9, fb10⟩ := HAll.out (w0.alloc (.cells #[.int .i64 0, .int .i64 0, .slice none 0 0] 102)).drew HBa.out
      clear hb2 hcm HBk1 HG1 p0 p1 p2 p3 hBm hz1 hz2
      go_wp2_with fail
      clear hcm0
      by_cases h6 : T.flat.length ≤ 600
      · unfold SpV at HBk
        simp only [if_pos h6] at HBk
        go_cut [8, 9] from 34 to 45 (fun v8 v9 wx => ∃ (b : Nat) (tx : Cc) (tk : F) (ta : Option Addr) (tn tc : Nat), v8 = .pointer (some ⟨b, 0, none⟩) ∧ v9 = .bool true ∧ wx.heap[b]? = some (.cells #[.int .i64 tx.k, .int .i64 tx.n, .slice ta tn tc] 102 (0, 0)) ∧ T = .cons tx tk .nil ∧ KidT wx (fun g => w0.heap.size ≤ g) tk (.slice ta tn tc) ∧ Below w0.heap.size w0 wx)
        case first =>
          go_region_held3 (fun w' => w'.cell? ⟨w.heap.size, 0, none⟩ = some (.bool true) ∧ w'.cell? ⟨w.heap.size, 1, none⟩ = some (.int .i64 m.pl) ∧ w'.cell? ⟨w.heap.size, 2, none⟩ = some (.int .i64 m.env) ∧ w'.cell? ⟨w.heap.size, 3, none⟩ = some (.int .i64 (j : Int)) ∧ w'.cell? ⟨w.heap.size, 4, none⟩ = some (.slice af 0 cf) ∧ w'.cell? ⟨w.heap.size, 5, none⟩ = some (.slice (some ⟨vb, vo, none⟩) m.vs.length cv') ∧ w'.cell? ⟨w.heap.size, 6, none⟩ = some (.slice ab m.bs.length cb') ∧ w'.cell? ⟨vb, vo + j * 4, none⟩ = some (.bool m.vs[j].fn) ∧ w'.cell? ⟨vb, vo + j * 4 + 1, none⟩ = some (.int .i64 m.vs[j].num) ∧ w'.cell? ⟨vb, vo + j * 4 + 2, none⟩ = some (.int .i64 m.vs[j].pl) ∧ w'.cell? ⟨vb, vo + j * 4 + 3, none⟩ = some (.int .i64 m.vs[j].env)) (first | (with_reducible exact HAll.out _ HBd.out) | (with_reducible exact HAll.out _ HBa.out) | (with_reducible exact HAll.out _ HX1.out) | (with_reducible exact HAll.out _ (HX1.out.alloc HX1.out.size _)) | (with_reducible exact HAll.out _ (below_fill3 HX1.out (b := w0.heap.size) (Nat.le_refl _) _ _ _)))
            (first
              | ((with_reducible refine Calls.mono (HBk.out _ (by first | exact HBd.out | exact HBa.out)) ?_); rintro e W1 ⟨hv, hx⟩; have HX1 : Hid (Below w0.heap.size w0 W1) := hide (by first | exact HBd.out.trans (hx.mono HBd.out.size) | exact HBa.out.trans (hx.mono HBa.out.size)); (try have zb : W1.heap[w0.heap.size]? = some (.cells #[.int .i64 0, .int .i64 0, .slice none 0 0] 102) := (hx.block w0.heap.size (show w0.heap.size < (w0.alloc (.cells #[.int .i64 0, .int .i64 0, .slice none 0 0] 102)).heap.size by simp)).trans (heap_alloc_new _ _)); (try have zc0 : W1.cell? ⟨w0.heap.size, 0, none⟩ = some (.int .i64 0) := (cell_of_blk zb 0).trans rfl); (try have zc1 : W1.cell? ⟨w0.heap.size, 1, none⟩ = some (.int .i64 0) := (cell_of_blk zb 1).trans rfl); (try have zc2 : W1.cell? ⟨w0.heap.size, 2, none⟩ = some (.slice none 0 0) := (cell_of_blk zb 2).trans rfl); (try have zf := unfrozen_of_blk zb); (try have hzb := hide zb; clear zb); obtain ⟨tx, tk, ts, hTe, rfl, htk⟩ := hv; have HTk := hide htk; obtain ⟨ta, tc, rfl⟩ := htk.form; obtain ⟨tn, htn⟩ : ∃ tn, tn = tk.len := ⟨_, rfl⟩; rw [← htn] at HTk ⊢; have HTe := hide hTe; clear htk htn hTe hx))
          all_goals
            go_wp2_with fail
            first
              | (go_meet; exact ⟨W1.heap.size, tx, tk, ta, tn, tc, rfl, rfl, heap_alloc_new _ _, HTe.out, (HTk.out.below (blF _ _)).weak (fun g hg _ => hg), HX1.out.alloc HX1.out.size _⟩)
              | (go_meet; exact ⟨w0.heap.size, tx, tk, ta, tn, tc, rfl, rfl, fill3_at hzb.out _ _ _, HTe.out, (kid_fill3 (lo := (w0.alloc (.cells #[.int .i64 0, .int .i64 0, .slice none 0 0] 102)).drew.heap.size) HTk.out (show w0.heap.size < (w0.alloc (.cells #[.int .i64 0, .int .i64 0, .slice none 0 0] 102)).heap.size by simp) _ _ _).weak (fun g hg _ => by have h' : (w0.alloc (.cells #[.int .i64 0, .int .i64 0, .slice none 0 0] 102)).heap.size ≤ g := hg; simp at h'; omega), below_fill3 HX1.out (Nat.le_refl _) _ _ _⟩)
        case rest =>
          obtain ⟨b, tx, tk, ta, tn, tc, rfl, rfl, hbb, hTe, hTk, hBc⟩ := hcut
          have c0 : wc.cell? ⟨b, 0, none⟩ = some (.int .i64 tx.k) := (cell_of_blk hbb 0).trans rfl
          have c1 : wc.cell? ⟨b, 1, none⟩ = some (.int .i64 tx.n) := (cell_of_blk hbb 1).trans rfl
          have c2 : wc.cell? ⟨b, 2, none⟩ = some (.slice ta tn tc) := (cell_of_blk hbb 2).trans rfl
          have hTf : T.flat = tx :: tk.flat := by rw [hTe]; simp [F.flat]
          have hbb2 : bkB l m = goodT (tx :: tk.flat) := by unfold bkB; rw [HBO.out, decide_eq_true h6, Bool.true_and, ← HT.out, hTf]
          have hbl2 : bkL l m = gd (tx :: tk.flat) := by unfold bkL; rw [HBO.out, decide_eq_true h6, if_pos rfl, ← HT.out, hTf]
          have hlt : tk.flat.length + 1 ≤ 1048576 := by have : T.flat.length = tk.flat.length + 1 := by rw [hTf]; simp
                                                        omega
          have HTl := hide (l3Tell_any tx tk (.slice ta tn tc) _ wc hlt hTk)
          rw [← hbb2, ← hbl2] at HTl
          have HBw : Hid (Below w.heap.size w wc) := hide (HB2.out.trans (hBc.mono HB2.out.size))
          clear hbb hTe hTk hBc hTf hbb2 hbl2 hlt fa0 fa1 fa2 fa3 fa4 fa5 fa6 fa7 fa8 fa9 fa10 fb0 fb1 fb2 fb3 fb4 fb5 fb6 fb7 fb8 fb9 fb10
          obtain ⟨KB, hKB⟩ : ∃ KB, KB = bkB l m := ⟨_, rfl⟩
          rw [← hKB] at HTl
          have HKB := hide hKB
          clear hKB
          go_wp2_with fail
          refine Calls.mono HTl.out ?_
          rintro e w3 ⟨s', rfl, hown, hb3⟩
          have HO := hide (own_lower hown HBw.out.size)
          have HB3 := hide (HBw.out.trans (hb3.mono HBw.out.size))
          clear hown hb3 c0 c1 c2
          go_wp2_with fail
          exact bodyPost_ret (v := .tuple #[s', .bool KB]) (by simp [results, Try.results25, go_sem]) rfl ⟨_, by rw [HKB.out], HO.out, HB3.out⟩
      · unfold SpV at HBk
        simp only [if_neg h6] at HBk
        go_cut [8, 9] from 34 to 45 (fun v8 v9 wx => v9 = .bool false ∧ Below w0.heap.size w0 wx)
        case first =>
          go_region_held3 (fun w' => w'.cell? ⟨w.heap.size, 0, none⟩ = some (.bool true) ∧ w'.cell? ⟨w.heap.size, 1, none⟩ = some (.int .i64 m.pl) ∧ w'.cell? ⟨w.heap.size, 2, none⟩ = some (.int .i64 m.env) ∧ w'.cell? ⟨w.heap.size, 3, none⟩ = some (.int .i64 (j : Int)) ∧ w'.cell? ⟨w.heap.size, 4, none⟩ = some (.slice af 0 cf) ∧ w'.cell? ⟨w.heap.size, 5, none⟩ = some (.slice (some ⟨vb, vo, none⟩) m.vs.length cv') ∧ w'.cell? ⟨w.heap.size, 6, none⟩ = some (.slice ab m.bs.length cb') ∧ w'.cell? ⟨vb, vo + j * 4, none⟩ = some (.bool m.vs[j].fn) ∧ w'.cell? ⟨vb, vo + j * 4 + 1, none⟩ = some (.int .i64 m.vs[j].num) ∧ w'.cell? ⟨vb, vo + j * 4 + 2, none⟩ = some (.int .i64 m.vs[j].pl) ∧ w'.cell? ⟨vb, vo + j * 4 + 3, none⟩ = some (.int .i64 m.vs[j].env)) (first | (with_reducible exact HAll.out _ HBd.out) | (with_reducible exact HAll.out _ HBa.out) | (with_reducible exact HAll.out _ HX1.out) | (with_reducible exact HAll.out _ (HX1.out.alloc HX1.out.size _)) | (with_reducible exact HAll.out _ (below_fill3 HX1.out (b := w0.heap.size) (Nat.le_refl _) _ _ _)))
            (first
              | ((with_reducible refine Calls.mono (HBk.out _ (by first | exact HBd.out | exact HBa.out)) ?_); rintro e W1 ⟨hv, hx⟩; have HX1 : Hid (Below w0.heap.size w0 W1) := hide (by first | exact HBd.out.trans (hx.mono HBd.out.size) | exact HBa.out.trans (hx.mono HBa.out.size)); (try have zb : W1.heap[w0.heap.size]? = some (.cells #[.int .i64 0, .int .i64 0, .slice none 0 0] 102) := (hx.block w0.heap.size (show w0.heap.size < (w0.alloc (.cells #[.int .i64 0, .int .i64 0, .slice none 0 0] 102)).heap.size by simp)).trans (heap_alloc_new _ _)); (try have zc0 : W1.cell? ⟨w0.heap.size, 0, none⟩ = some (.int .i64 0) := (cell_of_blk zb 0).trans rfl); (try have zc1 : W1.cell? ⟨w0.heap.size, 1, none⟩ = some (.int .i64 0) := (cell_of_blk zb 1).trans rfl); (try have zc2 : W1.cell? ⟨w0.heap.size, 2, none⟩ = some (.slice none 0 0) := (cell_of_blk zb 2).trans rfl); (try have zf := unfrozen_of_blk zb); (try have hzb := hide zb; clear zb); subst hv; clear hx))
          all_goals
            go_wp2_with fail
            first
              | (go_meet; exact ⟨rfl, HX1.out.alloc HX1.out.size _⟩)
              | (go_meet; exact ⟨rfl, below_fill3 HX1.out (Nat.le_refl _) _ _ _⟩)
        case rest =>
          obtain ⟨rfl, hBc⟩ := hcut
          have hbb : bkB l m = false := by unfold bkB; rw [HBO.out, decide_eq_false h6, Bool.false_and]
          have hbl : bkL l m = [] := by unfold bkL; rw [HBO.out, decide_eq_false h6]; rfl
          have HBw : Hid (Below w.heap.size w wc) := hide (HB2.out.trans (hBc.mono HB2.out.size))
          have HBb := hide hbb
          have HBl := hide hbl
          clear hBc hbb hbl fa0 fa1 fa2 fa3 fa4 fa5 fa6 fa7 fa8 fa9 fa10 fb0 fb1 fb2 fb3 fb4 fb5 fb6 fb7 fb8 fb9 fb10
          go_wp2_with fail
          exact bodyPost_ret (v := .tuple #[.slice none 0 0, .bool false]) (by simp [results, Try.results25, go_sem]) rfl ⟨_, by rw [HBb.out], by rw [HBl.out]; exact World.ownsRow_nil _ _ _ _, HBw.out⟩
    · have hbo : bkO l m = false := by
        unfold bkO
        cases g1 : goodM l m with
        | false => rfl
        | true =>
          cases g2 : m.done with
          | false => rfl
          | true =>
            have g3 : ¬ m.fs.length = 0 := fun g3 => hO ⟨g1, g2, g3⟩
            rw [decide_eq_false g3]; rfl
      have hbb : bkB l m = false := by unfold bkB; rw [hbo]; rfl
      have hbl : bkL l m = [] := by unfold bkL; rw [hbo]; rfl
      rw [hbb, hbl]
      have HOn := hide hO
      obtain ⟨GD, hGD⟩ : ∃ GD, GD = goodM l m := ⟨_, rfl⟩
      rw [← hGD] at HG HOn
      obtain ⟨DN, hDN⟩ : ∃ DN, DN = m.done := ⟨_, rfl⟩
      rw [← hDN] at HG HOn hb0 ⊢
      obtain ⟨FN, hFN⟩ : ∃ FN, FN = m.fs.length := ⟨_, rfl⟩
      rw [← hFN] at HG HOn hb0 ⊢
      clear hbo hbb hbl hO hGD hDN hFN h h1 h2 h3 HM h4 h7 hgm hc HCD
      cases GD with
      | false =>
        go_enter Try.func25, Try.ntmps25
        go_wp2_with fail
        refine (HC.out _ hb0).mono ?_
        rintro r w1 ⟨cb0, rfl, hcd, -, hb1⟩
        have hBm := (hb1.block w.heap.size (by simp)).trans (heap_alloc_new _ _)
        have hcm := cell_of_blk hBm
        have hB1 : Below w.heap.size w w1 := hb0.trans (hb1.mono hb0.size)
        have HB1 := hide hB1
        have HBm := hide hBm
        have hml := (Array.getElem?_eq_some_iff.1 hBm).1
        have HG1 := hide (HG.out w1 cb0 hB1 hcd)
        clear hb1 hcd hB1 hBm HC HG hb0
        go_wp2_with fail
        refine HG1.out.mono ?_
        rintro r w2 ⟨rfl, hb2⟩
        have hcm2 := cell_of_blk ((hb2.block w.heap.size hml).trans HBm.out)
        have HB2 := hide (HB1.out.trans (hb2.mono HB1.out.size))
        clear hb2 hcm HG1
        go_wp2_with fail
        exact bodyPost_ret (v := .tuple #[.slice none 0 0, .bool false]) (by simp [results, Try.results25, go_sem]) rfl ⟨_, rfl, World.ownsRow_nil _ _ _ _, HB2.out⟩
      | true =>
        cases DN with
        | false =>
          go_enter Try.func25, Try.ntmps25
          go_wp2_with fail
          refine (HC.out _ hb0).mono ?_
          rintro r w1 ⟨cb0, rfl, hcd, -, hb1⟩
          have hBm := (hb1.block w.heap.size (by simp)).trans (heap_alloc_new _ _)
          have hcm := cell_of_blk hBm
          have hB1 : Below w.heap.size w w1 := hb0.trans (hb1.mono hb0.size)
          have HB1 := hide hB1
          have HBm := hide hBm
          have hml := (Array.getElem?_eq_some_iff.1 hBm).1
          have HG1 := hide (HG.out w1 cb0 hB1 hcd)
          clear hb1 hcd hB1 hBm HC HG hb0
          go_wp2_with fail
          refine HG1.out.mono ?_
          rintro r w2 ⟨rfl, hb2⟩
          have hcm2 := cell_of_blk ((hb2.block w.heap.size hml).trans HBm.out)
          have HB2 := hide (HB1.out.trans (hb2.mono HB1.out.size))
          clear hb2 hcm HG1
          go_wp2_with fail
          exact bodyPost_ret (v := .tuple #[.slice none 0 0, .bool false]) (by simp [results, Try.results25, go_sem]) rfl ⟨_, rfl, World.ownsRow_nil _ _ _ _, HB2.out⟩
        | true =>
          have hfn : (0 : Int) < (FN : Int) := by
            have := HOn.out
            have h0 : ¬ FN = 0 := fun h => this ⟨rfl, rfl, h⟩
            omega
          clear HOn
          go_enter Try.func25, Try.ntmps25
          go_wp2_with fail
          refine (HC.out _ hb0).mono ?_
          rintro r w1 ⟨cb0, rfl, hcd, -, hb1⟩
          have hBm := (hb1.block w.heap.size (by simp)).trans (heap_alloc_new _ _)
          have hcm := cell_of_blk hBm
          have hB1 : Below w.heap.size w w1 := hb0.trans (hb1.mono hb0.size)
          have HB1 := hide hB1
          have HBm := hide hBm
          have hml := (Array.getElem?_eq_some_iff.1 hBm).1
          have HG1 := hide (HG.out w1 cb0 hB1 hcd)
          clear hb1 hcd hB1 hBm HC HG hb0
          go_wp2_with fail
          refine HG1.out.mono ?_
          rintro r w2 ⟨rfl, hb2⟩
          have hcm2 := cell_of_blk ((hb2.block w.heap.size hml).trans HBm.out)
          have HB2 := hide (HB1.out.trans (hb2.mono HB1.out.size))
          clear hb2 hcm HG1
          go_wp2_with fail
          exact bodyPost_ret (v := .tuple #[.slice none 0 0, .bool false]) (by simp [results, Try.results25, go_sem]) rfl ⟨_, rfl, World.ownsRow_nil _ _ _ _, HB2.out⟩
end Go.Proofs.Ytdajalchdbgooaa.W

/-
  A machine as an argument of a law, opened. No program here.
-/
namespace Go.Proofs.Ytdajalchdbgooaa.W
open Go.ChangeShapes Go.WideShapes Go.ChangeAt Go.RowKit Go.Joins
set_option linter.unusedVariables false

theorem open_slice1 {H : Type} {enc : TypeId × Value → H} {W : World} {sp : Nat → Bool} {held : Bool} {fuel : Nat} {t e : TypeId} {v : Value} {x : DataW H × List MemPlace} (ht : Try.prog.underlying t = some (.slice e))
    (h : DataW.trod enc Try.prog W 0 sp held fuel t [v] = some x) : ∃ ad len cap, v = .slice ad len cap ∧ len ≤ cap := by
  rcases Go.Deep.open_slice ht h with ⟨hcs, -⟩ | ⟨a, len, cap, m, n, D, Pl, hcs, hb, hl, -⟩
  · simp at hcs; exact ⟨none, 0, 0, hcs, Nat.le_refl _⟩
  · simp at hcs; exact ⟨some a, len, cap, hcs, hl⟩
set_option maxRecDepth 20000 in
theorem open_machine {H : Type} {enc : TypeId × Value → H} {W : World} {sp : Nat → Bool} {held : Bool} {base : Nat} {v : Value} {x : DataW H × List MemPlace} (hv : Value.okWide Try.prog W .any base 45 v)
    (h : ∃ fuel, DataW.trod enc Try.prog W 0 sp held fuel 45 v.cells.toList = some x) :
    ∃ (m : Mc) (af : Option Addr) (cf : Nat) (av : Option Addr) (cv : Nat) (ab : Option Addr) (cb : Nat), v = .agg #[.bool m.done, .int .i64 m.pl, .int .i64 m.env, .int .i64 m.val, .slice af m.fs.length cf, .slice av m.vs.length cv, .slice ab m.bs.length cb] ∧
      FmRow W af m.fs ∧ VlRow W av m.vs ∧ BdRow W ab m.bs ∧ m.fs.length ≤ maxLen ∧ m.vs.length ≤ maxLen ∧ m.bs.length ≤ maxLen ∧ m.fs.length ≤ cf ∧ m.vs.length ≤ cv ∧ m.bs.length ≤ cb := by
  obtain ⟨cs, rfl, hsz⟩ := okWide_struct Try.underlying45 hv
  obtain ⟨fuel, h⟩ := h
  obtain ⟨xs, k, hk, hxy, hl, hxl, hf⟩ := DataW.trod_struct Try.underlying45 h
  have hc : Try.prog.cellsOf 45 = 7 := by kernel_rfl
  have ci : Try.prog.cellsOf 3 = 1 := by kernel_rfl
  have cb : Try.prog.cellsOf 4 = 1 := by kernel_rfl
  have c1 : Try.prog.cellsOf 41 = 1 := by kernel_rfl
  have c2 : Try.prog.cellsOf 42 = 1 := by kernel_rfl
  have c3 : Try.prog.cellsOf 43 = 1 := by kernel_rfl
  obtain ⟨l, rfl⟩ : ∃ l : List Value, cs = l.toArray := ⟨cs.toList, by simp⟩
  rw [hc] at hsz
  have hsz' : l.length = 7 := by simpa using hsz
  match l, hsz' with
  | [v0, v1, v2, v3, v4, v5, v6], _ =>
    have g0 := hf 0 _ rfl
    have g1 := hf 1 _ rfl
    have g2 := hf 2 _ rfl
    have g3 := hf 3 _ rfl
    have g4 := hf 4 _ rfl
    have g5 := hf 5 _ rfl
    have g6 := hf 6 _ rfl
    simp [ci, cb, c1, c2, c3, Value.cells] at g0 g1 g2 g3 g4 g5 g6
    rw [List.getElem?_eq_getElem (by rw [hxl]; decide)] at g0 g1 g2 g3 g4 g5 g6
    obtain ⟨k0, e0, -⟩ := DataW.trod_bool Try.underlying4 g0
    obtain ⟨k1, e1, -, -⟩ := DataW.trod_int Try.underlying3 g1
    obtain ⟨k2, e2, -, -⟩ := DataW.trod_int Try.underlying3 g2
    obtain ⟨k3, e3, -, -⟩ := DataW.trod_int Try.underlying3 g3
    simp at e0 e1 e2 e3
    subst e0 e1 e2 e3
    obtain ⟨af, nf, cf, rfl, hf1⟩ := open_slice1 Try.underlying41 g4
    obtain ⟨av, nv, cv, rfl, hv1⟩ := open_slice1 Try.underlying42 g5
    obtain ⟨ab, nb, cb', rfl, hb1⟩ := open_slice1 Try.underlying43 g6
    obtain ⟨fs, rfl, m1, r1⟩ := open_Fm g4
    obtain ⟨vs, rfl, m2, r2⟩ := open_Vl g5
    obtain ⟨bs, rfl, m3, r3⟩ := open_Bd g6
    exact ⟨⟨k0, k1, k2, k3, fs, vs, bs⟩, af, cf, av, cv, ab, cb', rfl, r1, r2, r3, m1, m2, m3, hf1, hv1, hb1⟩
end Go.Proofs.Ytdajalchdbgooaa.W

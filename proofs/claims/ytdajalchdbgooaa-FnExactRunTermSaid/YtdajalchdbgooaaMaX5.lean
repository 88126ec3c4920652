/-
  Contracts of l6Do. Conditions: good machines of closed terms.
-/
import Derived.Test.YtdajalchdbgooaaMaX4
import Derived.Deep.RegionHeld3
import Derived.Deep.RegionLaw
import Derived.Deep.AppendLies
import Derived.Deep.CutRange
namespace Go.Proofs.Ytdajalchdbgooaa.W
open Go.ChangeShapes Go.WideShapes Go.ChangeAt Go.RowKit
set_option linter.unusedVariables false
set_option linter.unusedSimpArgs false

theorem SM.drew {w : World} {lo : Nat} {v : Value} {m : Mc} (h : SM w lo v m) : SM w.drew lo v m := h.below (belowDrew (Below.refl _ _))
theorem far7 (w : World) (y b o : Nat) (h : ¬ y = b) (a0 a1 a2 a3 a4 a5 a6 : Value) : (((((((w.setCell ⟨y, 0, none⟩ a0).setCell ⟨y, 1, none⟩ a1).setCell ⟨y, 2, none⟩ a2).setCell ⟨y, 3, none⟩ a3).setCell ⟨y, 4, none⟩ a4).setCell ⟨y, 5, none⟩ a5).setCell ⟨y, 6, none⟩ a6).cell? ⟨b, o, none⟩ = w.cell? ⟨b, o, none⟩ := by
  rw [World.cell?_setCell_far _ _ _ _ h, World.cell?_setCell_far _ _ _ _ h, World.cell?_setCell_far _ _ _ _ h, World.cell?_setCell_far _ _ _ _ h, World.cell?_setCell_far _ _ _ _ h, World.cell?_setCell_far _ _ _ _ h, World.cell?_setCell_far _ _ _ _ h]

set_option maxRecDepth 20000 in
set_option maxHeartbeats 4000000 in
theorem l6Do_var (lo cb0 : Nat) (ad : Option Addr) (c : Nat) (l : List Cc) (a : F) (v : Value) (m : Mc) (w : World) (hCl : Cl l a) (h : SM w lo v m) (hS : SR w lo cb0 ad c l a) (hG : GM a l m) (hd : m.done = false) (x : Cc) (hxx : l[m.pl.toNat]? = some x) (k2h : Hid (x.k = 1)) :
    Calls Try.prog 98 #[.pointer (some ⟨cb0, 0, none⟩), v] w fun r w' => ∃ v', r = .returned (.tuple #[v', .bool (isL (.inl (comeM m (lkB m.bs x.n.toNat m.env))))]) ∧ SM w' lo v' (mcOf' m (.inl (comeM m (lkB m.bs x.n.toNat m.env)))) ∧ Below lo w w' ∧ ∀ (b : Nat) (cs : Array Value) (T : TypeId), T ≠ 96 → T ≠ 74 → T ≠ 124 → Bx w b cs T → Bx w' b cs T := by
  have hlo := hS.le
  obtain ⟨n1, n2⟩ := nOk_not hG.now hd
  obtain ⟨q1, q2, q3⟩ := pOk_iff.1 n2
  obtain ⟨x', d0, k, x1, x2, x3, x4, x5, x6, x7⟩ := hCl.part q1
  obtain rfl : x = x' := by rw [x2] at hxx; simpa using hxx.symm
  obtain ⟨p, hp⟩ := Int.eq_ofNat_of_zero_le q1.1
  have hp' : m.pl.toNat = p := by rw [hp]; rfl
  rw [hp'] at x1 x2 x3
  have hpl : p < l.length := by have := q1.2; omega
  have hlx : l[p] = x := by rw [List.getElem?_eq_getElem hpl] at x2; simpa using x2
  have hnv := hG.nv
  have hnb := hG.nb
  have hnf := hG.nf
  have hl6 := hCl.le
  have HBs := hide hG.bs
  have HQ2 := hide q2
  have HQ3 : Hid ((bw m.bs m.env).1 = (d0 : Int)) := hide (by rw [q3, hp']; exact x3)
  have HX1 := hide x1
  have HCl := hide hCl
  obtain ⟨af, cf, av, cv, ab, cb, rfl, h1, h2, h3⟩ := h
  obtain ⟨dn, pl, e, vl, fs, vs, bs⟩ := m
  simp only at h1 h2 h3 hd hp n1 hnv hnb hnf HBs HQ2 HQ3 ⊢
  subst hd hp n1
  have hX := (Bx.new w #[.bool false, .int .i64 (p : Int), .int .i64 e, .int .i64 (-1), .slice af fs.length cf, .slice av vs.length cv, .slice ab bs.length cb] 28).alloc (.cells #[.bool false, .int .i64 0, .int .i64 0, .int .i64 0, .slice none 0 0, .slice none 0 0, .slice none 0 0] 28)
  have hY := Bx.new (w.alloc (.cells #[.bool false, .int .i64 (p : Int), .int .i64 e, .int .i64 (-1), .slice af fs.length cf, .slice av vs.length cv, .slice ab bs.length cb] 28)) #[.bool false, .int .i64 0, .int .i64 0, .int .i64 0, .slice none 0 0, .slice none 0 0, .slice none 0 0] 28
  simp only [World.size_alloc] at hY
  have hB0 : Below w.heap.size w ((w.alloc (.cells #[.bool false, .int .i64 (p : Int), .int .i64 e, .int .i64 (-1), .slice af fs.length cf, .slice av vs.length cv, .slice ab bs.length cb] 28)).alloc (.cells #[.bool false, .int .i64 0, .int .i64 0, .int .i64 0, .slice none 0 0, .slice none 0 0, .slice none 0 0] 28)) := ((Below.refl _ _).alloc (Nat.le_refl _) _).alloc (by simp) _
  have H1 := hide (own_keep h1 (fun k _ hk => hB0.block k hk))
  have H2 := hide (own_keep h2 (fun k _ hk => hB0.block k hk))
  have H3 := hide (own_keep h3 (fun k _ hk => hB0.block k hk))
  have HS := hide (hS.below (hB0.mono hlo))
  have hcl := hS.lt
  clear hxx x2 x4 q1 q2 q3 n2 hp' hG hS hCl
  have hxb := HCl.out.bound HX1.out k2h.out
  obtain ⟨N, hN⟩ := Int.eq_ofNat_of_zero_le hxb.1
  have hNt : x.n.toNat = N := by rw [hN]; rfl
  rw [hNt]
  have hbn : (N : Int) < (bw bs e).1 := by rw [HQ3.out]; omega
  have hNl : N ≤ 1000 := by omega
  obtain ⟨LK, hLK⟩ : ∃ LK, LK = lkB bs N e := ⟨_, rfl⟩
  rw [← hLK]
  have HLK := hide hLK
  have HN := hide hN
  clear hLK hN hxb hNt
  go_enter Try.func98, Try.ntmps98
  go_upto_region 1 with fail
  obtain ⟨w0, hw0⟩ : ∃ w0, w0 = (w.alloc (.cells #[.bool false, .int .i64 (p : Int), .int .i64 e, .int .i64 (-1), .slice af fs.length cf, .slice av vs.length cv, .slice ab bs.length cb] 28)).alloc (.cells #[.bool false, .int .i64 0, .int .i64 0, .int .i64 0, .slice none 0 0, .slice none 0 0, .slice none 0 0] 28) := ⟨_, rfl⟩
  rw [← hw0] at hX hY hB0 H1 H2 H3 HS ⊢
  clear hw0 h1 h2 h3
  have hz0 : lo ≤ w0.heap.size := Nat.le_trans hlo hB0.size
  have hyl := hY.lt
  obtain ⟨kb, vb, k1, k2, k3, k4, k5⟩ := (HS.out.cd w0 (Below.refl _ _)).ex
  have c0 : w0.cell? ⟨cb0, 0, none⟩ = some (.slice ad l.length c) := k1.c 0
  obtain ⟨b, o, hadd, hb, r0, r1⟩ := (HS.out.row w0 (Below.refl _ _)).tok (Below.refl _ _) hpl
  subst hadd
  rw [hlx] at r0 r1
  have m1 : w0.cell? ⟨w.heap.size, 1, none⟩ = some (.int .i64 (p : Int)) := hX.c 1
  have hp1 : (p : Int) < (l.length : Int) := by omega
  have hp0 : (0 : Int) ≤ (p : Int) := by omega
  have HX := hide hX
  have HY := hide hY
  clear hX hY k1 k2 k3 k4 k5 hlx
  go_cut [6] from 9 to 93 (fun v wx => v = .pointer (some ⟨w0.heap.size, 0, none⟩) ∧ Bx wx w0.heap.size #[.int .i64 x.k, .int .i64 x.n] 59 ∧ Below w0.heap.size w0 wx)
  case first =>
    go_region_held3 (fun w' => w'.cell? ⟨cb0, 0, none⟩ = some (.slice (some ⟨b, o, none⟩) l.length c) ∧ w'.cell? ⟨w.heap.size, 1, none⟩ = some (.int .i64 (p : Int)) ∧ w'.cell? ⟨b, o + p * 2, none⟩ = some (.int .i64 x.k) ∧ w'.cell? ⟨b, o + p * 2 + 1, none⟩ = some (.int .i64 x.n)) (go_keep)
      (first | fail)
    go_wp2_with fail
    go_meet
    exact ⟨rfl, (Bx.new w0 _ _).drew, belowDrew ((Below.refl _ _).alloc (Nat.le_refl _) _)⟩
  case rest =>
    obtain ⟨rfl, hC, hBc⟩ := hcut
    have HX1' := hide (HX.out.below hBc HX.out.lt)
    have HY1 := hide (HY.out.below hBc HY.out.lt)
    have HF1 := hide (own_keep H1.out (fun k _ hk => hBc.block k hk))
    have HV1 := hide (own_keep H2.out (fun k _ hk => hBc.block k hk))
    have HB1 := hide (own_keep H3.out (fun k _ hk => hBc.block k hk))
    have HS1 := hide (HS.out.below (hBc.mono hz0))
    have hB1 : Below lo w wc := (hB0.mono hlo).trans (hBc.mono hz0)
    have hz1 : lo ≤ wc.heap.size := Nat.le_trans hlo hB1.size
    have hyl1 := HY1.out.lt
    have hSm : SM wc lo (.agg #[.bool false, .int .i64 (p : Int), .int .i64 e, .int .i64 (-1), .slice af fs.length cf, .slice av vs.length cv, .slice ab bs.length cb]) ⟨false, (p : Int), e, -1, fs, vs, bs⟩ := ⟨_, _, _, _, _, _, rfl, HF1.out, HV1.out, HB1.out⟩
    have HSm := hide hSm
    have cx := HX1'.out.c
    have cc := hC.c
    have HKc : Hid (∀ (b : Nat) (cs : Array Value) (T : TypeId), Bx w b cs T → Bx wc b cs T) := hide (fun bb cs TT hbx => (hbx.below hB0 hbx.lt).below hBc (hbx.below hB0 hbx.lt).lt)
    clear c0 r0 r1 m1 HX HY H1 H2 H3 HS hBc hSm hB0 hyl
    have k2 := k2h.out
    rw [k2, HN.out] at cc
    have hBR : BdRow wc ab bs := RRow.ofOwn HB1.out rfl
    have HBR := hide hBR
    have hq2 := HQ2.out
    have HYl := hide HY1.out
    have hwl := HX1'.out.lt
    go_upto_region 9 with fail
    go_wp2_with fail
    go_loopw [7, 8] (fun ev nv w' => ∃ (j : Nat) (en : Int), j ≤ N ∧ nv = .int .i64 (j : Int) ∧ ev = .int .i64 en ∧ -1 ≤ en ∧ en < bs.length ∧ (j : Int) < (bw bs en).1 ∧ lkB bs j en = LK ∧ w' = wc) (fun _ nv _ => (intOf nv).toNat)
    case atStart => exact ⟨N, e, Nat.le_refl _, rfl, rfl, hq2.1, hq2.2, hbn, HLK.out.symm, rfl⟩
    case round =>
      obtain ⟨j, en, hj, rfl, rfl, e1, e2, e3, e4, rfl⟩ := hrel
      have e5 := (lkB_ok HBs.out j en e2 e3).2.2
      obtain ⟨k', rfl⟩ := Int.eq_ofNat_of_zero_le e5
      have hk : k' < bs.length := by omega
      have hk' : (k' : Int) < (bs.length : Int) := by omega
      have hk0 : (0 : Int) ≤ (k' : Int) := by omega
      obtain ⟨b2, o2, hab, hb2, t0, t1⟩ := BdRow.tok HBR.out (Below.refl _ _) hk
      subst hab
      have E4 := hide e4
      have E3 := hide e3
      have hbk := bsOk_at HBs.out hk
      have HSt := hide (bw_step HBs.out hk)
      have HL0 : Hid (lkB bs 0 (k' : Int) = bs[k'].val) := hide (by rw [lkB, Int.toNat_natCast, List.getElem?_eq_getElem hk])
      have HL1 : Hid (∀ i, lkB bs (i + 1) (k' : Int) = lkB bs i bs[k'].up) := hide (fun i => by rw [lkB, Int.toNat_natCast, List.getElem?_eq_getElem hk])
      obtain ⟨y, hy⟩ : ∃ y, y = bs[k'] := ⟨_, rfl⟩
      rw [← hy] at t0 t1 hbk HSt HL0 HL1
      clear hy e4 e3
      cases j with
      | succ j =>
        have hlt' : (0 : Int) < ((j + 1 : Nat) : Int) := by omega
        clear t0
        go_wp2_with fail
        have h3 := E3.out
        rw [HSt.out] at h3
        simp only at h3
        refine ⟨⟨j, y.up, by omega, by go_num, rfl, by omega, by omega, by omega, ?_, trivial⟩, by simp [intOf]⟩
        rw [← E4.out, HL1.out]
      | zero =>
        have h4 := E4.out
        rw [HL0.out] at h4
        clear t1
        rw [h4] at t0
        have cy0 := HY1.out.c
        have fy0 := HY1.out.f
        have hxl := HX1'.out.lt
        have hb2n : ¬ b2 = w.heap.size + 1 := fun e' => own_bx HY1.out HB1.out (by decide) (by rw [← e']; rfl)
        have hb2n' : ¬ w.heap.size + 1 = b2 := fun e' => hb2n e'.symm
        have hxy : ¬ w.heap.size + 1 = w.heap.size := by omega
        have HAll : Hid (∀ w', Below wr.heap.size wr w' → w'.cell? ⟨w.heap.size, 0, none⟩ = some (.bool false) ∧ w'.cell? ⟨w.heap.size, 1, none⟩ = some (.int .i64 (p : Int)) ∧ w'.cell? ⟨w.heap.size, 2, none⟩ = some (.int .i64 e) ∧ w'.cell? ⟨w.heap.size, 3, none⟩ = some (.int .i64 (-1)) ∧ w'.cell? ⟨w.heap.size, 4, none⟩ = some (.slice af fs.length cf) ∧ w'.cell? ⟨w.heap.size, 5, none⟩ = some (.slice av vs.length cv) ∧ w'.cell? ⟨w.heap.size, 6, none⟩ = some (.slice (some ⟨b2, o2, none⟩) bs.length cb) ∧ w'.cell? ⟨b2, o2 + k' * 2, none⟩ = some (.int .i64 LK)) := hide (fun w' hb => ⟨(hb.cell (p := ⟨w.heap.size, 0, none⟩) hxl).trans (HX1'.out.c 0), (hb.cell (p := ⟨w.heap.size, 1, none⟩) hxl).trans (HX1'.out.c 1), (hb.cell (p := ⟨w.heap.size, 2, none⟩) hxl).trans (HX1'.out.c 2), (hb.cell (p := ⟨w.heap.size, 3, none⟩) hxl).trans (HX1'.out.c 3), (hb.cell (p := ⟨w.heap.size, 4, none⟩) hxl).trans (HX1'.out.c 4), (hb.cell (p := ⟨w.heap.size, 5, none⟩) hxl).trans (HX1'.out.c 5), (hb.cell (p := ⟨w.heap.size, 6, none⟩) hxl).trans (HX1'.out.c 6), (hb.cell (p := ⟨b2, o2 + k' * 2, none⟩) hb2).trans t0⟩)
        go_upto_region 13 with fail
        obtain ⟨u0, u1, u2, u3, u4, u5, u6, u7⟩ := HAll.out wr.drew (belowDrew (Below.refl _ _))
        clear cx cc
        go_region_held3 (fun w' => w'.cell? ⟨w.heap.size, 0, none⟩ = some (.bool false) ∧ w'.cell? ⟨w.heap.size, 1, none⟩ = some (.int .i64 (p : Int)) ∧ w'.cell? ⟨w.heap.size, 2, none⟩ = some (.int .i64 e) ∧ w'.cell? ⟨w.heap.size, 3, none⟩ = some (.int .i64 (-1)) ∧ w'.cell? ⟨w.heap.size, 4, none⟩ = some (.slice af fs.length cf) ∧ w'.cell? ⟨w.heap.size, 5, none⟩ = some (.slice av vs.length cv) ∧ w'.cell? ⟨w.heap.size, 6, none⟩ = some (.slice (some ⟨b2, o2, none⟩) bs.length cb) ∧ w'.cell? ⟨b2, o2 + k' * 2, none⟩ = some (.int .i64 LK)) (first | (with_reducible exact ⟨u0, u1, u2, u3, u4, u5, u6, u7⟩) | (with_reducible exact ⟨y0, y1, y2, y3, y4, y5, y6, y7⟩) | (with_reducible exact ⟨(far7 _ _ _ _ hxy _ _ _ _ _ _ _).trans y0, (far7 _ _ _ _ hxy _ _ _ _ _ _ _).trans y1, (far7 _ _ _ _ hxy _ _ _ _ _ _ _).trans y2, (far7 _ _ _ _ hxy _ _ _ _ _ _ _).trans y3, (far7 _ _ _ _ hxy _ _ _ _ _ _ _).trans y4, (far7 _ _ _ _ hxy _ _ _ _ _ _ _).trans y5, (far7 _ _ _ _ hxy _ _ _ _ _ _ _).trans y6, (far7 _ _ _ _ hb2n' _ _ _ _ _ _ _).trans y7⟩))
          (first | ((with_reducible refine (l6Come_any _ _ _ _ _ _ _ _ _ _ _ _ _ _ _).mono ?_); rintro r w3 ⟨rfl, hb3⟩; have hb3' : Below wr.heap.size wr w3 := ⟨hb3.os, hb3.tape, hb3.output, hb3.size, hb3.block⟩; obtain ⟨y0, y1, y2, y3, y4, y5, y6, y7⟩ := HAll.out w3 hb3'; have hY3 := HY1.out.below hb3' HY1.out.lt; have cy3 := hY3.c; have fy3 := hY3.f; have HB3 := hide hb3'; clear hb3 hb3' hY3))
        have HY3 := hide (HY1.out.below HB3.out HY1.out.lt)
        have hB3 : Below lo w w3 := hB1.trans (HB3.out.mono hz1)
        clear u0 u1 u2 u3 u4 u5 u6 u7 y0 y1 y2 y3 y4 y5 y6 y7 t0 cy0 fy0 HAll
        go_wp2_with fail
        refine bodyPost_ret (v := .tuple #[.agg #[.bool true, .int .i64 (-1), .int .i64 (-1), .int .i64 LK, .slice af fs.length cf, .slice av vs.length cv, .slice (some ⟨b2, o2, none⟩) bs.length cb], .bool true]) (by simp [results, Try.results98, go_sem, cy3]) rfl ⟨_, rfl, ?_, ?_, fun bb cs TT t1 t2 t3 hbx => (((((((((HKc.out bb cs TT hbx).below HB3.out (HKc.out bb cs TT hbx).lt).setne (w.heap.size + 1) 0 _ (by have := hbx.lt; omega)).setne (w.heap.size + 1) 1 _ (by have := hbx.lt; omega)).setne (w.heap.size + 1) 2 _ (by have := hbx.lt; omega)).setne (w.heap.size + 1) 3 _ (by have := hbx.lt; omega)).setne (w.heap.size + 1) 4 _ (by have := hbx.lt; omega)).setne (w.heap.size + 1) 5 _ (by have := hbx.lt; omega)).setne (w.heap.size + 1) 6 _ (by have := hbx.lt; omega))⟩
        · have q0 : Kp w3 (w.heap.size + 1) lo (.slice af fs.length cf) (.slice av vs.length cv) (.slice (some ⟨b2, o2, none⟩) bs.length cb) fs vs bs := ⟨⟨_, HY3.out⟩, own_keep HF1.out (fun k _ hk => HB3.out.block k hk), own_keep HV1.out (fun k _ hk => HB3.out.block k hk), own_keep HB1.out (fun k _ hk => HB3.out.block k hk)⟩
          have := (((((((q0.set 0 (.bool true)).set 1 (.int .i64 (-1))).set 2 (.int .i64 (-1))).set 3 (.int .i64 LK)).set 4 (.slice af fs.length cf)).set 5 (.slice av vs.length cv)).set 6 (.slice (some ⟨b2, o2, none⟩) bs.length cb)).sm true (-1) (-1) LK
          exact this
        · exact (bsc (bsc (bsc (bsc (bsc (bsc (bsc hB3 _ _ _ (by omega)) _ _ _ (by omega)) _ _ _ (by omega)) _ _ _ (by omega)) _ _ _ (by omega)) _ _ _ (by omega)) _ _ _ (by omega))
end Go.Proofs.Ytdajalchdbgooaa.W

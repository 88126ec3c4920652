/-
  Contracts of l6Do. Conditions: good machines of closed terms.
-/
import Derived.Test.YtdajalchdbgooaaMaX3
import Derived.Test.YtdajalchdbgooaaMq
import Derived.Deep.RegionHeld3
import Derived.Deep.RegionLaw
import Derived.Deep.AppendLies
import Derived.Deep.CutRange
namespace Go.Proofs.Ytdajalchdbgooaa.W
open Go.ChangeShapes Go.WideShapes Go.ChangeAt Go.RowKit
set_option linter.unusedVariables false
set_option linter.unusedSimpArgs false

/-- The code and its term stay, whatever becomes of blocks from lo on. -/
structure SR (w : World) (lo cb : Nat) (ad : Option Addr) (c : Nat) (l : List Cc) (a : F) : Prop where
  base : ∃ w00 : World, CD w00 cb (.slice ad l.length c) l.length a ∧ CRow w00 ad l ∧ w00.heap.size ≤ lo ∧ Below w00.heap.size w00 w
  le : lo ≤ w.heap.size
  lt : cb < lo
theorem SR.below {w w' : World} {lo cb : Nat} {ad : Option Addr} {c : Nat} {l : List Cc} {a : F} (h : SR w lo cb ad c l a) (hb : Below lo w w') : SR w' lo cb ad c l a := by
  obtain ⟨w00, h1, h2, h3, h4⟩ := h.base
  exact ⟨⟨w00, h1, h2, h3, h4.trans (hb.mono h3)⟩, Nat.le_trans h.le hb.size, h.lt⟩
theorem SR.cd {w : World} {lo cb : Nat} {ad : Option Addr} {c : Nat} {l : List Cc} {a : F} (h : SR w lo cb ad c l a) : ∀ w', Below lo w w' → CD w' cb (.slice ad l.length c) l.length a := fun w' hb => by
  obtain ⟨w00, h1, h2, h3, h4⟩ := h.base
  exact h1.below (h4.trans (hb.mono h3))
theorem SR.row {w : World} {lo cb : Nat} {ad : Option Addr} {c : Nat} {l : List Cc} {a : F} (h : SR w lo cb ad c l a) : ∀ w', Below lo w w' → CRow w' ad l := fun w' hb => by
  obtain ⟨w00, h1, h2, h3, h4⟩ := h.base
  exact h2.below (h4.trans (hb.mono h3))
/-- The kids of a place, as they lie. -/
theorem SR.kids {w : World} {lo cb : Nat} {ad : Option Addr} {c : Nat} {l : List Cc} {a : F} (h : SR w lo cb ad c l a) {p : Nat} (hp : p < l.length) (hn : 0 < (tK (ndT a) p).length) :
    ∃ kb g kc, kb < lo ∧ g < lo ∧ w.cell? ⟨cb, 1, none⟩ = some (.slice (some ⟨kb, 0, none⟩) l.length l.length) ∧ w.cell? ⟨kb, p, none⟩ = some (.slice (some ⟨g, 0, none⟩) (tK (ndT a) p).length kc) ∧ ∀ i (h : i < (tK (ndT a) p).length), w.cell? ⟨g, i, none⟩ = some (.int .i64 (tK (ndT a) p)[i]) := by
  obtain ⟨w00, h1, h2, h3, h4⟩ := h.base
  obtain ⟨kb, vb, k1, k2, k3, k4, k5⟩ := h1.ex
  obtain ⟨s, s1, s2⟩ := k5 p hp
  rcases s2 with ⟨e1, e2⟩ | ⟨g, kc, e1, e2, e3, e4⟩
  · rw [e2] at hn; simp at hn
  · subst e1
    exact ⟨kb, g, kc, by omega, by omega, (h4.cell (p := ⟨cb, 1, none⟩) k1.lt).trans (k1.c 1), (h4.cell (p := ⟨kb, p, none⟩) k2).trans s1, fun i hi => (h4.cell (p := ⟨g, i, none⟩) e3).trans (e4 i hi)⟩

set_option maxRecDepth 20000 in
set_option maxHeartbeats 4000000 in
theorem l6Do_num (lo cb0 : Nat) (ad : Option Addr) (c : Nat) (l : List Cc) (a : F) (v : Value) (m : Mc) (w : World) (hCl : Cl l a) (h : SM w lo v m) (hS : SR w lo cb0 ad c l a) (hG : GM a l m) (hd : m.done = false) (x : Cc) (hxx : l[m.pl.toNat]? = some x) (k2h : Hid (x.k = 2)) :
    Calls Try.prog 98 #[.pointer (some ⟨cb0, 0, none⟩), v] w fun r w' => ∃ v', r = .returned (.tuple #[v', .bool (isL (newM m ⟨false, x.n, 0, 0⟩))]) ∧ SM w' lo v' (mcOf' m (newM m ⟨false, x.n, 0, 0⟩)) ∧ Below lo w w' ∧ ∀ (b : Nat) (cs : Array Value) (T : TypeId), T ≠ 96 → T ≠ 74 → T ≠ 124 → Bx w b cs T → Bx w' b cs T := by
  have hlo := hS.le
  obtain ⟨n1, n2⟩ := nOk_not hG.now hd
  obtain ⟨q1, q2, q3⟩ := pOk_iff.1 n2
  obtain ⟨x', d0, k, x1, x2, x3, x4, x5, x6, x7⟩ := hCl.part q1
  obtain rfl : x = x' := by rw [x2] at hxx; simpa using hxx.symm
  obtain ⟨p, hp⟩ := Int.eq_ofNat_of_zero_le q1.1
  have hp' : m.pl.toNat = p := by rw [hp]; rfl
  rw [hp'] at x1 x2 x3
  have hpl : p < l.length := by have := q1.2; omega
  have hlx : l[p] = x := by rw [List.getElem?_eq_getElem hpl] at x2; simpa using x2
  have hnv := hG.nv
  have hnb := hG.nb
  have hnf := hG.nf
  have hl6 := hCl.le
  have HBs := hide hG.bs
  have HQ2 := hide q2
  have HQ3 : Hid ((bw m.bs m.env).1 = (d0 : Int)) := hide (by rw [q3, hp']; exact x3)
  have HX1 := hide x1
  have HCl := hide hCl
  obtain ⟨af, cf, av, cv, ab, cb, rfl, h1, h2, h3⟩ := h
  obtain ⟨dn, pl, e, vl, fs, vs, bs⟩ := m
  simp only at h1 h2 h3 hd hp n1 hnv hnb hnf HBs HQ2 HQ3 ⊢
  subst hd hp n1
  have hX := (Bx.new w #[.bool false, .int .i64 (p : Int), .int .i64 e, .int .i64 (-1), .slice af fs.length cf, .slice av vs.length cv, .slice ab bs.length cb] 28).alloc (.cells #[.bool false, .int .i64 0, .int .i64 0, .int .i64 0, .slice none 0 0, .slice none 0 0, .slice none 0 0] 28)
  have hY := Bx.new (w.alloc (.cells #[.bool false, .int .i64 (p : Int), .int .i64 e, .int .i64 (-1), .slice af fs.length cf, .slice av vs.length cv, .slice ab bs.length cb] 28)) #[.bool false, .int .i64 0, .int .i64 0, .int .i64 0, .slice none 0 0, .slice none 0 0, .slice none 0 0] 28
  simp only [World.size_alloc] at hY
  have hB0 : Below w.heap.size w ((w.alloc (.cells #[.bool false, .int .i64 (p : Int), .int .i64 e, .int .i64 (-1), .slice af fs.length cf, .slice av vs.length cv, .slice ab bs.length cb] 28)).alloc (.cells #[.bool false, .int .i64 0, .int .i64 0, .int .i64 0, .slice none 0 0, .slice none 0 0, .slice none 0 0] 28)) := ((Below.refl _ _).alloc (Nat.le_refl _) _).alloc (by simp) _
  have H1 := hide (own_keep h1 (fun k _ hk => hB0.block k hk))
  have H2 := hide (own_keep h2 (fun k _ hk => hB0.block k hk))
  have H3 := hide (own_keep h3 (fun k _ hk => hB0.block k hk))
  have HS := hide (hS.below (hB0.mono hlo))
  have hcl := hS.lt
  clear hxx x2 x4 q1 q2 q3 n2 hp' hG hS hCl
  have HN0 := hide (fun (w' : World) (V : Value) (hb : SM w' lo V ⟨false, (p : Int), e, -1, fs, vs, bs⟩) (hz : lo ≤ w'.heap.size) => l6New_any lo V ⟨false, (p : Int), e, -1, fs, vs, bs⟩ ⟨false, x.n, 0, 0⟩ w' hb hnv hz)
  obtain ⟨NM, hNM⟩ : ∃ NM, NM = newM ⟨false, (p : Int), e, -1, fs, vs, bs⟩ ⟨false, x.n, 0, 0⟩ := ⟨_, rfl⟩
  simp only [← hNM] at HN0 ⊢
  obtain ⟨M, hM⟩ : ∃ M, M = mcOf' ⟨false, (p : Int), e, -1, fs, vs, bs⟩ NM := ⟨_, rfl⟩
  simp only [← hM] at HN0 ⊢
  obtain ⟨R, hR⟩ : ∃ R, R = isL NM := ⟨_, rfl⟩
  simp only [← hR] at HN0 ⊢
  clear hNM hM hR
  go_enter Try.func98, Try.ntmps98
  go_upto_region 1 with fail
  obtain ⟨w0, hw0⟩ : ∃ w0, w0 = (w.alloc (.cells #[.bool false, .int .i64 (p : Int), .int .i64 e, .int .i64 (-1), .slice af fs.length cf, .slice av vs.length cv, .slice ab bs.length cb] 28)).alloc (.cells #[.bool false, .int .i64 0, .int .i64 0, .int .i64 0, .slice none 0 0, .slice none 0 0, .slice none 0 0] 28) := ⟨_, rfl⟩
  rw [← hw0] at hX hY hB0 H1 H2 H3 HS ⊢
  clear hw0 h1 h2 h3
  have hz0 : lo ≤ w0.heap.size := Nat.le_trans hlo hB0.size
  have hyl := hY.lt
  obtain ⟨kb, vb, k1, k2, k3, k4, k5⟩ := (HS.out.cd w0 (Below.refl _ _)).ex
  have c0 : w0.cell? ⟨cb0, 0, none⟩ = some (.slice ad l.length c) := k1.c 0
  obtain ⟨b, o, hadd, hb, r0, r1⟩ := (HS.out.row w0 (Below.refl _ _)).tok (Below.refl _ _) hpl
  subst hadd
  rw [hlx] at r0 r1
  have m1 : w0.cell? ⟨w.heap.size, 1, none⟩ = some (.int .i64 (p : Int)) := hX.c 1
  have hp1 : (p : Int) < (l.length : Int) := by omega
  have hp0 : (0 : Int) ≤ (p : Int) := by omega
  have HX := hide hX
  have HY := hide hY
  clear hX hY k1 k2 k3 k4 k5 hlx
  go_cut [6] from 9 to 93 (fun v wx => v = .pointer (some ⟨w0.heap.size, 0, none⟩) ∧ Bx wx w0.heap.size #[.int .i64 x.k, .int .i64 x.n] 59 ∧ Below w0.heap.size w0 wx)
  case first =>
    go_region_held3 (fun w' => w'.cell? ⟨cb0, 0, none⟩ = some (.slice (some ⟨b, o, none⟩) l.length c) ∧ w'.cell? ⟨w.heap.size, 1, none⟩ = some (.int .i64 (p : Int)) ∧ w'.cell? ⟨b, o + p * 2, none⟩ = some (.int .i64 x.k) ∧ w'.cell? ⟨b, o + p * 2 + 1, none⟩ = some (.int .i64 x.n)) (go_keep)
      (first | fail)
    go_wp2_with fail
    go_meet
    exact ⟨rfl, (Bx.new w0 _ _).drew, belowDrew ((Below.refl _ _).alloc (Nat.le_refl _) _)⟩
  case rest =>
    obtain ⟨rfl, hC, hBc⟩ := hcut
    have HX1' := hide (HX.out.below hBc HX.out.lt)
    have HY1 := hide (HY.out.below hBc HY.out.lt)
    have HF1 := hide (own_keep H1.out (fun k _ hk => hBc.block k hk))
    have HV1 := hide (own_keep H2.out (fun k _ hk => hBc.block k hk))
    have HB1 := hide (own_keep H3.out (fun k _ hk => hBc.block k hk))
    have HS1 := hide (HS.out.below (hBc.mono hz0))
    have hB1 : Below lo w wc := (hB0.mono hlo).trans (hBc.mono hz0)
    have hz1 : lo ≤ wc.heap.size := Nat.le_trans hlo hB1.size
    have hyl1 := HY1.out.lt
    have hSm : SM wc lo (.agg #[.bool false, .int .i64 (p : Int), .int .i64 e, .int .i64 (-1), .slice af fs.length cf, .slice av vs.length cv, .slice ab bs.length cb]) ⟨false, (p : Int), e, -1, fs, vs, bs⟩ := ⟨_, _, _, _, _, _, rfl, HF1.out, HV1.out, HB1.out⟩
    have HSm := hide hSm
    have cx := HX1'.out.c
    have cc := hC.c
    have HKc : Hid (∀ (b : Nat) (cs : Array Value) (T : TypeId), Bx w b cs T → Bx wc b cs T) := hide (fun bb cs TT hbx => (hbx.below hB0 hbx.lt).below hBc (hbx.below hB0 hbx.lt).lt)
    clear c0 r0 r1 m1 HX HY H1 H2 H3 HS hBc hSm hB0 hyl
    have k2 := k2h.out
    rw [k2] at cc
    go_wp2_with fail
    refine (HN0.out _ _ HSm.out hz1).mono ?_
    rintro r w2 ⟨v2, rfl, hs2, hb2, hk2⟩
    have HY2 := hide (hk2 _ _ _ (by decide) HY1.out)
    have HK2 := hide hk2
    have hB2 : Below lo w w2 := hB1.trans hb2
    have cy := HY2.out.c
    have fy := HY2.out.f
    obtain ⟨f1, g1, f2, g2, f3, g3, rfl, s1, s2, s3⟩ := hs2
    have S1 := hide s1
    have S2 := hide s2
    have S3 := hide s3
    clear hk2 hb2 cx cc s1 s2 s3
    obtain ⟨md, mp, me, mx, mf, mv, mb⟩ := M
    simp only at S1 S2 S3 ⊢
    go_wp2_with fail
    refine bodyPost_ret (v := .tuple #[.agg #[.bool md, .int .i64 mp, .int .i64 me, .int .i64 mx, .slice f1 mf.length g1, .slice f2 mv.length g2, .slice f3 mb.length g3], .bool R]) (by simp [results, Try.results98, go_sem, cy]) rfl ⟨_, rfl, ?_, ?_, fun bb cs TT t1 t2 t3 hbx => ((((((((HK2.out bb cs TT t2 (HKc.out bb cs TT hbx)).setne (w.heap.size + 1) 0 _ (by have := hbx.lt; omega)).setne (w.heap.size + 1) 1 _ (by have := hbx.lt; omega)).setne (w.heap.size + 1) 2 _ (by have := hbx.lt; omega)).setne (w.heap.size + 1) 3 _ (by have := hbx.lt; omega)).setne (w.heap.size + 1) 4 _ (by have := hbx.lt; omega)).setne (w.heap.size + 1) 5 _ (by have := hbx.lt; omega)).setne (w.heap.size + 1) 6 _ (by have := hbx.lt; omega))⟩
    · have q0 : Kp w2 (w.heap.size + 1) lo (.slice f1 mf.length g1) (.slice f2 mv.length g2) (.slice f3 mb.length g3) mf mv mb := ⟨⟨_, HY2.out⟩, S1.out, S2.out, S3.out⟩
      exact (((((((q0.set 0 _).set 1 _).set 2 _).set 3 _).set 4 _).set 5 _).set 6 _).sm md mp me mx
    · exact bsc (bsc (bsc (bsc (bsc (bsc (bsc hB2 _ _ _ (by omega)) _ _ _ (by omega)) _ _ _ (by omega)) _ _ _ (by omega)) _ _ _ (by omega)) _ _ _ (by omega)) _ _ _ (by omega)

set_option maxRecDepth 20000 in
set_option maxHeartbeats 4000000 in
theorem l6Do_lam (lo cb0 : Nat) (ad : Option Addr) (c : Nat) (l : List Cc) (a : F) (v : Value) (m : Mc) (w : World) (hCl : Cl l a) (h : SM w lo v m) (hS : SR w lo cb0 ad c l a) (hG : GM a l m) (hd : m.done = false) (x : Cc) (hxx : l[m.pl.toNat]? = some x) (k2h : Hid (x.k = 3)) :
    Calls Try.prog 98 #[.pointer (some ⟨cb0, 0, none⟩), v] w fun r w' => ∃ v', r = .returned (.tuple #[v', .bool (isL (newM m ⟨true, 0, m.pl, m.env⟩))]) ∧ SM w' lo v' (mcOf' m (newM m ⟨true, 0, m.pl, m.env⟩)) ∧ Below lo w w' ∧ ∀ (b : Nat) (cs : Array Value) (T : TypeId), T ≠ 96 → T ≠ 74 → T ≠ 124 → Bx w b cs T → Bx w' b cs T := by
  have hlo := hS.le
  obtain ⟨n1, n2⟩ := nOk_not hG.now hd
  obtain ⟨q1, q2, q3⟩ := pOk_iff.1 n2
  obtain ⟨x', d0, k, x1, x2, x3, x4, x5, x6, x7⟩ := hCl.part q1
  obtain rfl : x = x' := by rw [x2] at hxx; simpa using hxx.symm
  obtain ⟨p, hp⟩ := Int.eq_ofNat_of_zero_le q1.1
  have hp' : m.pl.toNat = p := by rw [hp]; rfl
  rw [hp'] at x1 x2 x3
  have hpl : p < l.length := by have := q1.2; omega
  have hlx : l[p] = x := by rw [List.getElem?_eq_getElem hpl] at x2; simpa using x2
  have hnv := hG.nv
  have hnb := hG.nb
  have hnf := hG.nf
  have hl6 := hCl.le
  have HBs := hide hG.bs
  have HQ2 := hide q2
  have HQ3 : Hid ((bw m.bs m.env).1 = (d0 : Int)) := hide (by rw [q3, hp']; exact x3)
  have HX1 := hide x1
  have HCl := hide hCl
  obtain ⟨af, cf, av, cv, ab, cb, rfl, h1, h2, h3⟩ := h
  obtain ⟨dn, pl, e, vl, fs, vs, bs⟩ := m
  simp only at h1 h2 h3 hd hp n1 hnv hnb hnf HBs HQ2 HQ3 ⊢
  subst hd hp n1
  have hX := (Bx.new w #[.bool false, .int .i64 (p : Int), .int .i64 e, .int .i64 (-1), .slice af fs.length cf, .slice av vs.length cv, .slice ab bs.length cb] 28).alloc (.cells #[.bool false, .int .i64 0, .int .i64 0, .int .i64 0, .slice none 0 0, .slice none 0 0, .slice none 0 0] 28)
  have hY := Bx.new (w.alloc (.cells #[.bool false, .int .i64 (p : Int), .int .i64 e, .int .i64 (-1), .slice af fs.length cf, .slice av vs.length cv, .slice ab bs.length cb] 28)) #[.bool false, .int .i64 0, .int .i64 0, .int .i64 0, .slice none 0 0, .slice none 0 0, .slice none 0 0] 28
  simp only [World.size_alloc] at hY
  have hB0 : Below w.heap.size w ((w.alloc (.cells #[.bool false, .int .i64 (p : Int), .int .i64 e, .int .i64 (-1), .slice af fs.length cf, .slice av vs.length cv, .slice ab bs.length cb] 28)).alloc (.cells #[.bool false, .int .i64 0, .int .i64 0, .int .i64 0, .slice none 0 0, .slice none 0 0, .slice none 0 0] 28)) := ((Below.refl _ _).alloc (Nat.le_refl _) _).alloc (by simp) _
  have H1 := hide (own_keep h1 (fun k _ hk => hB0.block k hk))
  have H2 := hide (own_keep h2 (fun k _ hk => hB0.block k hk))
  have H3 := hide (own_keep h3 (fun k _ hk => hB0.block k hk))
  have HS := hide (hS.below (hB0.mono hlo))
  have hcl := hS.lt
  clear hxx x2 x4 q1 q2 q3 n2 hp' hG hS hCl
  have HN0 := hide (fun (w' : World) (V : Value) (hb : SM w' lo V ⟨false, (p : Int), e, -1, fs, vs, bs⟩) (hz : lo ≤ w'.heap.size) => l6New_any lo V ⟨false, (p : Int), e, -1, fs, vs, bs⟩ ⟨true, 0, (p : Int), e⟩ w' hb hnv hz)
  obtain ⟨NM, hNM⟩ : ∃ NM, NM = newM ⟨false, (p : Int), e, -1, fs, vs, bs⟩ ⟨true, 0, (p : Int), e⟩ := ⟨_, rfl⟩
  simp only [← hNM] at HN0 ⊢
  obtain ⟨M, hM⟩ : ∃ M, M = mcOf' ⟨false, (p : Int), e, -1, fs, vs, bs⟩ NM := ⟨_, rfl⟩
  simp only [← hM] at HN0 ⊢
  obtain ⟨R, hR⟩ : ∃ R, R = isL NM := ⟨_, rfl⟩
  simp only [← hR] at HN0 ⊢
  clear hNM hM hR
  go_enter Try.func98, Try.ntmps98
  go_upto_region 1 with fail
  obtain ⟨w0, hw0⟩ : ∃ w0, w0 = (w.alloc (.cells #[.bool false, .int .i64 (p : Int), .int .i64 e, .int .i64 (-1), .slice af fs.length cf, .slice av vs.length cv, .slice ab bs.length cb] 28)).alloc (.cells #[.bool false, .int .i64 0, .int .i64 0, .int .i64 0, .slice none 0 0, .slice none 0 0, .slice none 0 0] 28) := ⟨_, rfl⟩
  rw [← hw0] at hX hY hB0 H1 H2 H3 HS ⊢
  clear hw0 h1 h2 h3
  have hz0 : lo ≤ w0.heap.size := Nat.le_trans hlo hB0.size
  have hyl := hY.lt
  obtain ⟨kb, vb, k1, k2, k3, k4, k5⟩ := (HS.out.cd w0 (Below.refl _ _)).ex
  have c0 : w0.cell? ⟨cb0, 0, none⟩ = some (.slice ad l.length c) := k1.c 0
  obtain ⟨b, o, hadd, hb, r0, r1⟩ := (HS.out.row w0 (Below.refl _ _)).tok (Below.refl _ _) hpl
  subst hadd
  rw [hlx] at r0 r1
  have m1 : w0.cell? ⟨w.heap.size, 1, none⟩ = some (.int .i64 (p : Int)) := hX.c 1
  have hp1 : (p : Int) < (l.length : Int) := by omega
  have hp0 : (0 : Int) ≤ (p : Int) := by omega
  have HX := hide hX
  have HY := hide hY
  clear hX hY k1 k2 k3 k4 k5 hlx
  go_cut [6] from 9 to 93 (fun v wx => v = .pointer (some ⟨w0.heap.size, 0, none⟩) ∧ Bx wx w0.heap.size #[.int .i64 x.k, .int .i64 x.n] 59 ∧ Below w0.heap.size w0 wx)
  case first =>
    go_region_held3 (fun w' => w'.cell? ⟨cb0, 0, none⟩ = some (.slice (some ⟨b, o, none⟩) l.length c) ∧ w'.cell? ⟨w.heap.size, 1, none⟩ = some (.int .i64 (p : Int)) ∧ w'.cell? ⟨b, o + p * 2, none⟩ = some (.int .i64 x.k) ∧ w'.cell? ⟨b, o + p * 2 + 1, none⟩ = some (.int .i64 x.n)) (go_keep)
      (first | fail)
    go_wp2_with fail
    go_meet
    exact ⟨rfl, (Bx.new w0 _ _).drew, belowDrew ((Below.refl _ _).alloc (Nat.le_refl _) _)⟩
  case rest =>
    obtain ⟨rfl, hC, hBc⟩ := hcut
    have HX1' := hide (HX.out.below hBc HX.out.lt)
    have HY1 := hide (HY.out.below hBc HY.out.lt)
    have HF1 := hide (own_keep H1.out (fun k _ hk => hBc.block k hk))
    have HV1 := hide (own_keep H2.out (fun k _ hk => hBc.block k hk))
    have HB1 := hide (own_keep H3.out (fun k _ hk => hBc.block k hk))
    have HS1 := hide (HS.out.below (hBc.mono hz0))
    have hB1 : Below lo w wc := (hB0.mono hlo).trans (hBc.mono hz0)
    have hz1 : lo ≤ wc.heap.size := Nat.le_trans hlo hB1.size
    have hyl1 := HY1.out.lt
    have hSm : SM wc lo (.agg #[.bool false, .int .i64 (p : Int), .int .i64 e, .int .i64 (-1), .slice af fs.length cf, .slice av vs.length cv, .slice ab bs.length cb]) ⟨false, (p : Int), e, -1, fs, vs, bs⟩ := ⟨_, _, _, _, _, _, rfl, HF1.out, HV1.out, HB1.out⟩
    have HSm := hide hSm
    have cx := HX1'.out.c
    have cc := hC.c
    have HKc : Hid (∀ (b : Nat) (cs : Array Value) (T : TypeId), Bx w b cs T → Bx wc b cs T) := hide (fun bb cs TT hbx => (hbx.below hB0 hbx.lt).below hBc (hbx.below hB0 hbx.lt).lt)
    clear c0 r0 r1 m1 HX HY H1 H2 H3 HS hBc hSm hB0 hyl
    have k2 := k2h.out
    rw [k2] at cc
    go_wp2_with fail
    refine (HN0.out _ _ HSm.out hz1).mono ?_
    rintro r w2 ⟨v2, rfl, hs2, hb2, hk2⟩
    have HY2 := hide (hk2 _ _ _ (by decide) HY1.out)
    have HK2 := hide hk2
    have hB2 : Below lo w w2 := hB1.trans hb2
    have cy := HY2.out.c
    have fy := HY2.out.f
    obtain ⟨f1, g1, f2, g2, f3, g3, rfl, s1, s2, s3⟩ := hs2
    have S1 := hide s1
    have S2 := hide s2
    have S3 := hide s3
    clear hk2 hb2 cx cc s1 s2 s3
    obtain ⟨md, mp, me, mx, mf, mv, mb⟩ := M
    simp only at S1 S2 S3 ⊢
    go_wp2_with fail
    refine bodyPost_ret (v := .tuple #[.agg #[.bool md, .int .i64 mp, .int .i64 me, .int .i64 mx, .slice f1 mf.length g1, .slice f2 mv.length g2, .slice f3 mb.length g3], .bool R]) (by simp [results, Try.results98, go_sem, cy]) rfl ⟨_, rfl, ?_, ?_, fun bb cs TT t1 t2 t3 hbx => ((((((((HK2.out bb cs TT t2 (HKc.out bb cs TT hbx)).setne (w.heap.size + 1) 0 _ (by have := hbx.lt; omega)).setne (w.heap.size + 1) 1 _ (by have := hbx.lt; omega)).setne (w.heap.size + 1) 2 _ (by have := hbx.lt; omega)).setne (w.heap.size + 1) 3 _ (by have := hbx.lt; omega)).setne (w.heap.size + 1) 4 _ (by have := hbx.lt; omega)).setne (w.heap.size + 1) 5 _ (by have := hbx.lt; omega)).setne (w.heap.size + 1) 6 _ (by have := hbx.lt; omega))⟩
    · have q0 : Kp w2 (w.heap.size + 1) lo (.slice f1 mf.length g1) (.slice f2 mv.length g2) (.slice f3 mb.length g3) mf mv mb := ⟨⟨_, HY2.out⟩, S1.out, S2.out, S3.out⟩
      exact (((((((q0.set 0 _).set 1 _).set 2 _).set 3 _).set 4 _).set 5 _).set 6 _).sm md mp me mx
    · exact bsc (bsc (bsc (bsc (bsc (bsc (bsc hB2 _ _ _ (by omega)) _ _ _ (by omega)) _ _ _ (by omega)) _ _ _ (by omega)) _ _ _ (by omega)) _ _ _ (by omega)) _ _ _ (by omega)
end Go.Proofs.Ytdajalchdbgooaa.W

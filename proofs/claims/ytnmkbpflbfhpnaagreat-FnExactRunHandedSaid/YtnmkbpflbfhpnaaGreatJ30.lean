/-
  Some texts of this proof in one: MaX4, MaX5, MaX6.
-/
import Derived.Test.YtnmkbpflbfhpnaaGreatJ29
import Derived.Test.YtnmkbpflbfhpnaaGreatJ23
import Derived.Deep.RegionHeld3
import Derived.Deep.RegionLaw
import Derived.Deep.AppendLies
import Derived.Deep.CutRange
import Derived.Test.YtnmkbpflbfhpnaaGreatJ25
/-
  Contracts of l6Do. Conditions: good machines of closed terms.
-/
namespace Go.Proofs.YtnmkbpflbfhpnaaGreat.W
open Go.ChangeShapes Go.WideShapes Go.ChangeAt Go.RowKit
set_option linter.unusedVariables false
set_option linter.unusedSimpArgs false

/-- The code and its term stay, whatever becomes of blocks from lo on. -/
structure SR (w : World) (lo cb : Nat) (ad : Option Addr) (c : Nat) (l : List Cc) (a : F) : Prop where
  base : ∃ w00 : World, CD w00 cb (.slice ad l.length c) l.length a ∧ CRow w00 ad l ∧ w00.heap.size ≤ lo ∧ Below w00.heap.size w00 w
  le : lo ≤ w.heap.size
  lt : cb < lo
theorem SR.below {w w' : World} {lo cb : Nat} {ad : Option Addr} {c : Nat} {l : List Cc} {a : F} (h : SR w lo cb ad c l a) (hb : Below lo w w') : SR w' lo cb ad c l a := by
  obtain ⟨w00, h1, h2, h3, h4⟩ := h.base
  exact ⟨⟨w00, h1, h2, h3, h4.trans (hb.mono h3)⟩, Nat.le_trans h.le hb.size, h.lt⟩
theorem SR.cd {w : World} {lo cb : Nat} {ad : Option Addr} {c : Nat} {l : List Cc} {a : F} (h : SR w lo cb ad c l a) : ∀ w', Below lo w w' → CD w' cb (.slice ad l.length c) l.length a := fun w' hb => by
  obtain ⟨w00, h1, h2, h3, h4⟩ := h.base
  exact h1.below (h4.trans (hb.mono h3))
theorem SR.row {w : World} {lo cb : Nat} {ad : Option Addr} {c : Nat} {l : List Cc} {a : F} (h : SR w lo cb ad c l a) : ∀ w', Below lo w w' → CRow w' ad l := fun w' hb => by
  obtain ⟨w00, h1, h2, h3, h4⟩ := h.base
  exact h2.below (h4.trans (hb.mono h3))
/-- The kids of a place, as they lie. -/
theorem SR.kids {w : World} {lo cb : Nat} {ad : Option Addr} {c : Nat} {l : List Cc} {a : F} (h : SR w lo cb ad c l a) {p : Nat} (hp : p < l.length) (hn : 0 < (tK (ndT a) p).length) :
    ∃ kb g kc, kb < lo ∧ g < lo ∧ w.cell? ⟨cb, 1, none⟩ = some (.slice (some ⟨kb, 0, none⟩) l.length l.length) ∧ w.cell? ⟨kb, p, none⟩ = some (.slice (some ⟨g, 0, none⟩) (tK (ndT a) p).length kc) ∧ ∀ i (h : i < (tK (ndT a) p).length), w.cell? ⟨g, i, none⟩ = some (.int .i64 (tK (ndT a) p)[i]) := by
  obtain ⟨w00, h1, h2, h3, h4⟩ := h.base
  obtain ⟨kb, vb, k1, k2, k3, k4, k5⟩ := h1.ex
  obtain ⟨s, s1, s2⟩ := k5 p hp
  rcases s2 with ⟨e1, e2⟩ | ⟨g, kc, e1, e2, e3, e4⟩
  · rw [e2] at hn; simp at hn
  · subst e1
    exact ⟨kb, g, kc, by omega, by omega, (h4.cell (p := ⟨cb, 1, none⟩) k1.lt).trans (k1.c 1), (h4.cell (p := ⟨kb, p, none⟩) k2).trans s1, fun i hi => (h4.cell (p := ⟨g, i, none⟩) e3).trans (e4 i hi)⟩

set_option maxRecDepth 20000 in
set_option maxHeartbeats 4000000 in
theorem l6Do_num (lo cb0 : Nat) (ad : Option Addr) (c : Nat) (l : List Cc) (a : F) (v : Value) (m : Mc) (w : World) (hCl : Cl l a) (h : SM w lo v m) (hS : SR w lo cb0 ad c l a) (hG : GM a l m) (hd : m.done = false) (x : Cc) (hxx : l[m.pl.toNat]? = some x) (k2h : Hid (x.k = 2)) :
    Calls Tryz.prog 103 #[.pointer (some ⟨cb0, 0, none⟩), v] w fun r w' => ∃ v', r = .returned (.tuple #[v', .bool (isL (newM m ⟨false, x.n, 0, 0⟩))]) ∧ SM w' lo v' (mcOf' m (newM m ⟨false, x.n, 0, 0⟩)) ∧ Below lo w w' ∧ ∀ (b : Nat) (cs : Array Value) (T : TypeId), T ≠ 141 → T ≠ 69 → T ≠ 162 → Bx w b cs T → Bx w' b cs T := by
  have hlo := hS.le
  obtain ⟨n1, n2⟩ := nOk_not hG.now hd
  obtain ⟨q1, q2, q3⟩ := pOk_iff.1 n2
  obtain ⟨x', d0, k, x1, x2, x3, x4, x5, x6, x7⟩ := hCl.part q1
  obtain rfl : x = x' := by rw [x2] at hxx; simpa using hxx.symm
  obtain ⟨p, hp⟩ := Int.eq_ofNat_of_zero_le q1.1
  have hp' : m.pl.toNat = p := by rw [hp]; rfl
  rw [hp'] at x1 x2 x3
  have hpl : p < l.length := by have := q1.2; omega
  have hlx : l[p] = x := by rw [List.getElem?_eq_getElem hpl] at x2; simpa using x2
  have hnv := hG.nv
  have hnb := hG.nb
  have hnf := hG.nf
  have hl6 := hCl.le
  have HBs := hide hG.bs
  have HQ2 := hide q2
  have HQ3 : Hid ((bw m.bs m.env).1 = (d0 : Int)) := hide (by rw [q3, hp']; exact x3)
  have HX1 := hide x1
  have HCl := hide hCl
  obtain ⟨af, cf, av, cv, ab, cb, rfl, h1, h2, h3⟩ := h
  obtain ⟨dn, pl, e, vl, fs, vs, bs⟩ := m
  simp only at h1 h2 h3 hd hp n1 hnv hnb hnf HBs HQ2 HQ3 ⊢
  subst hd hp n1
  have hX := (Bx.new w #[.bool false, .int .i64 (p : Int), .int .i64 e, .int .i64 (-1), .slice af fs.length cf, .slice av vs.length cv, .slice ab bs.length cb] 61).alloc (.cells #[.bool false, .int .i64 0, .int .i64 0, .int .i64 0, .slice none 0 0, .slice none 0 0, .slice none 0 0] 61)
  have hY := Bx.new (w.alloc (.cells #[.bool false, .int .i64 (p : Int), .int .i64 e, .int .i64 (-1), .slice af fs.length cf, .slice av vs.length cv, .slice ab bs.length cb] 61)) #[.bool false, .int .i64 0, .int .i64 0, .int .i64 0, .slice none 0 0, .slice none 0 0, .slice none 0 0] 61
  simp only [World.size_alloc] at hY
  have hB0 : Below w.heap.size w ((w.alloc (.cells #[.bool false, .int .i64 (p : Int), .int .i64 e, .int .i64 (-1), .slice af fs.length cf, .slice av vs.length cv, .slice ab bs.length cb] 61)).alloc (.cells #[.bool false, .int .i64 0, .int .i64 0, .int .i64 0, .slice none 0 0, .slice none 0 0, .slice none 0 0] 61)) := ((Below.refl _ _).alloc (Nat.le_refl _) _).alloc (by simp) _
  have H1 := hide (own_keep h1 (fun k _ hk => hB0.block k hk))
  have H2 := hide (own_keep h2 (fun k _ hk => hB0.block k hk))
  have H3 := hide (own_keep h3 (fun k _ hk => hB0.block k hk))
  have HS := hide (hS.below (hB0.mono hlo))
  have hcl := hS.lt
  clear hxx x2 x4 q1 q2 q3 n2 hp' hG hS hCl
  have HN0 := hide (fun (w' : World) (V : Value) (hb : SM w' lo V ⟨false, (p : Int), e, -1, fs, vs, bs⟩) (hz : lo ≤ w'.heap.size) => l6New_any lo V ⟨false, (p : Int), e, -1, fs, vs, bs⟩ ⟨false, x.n, 0, 0⟩ w' hb hnv hz)
  obtain ⟨NM, hNM⟩ : ∃ NM, NM = newM ⟨false, (p : Int), e, -1, fs, vs, bs⟩ ⟨false, x.n, 0, 0⟩ := ⟨_, rfl⟩
  simp only [← hNM] at HN0 ⊢
  obtain ⟨M, hM⟩ : ∃ M, M = mcOf' ⟨false, (p : Int), e, -1, fs, vs, bs⟩ NM := ⟨_, rfl⟩
  simp only [← hM] at HN0 ⊢
  obtain ⟨R, hR⟩ : ∃ R, R = isL NM := ⟨_, rfl⟩
  simp only [← hR] at HN0 ⊢
  clear hNM hM hR
  go_enter Tryz.func103, Tryz.ntmps103
  go_upto_region 1 with fail
  obtain ⟨w0, hw0⟩ : ∃ w0, w0 = (w.alloc (.cells #[.bool false, .int .i64 (p : Int), .int .i64 e, .int .i64 (-1), .slice af fs.length cf, .slice av vs.length cv, .slice ab bs.length cb] 61)).alloc (.cells #[.bool false, .int .i64 0, .int .i64 0, .int .i64 0, .slice none 0 0, .slice none 0 0, .slice none 0 0] 61) := ⟨_, rfl⟩
  rw [← hw0] at hX hY hB0 H1 H2 H3 HS ⊢
  clear hw0 h1 h2 h3
  have hz0 : lo ≤ w0.heap.size := Nat.le_trans hlo hB0.size
  have hyl := hY.lt
  obtain ⟨kb, vb, k1, k2, k3, k4, k5⟩ := (HS.out.cd w0 (Below.refl _ _)).ex
  have c0 : w0.cell? ⟨cb0, 0, none⟩ = some (.slice ad l.length c) := k1.c 0
  obtain ⟨b, o, hadd, hb, r0, r1⟩ := (HS.out.row w0 (Below.refl _ _)).tok (Below.refl _ _) hpl
  subst hadd
  rw [hlx] at r0 r1
  have m1 : w0.cell? ⟨w.heap.size, 1, none⟩ = some (.int .i64 (p : Int)) := hX.c 1
  have hp1 : (p : Int) < (l.length : Int) := by omega
  have hp0 : (0 : Int) ≤ (p : Int) := by omega
  have HX := hide hX
  have HY := hide hY
  clear hX hY k1 k2 k3 k4 k5 hlx
  go_cut [6] from 9 to 93 (fun v wx => v = .pointer (some ⟨w0.heap.size, 0, none⟩) ∧ Bx wx w0.heap.size #[.int .i64 x.k, .int .i64 x.n] 46 ∧ Below w0.heap.size w0 wx)
  case first =>
    go_region_held3 (fun w' => w'.cell? ⟨cb0, 0, none⟩ = some (.slice (some ⟨b, o, none⟩) l.length c) ∧ w'.cell? ⟨w.heap.size, 1, none⟩ = some (.int .i64 (p : Int)) ∧ w'.cell? ⟨b, o + p * 2, none⟩ = some (.int .i64 x.k) ∧ w'.cell? ⟨b, o + p * 2 + 1, none⟩ = some (.int .i64 x.n)) (go_keep)
      (first | fail)
    go_wp2_with fail
    go_meet
    exact ⟨rfl, (Bx.new w0 _ _).drew, belowDrew ((Below.refl _ _).alloc (Nat.le_refl _) _)⟩
  case rest =>
    obtain ⟨rfl, hC, hBc⟩ := hcut
    have HX1' := hide (HX.out.below hBc HX.out.lt)
    have HY1 := hide (HY.out.below hBc HY.out.lt)
    have HF1 := hide (own_keep H1.out (fun k _ hk => hBc.block k hk))
    have HV1 := hide (own_keep H2.out (fun k _ hk => hBc.block k hk))
    have HB1 := hide (own_keep H3.out (fun k _ hk => hBc.block k hk))
    have HS1 := hide (HS.out.below (hBc.mono hz0))
    have hB1 : Below lo w wc := (hB0.mono hlo).trans (hBc.mono hz0)
    have hz1 : lo ≤ wc.heap.size := Nat.le_trans hlo hB1.size
    have hyl1 := HY1.out.lt
    have hSm : SM wc lo (.agg #[.bool false, .int .i64 (p : Int), .int .i64 e, .int .i64 (-1), .slice af fs.length cf, .slice av vs.length cv, .slice ab bs.length cb]) ⟨false, (p : Int), e, -1, fs, vs, bs⟩ := ⟨_, _, _, _, _, _, rfl, HF1.out, HV1.out, HB1.out⟩
    have HSm := hide hSm
    have cx := HX1'.out.c
    have cc := hC.c
    have HKc : Hid (∀ (b : Nat) (cs : Array Value) (T : TypeId), Bx w b cs T → Bx wc b cs T) := hide (fun bb cs TT hbx => (hbx.below hB0 hbx.lt).below hBc (hbx.below hB0 hbx.lt).lt)
    clear c0 r0 r1 m1 HX HY H1 H2 H3 HS hBc hSm hB0 hyl
    have k2 := k2h.out
    rw [k2] at cc
    go_wp2_with fail
    refine (HN0.out _ _ HSm.out hz1).mono ?_
    rintro r w2 ⟨v2, rfl, hs2, hb2, hk2⟩
    have HY2 := hide (hk2 _ _ _ (by decide) HY1.out)
    have HK2 := hide hk2
    have hB2 : Below lo w w2 := hB1.trans hb2
    have cy := HY2.out.c
    have fy := HY2.out.f
    obtain ⟨f1, g1, f2, g2, f3, g3, rfl, s1, s2, s3⟩ := hs2
    have S1 := hide s1
    have S2 := hide s2
    have S3 := hide s3
    clear hk2 hb2 cx cc s1 s2 s3
    obtain ⟨md, mp, me, mx, mf, mv, mb⟩ := M
    simp only at S1 S2 S3 ⊢
    go_wp2_with fail
    refine bodyPost_ret (v := .tuple #[.agg #[.bool md, .int .i64 mp, .int .i64 me, .int .i64 mx, .slice f1 mf.length g1, .slice f2 mv.length g2, .slice f3 mb.length g3], .bool R]) (by simp [results, Tryz.results103, go_sem, cy]) rfl ⟨_, rfl, ?_, ?_, fun bb cs TT t1 t2 t3 hbx => ((((((((HK2.out bb cs TT t2 (HKc.out bb cs TT hbx)).setne (w.heap.size + 1) 0 _ (by have := hbx.lt; omega)).setne (w.heap.size + 1) 1 _ (by have := hbx.lt; omega)).setne (w.heap.size + 1) 2 _ (by have := hbx.lt; omega)).setne (w.heap.size + 1) 3 _ (by have := hbx.lt; omega)).setne (w.heap.size + 1) 4 _ (by have := hbx.lt; omega)).setne (w.heap.size + 1) 5 _ (by have := hbx.lt; omega)).setne (w.heap.size + 1) 6 _ (by have := hbx.lt; omega))⟩
    · have q0 : Kp w2 (w.heap.size + 1) lo (.slice f1 mf.length g1) (.slice f2 mv.length g2) (.slice f3 mb.length g3) mf mv mb := ⟨⟨_, HY2.out⟩, S1.out, S2.out, S3.out⟩
      exact (((((((q0.set 0 _).set 1 _).set 2 _).set 3 _).set 4 _).set 5 _).set 6 _).sm md mp me mx
    · exact bsc (bsc (bsc (bsc (bsc (bsc (bsc hB2 _ _ _ (by omega)) _ _ _ (by omega)) _ _ _ (by omega)) _ _ _ (by omega)) _ _ _ (by omega)) _ _ _ (by omega)) _ _ _ (by omega)

set_option maxRecDepth 20000 in
set_option maxHeartbeats 4000000 in
theorem l6Do_lam (lo cb0 : Nat) (ad : Option Addr) (c : Nat) (l : List Cc) (a : F) (v : Value) (m : Mc) (w : World) (hCl : Cl l a) (h : SM w lo v m) (hS : SR w lo cb0 ad c l a) (hG : GM a l m) (hd : m.done = false) (x : Cc) (hxx : l[m.pl.toNat]? = some x) (k2h : Hid (x.k = 3)) :
    Calls Tryz.prog 103 #[.pointer (some ⟨cb0, 0, none⟩), v] w fun r w' => ∃ v', r = .returned (.tuple #[v', .bool (isL (newM m ⟨true, 0, m.pl, m.env⟩))]) ∧ SM w' lo v' (mcOf' m (newM m ⟨true, 0, m.pl, m.env⟩)) ∧ Below lo w w' ∧ ∀ (b : Nat) (cs : Array Value) (T : TypeId), T ≠ 141 → T ≠ 69 → T ≠ 162 → Bx w b cs T → Bx w' b cs T := by
  have hlo := hS.le
  obtain ⟨n1, n2⟩ := nOk_not hG.now hd
  obtain ⟨q1, q2, q3⟩ := pOk_iff.1 n2
  obtain ⟨x', d0, k, x1, x2, x3, x4, x5, x6, x7⟩ := hCl.part q1
  obtain rfl : x = x' := by rw [x2] at hxx; simpa using hxx.symm
  obtain ⟨p, hp⟩ := Int.eq_ofNat_of_zero_le q1.1
  have hp' : m.pl.toNat = p := by rw [hp]; rfl
  rw [hp'] at x1 x2 x3
  have hpl : p < l.length := by have := q1.2; omega
  have hlx : l[p] = x := by rw [List.getElem?_eq_getElem hpl] at x2; simpa using x2
  have hnv := hG.nv
  have hnb := hG.nb
  have hnf := hG.nf
  have hl6 := hCl.le
  have HBs := hide hG.bs
  have HQ2 := hide q2
  have HQ3 : Hid ((bw m.bs m.env).1 = (d0 : Int)) := hide (by rw [q3, hp']; exact x3)
  have HX1 := hide x1
  have HCl := hide hCl
  obtain ⟨af, cf, av, cv, ab, cb, rfl, h1, h2, h3⟩ := h
  obtain ⟨dn, pl, e, vl, fs, vs, bs⟩ := m
  simp only at h1 h2 h3 hd hp n1 hnv hnb hnf HBs HQ2 HQ3 ⊢
  subst hd hp n1
  have hX := (Bx.new w #[.bool false, .int .i64 (p : Int), .int .i64 e, .int .i64 (-1), .slice af fs.length cf, .slice av vs.length cv, .slice ab bs.length cb] 61).alloc (.cells #[.bool false, .int .i64 0, .int .i64 0, .int .i64 0, .slice none 0 0, .slice none 0 0, .slice none 0 0] 61)
  have hY := Bx.new (w.alloc (.cells #[.bool false, .int .i64 (p : Int), .int .i64 e, .int .i64 (-1), .slice af fs.length cf, .slice av vs.length cv, .slice ab bs.length cb] 61)) #[.bool false, .int .i64 0, .int .i64 0, .int .i64 0, .slice none 0 0, .slice none 0 0, .slice none 0 0] 61
  simp only [World.size_alloc] at hY
  have hB0 : Below w.heap.size w ((w.alloc (.cells #[.bool false, .int .i64 (p : Int), .int .i64 e, .int .i64 (-1), .slice af fs.length cf, .slice av vs.length cv, .slice ab bs.length cb] 61)).alloc (.cells #[.bool false, .int .i64 0, .int .i64 0, .int .i64 0, .slice none 0 0, .slice none 0 0, .slice none 0 0] 61)) := ((Below.refl _ _).alloc (Nat.le_refl _) _).alloc (by simp) _
  have H1 := hide (own_keep h1 (fun k _ hk => hB0.block k hk))
  have H2 := hide (own_keep h2 (fun k _ hk => hB0.block k hk))
  have H3 := hide (own_keep h3 (fun k _ hk => hB0.block k hk))
  have HS := hide (hS.below (hB0.mono hlo))
  have hcl := hS.lt
  clear hxx x2 x4 q1 q2 q3 n2 hp' hG hS hCl
  have HN0 := hide (fun (w' : World) (V : Value) (hb : SM w' lo V ⟨false, (p : Int), e, -1, fs, vs, bs⟩) (hz : lo ≤ w'.heap.size) => l6New_any lo V ⟨false, (p : Int), e, -1, fs, vs, bs⟩ ⟨true, 0, (p : Int), e⟩ w' hb hnv hz)
  obtain ⟨NM, hNM⟩ : ∃ NM, NM = newM ⟨false, (p : Int), e, -1, fs, vs, bs⟩ ⟨true, 0, (p : Int), e⟩ := ⟨_, rfl⟩
  simp only [← hNM] at HN0 ⊢
  obtain ⟨M, hM⟩ : ∃ M, M = mcOf' ⟨false, (p : Int), e, -1, fs, vs, bs⟩ NM := ⟨_, rfl⟩
  simp only [← hM] at HN0 ⊢
  obtain ⟨R, hR⟩ : ∃ R, R = isL NM := ⟨_, rfl⟩
  simp only [← hR] at HN0 ⊢
  clear hNM hM hR
  go_enter Tryz.func103, Tryz.ntmps103
  go_upto_region 1 with fail
  obtain ⟨w0, hw0⟩ : ∃ w0, w0 = (w.alloc (.cells #[.bool false, .int .i64 (p : Int), .int .i64 e, .int .i64 (-1), .slice af fs.length cf, .slice av vs.length cv, .slice ab bs.length cb] 61)).alloc (.cells #[.bool false, .int .i64 0, .int .i64 0, .int .i64 0, .slice none 0 0, .slice none 0 0, .slice none 0 0] 61) := ⟨_, rfl⟩
  rw [← hw0] at hX hY hB0 H1 H2 H3 HS ⊢
  clear hw0 h1 h2 h3
  have hz0 : lo ≤ w0.heap.size := Nat.le_trans hlo hB0.size
  have hyl := hY.lt
  obtain ⟨kb, vb, k1, k2, k3, k4, k5⟩ := (HS.out.cd w0 (Below.refl _ _)).ex
  have c0 : w0.cell? ⟨cb0, 0, none⟩ = some (.slice ad l.length c) := k1.c 0
  obtain ⟨b, o, hadd, hb, r0, r1⟩ := (HS.out.row w0 (Below.refl _ _)).tok (Below.refl _ _) hpl
  subst hadd
  rw [hlx] at r0 r1
  have m1 : w0.cell? ⟨w.heap.size, 1, none⟩ = some (.int .i64 (p : Int)) := hX.c 1
  have hp1 : (p : Int) < (l.length : Int) := by omega
  have hp0 : (0 : Int) ≤ (p : Int) := by omega
  have HX := hide hX
  have HY := hide hY
  clear hX hY k1 k2 k3 k4 k5 hlx
  go_cut [6] from 9 to 93 (fun v wx => v = .pointer (some ⟨w0.heap.size, 0, none⟩) ∧ Bx wx w0.heap.size #[.int .i64 x.k, .int .i64 x.n] 46 ∧ Below w0.heap.size w0 wx)
  case first =>
    go_region_held3 (fun w' => w'.cell? ⟨cb0, 0, none⟩ = some (.slice (some ⟨b, o, none⟩) l.length c) ∧ w'.cell? ⟨w.heap.size, 1, none⟩ = some (.int .i64 (p : Int)) ∧ w'.cell? ⟨b, o + p * 2, none⟩ = some (.int .i64 x.k) ∧ w'.cell? ⟨b, o + p * 2 + 1, none⟩ = some (.int .i64 x.n)) (go_keep)
      (first | fail)
    go_wp2_with fail
    go_meet
    exact ⟨rfl, (Bx.new w0 _ _).drew, belowDrew ((Below.refl _ _).alloc (Nat.le_refl _) _)⟩
  case rest =>
    obtain ⟨rfl, hC, hBc⟩ := hcut
    have HX1' := hide (HX.out.below hBc HX.out.lt)
    have HY1 := hide (HY.out.below hBc HY.out.lt)
    have HF1 := hide (own_keep H1.out (fun k _ hk => hBc.block k hk))
    have HV1 := hide (own_keep H2.out (fun k _ hk => hBc.block k hk))
    have HB1 := hide (own_keep H3.out (fun k _ hk => hBc.block k hk))
    have HS1 := hide (HS.out.below (hBc.mono hz0))
    have hB1 : Below lo w wc := (hB0.mono hlo).trans (hBc.mono hz0)
    have hz1 : lo ≤ wc.heap.size := Nat.le_trans hlo hB1.size
    have hyl1 := HY1.out.lt
    have hSm : SM wc lo (.agg #[.bool false, .int .i64 (p : Int), .int .i64 e, .int .i64 (-1), .slice af fs.length cf, .slice av vs.length cv, .slice ab bs.length cb]) ⟨false, (p : Int), e, -1, fs, vs, bs⟩ := ⟨_, _, _, _, _, _, rfl, HF1.out, HV1.out, HB1.out⟩
    have HSm := hide hSm
    have cx := HX1'.out.c
    have cc := hC.c
    have HKc : Hid (∀ (b : Nat) (cs : Array Value) (T : TypeId), Bx w b cs T → Bx wc b cs T) := hide (fun bb cs TT hbx => (hbx.below hB0 hbx.lt).below hBc (hbx.below hB0 hbx.lt).lt)
    clear c0 r0 r1 m1 HX HY H1 H2 H3 HS hBc hSm hB0 hyl
    have k2 := k2h.out
    rw [k2] at cc
    go_wp2_with fail
    refine (HN0.out _ _ HSm.out hz1).mono ?_
    rintro r w2 ⟨v2, rfl, hs2, hb2, hk2⟩
    have HY2 := hide (hk2 _ _ _ (by decide) HY1.out)
    have HK2 := hide hk2
    have hB2 : Below lo w w2 := hB1.trans hb2
    have cy := HY2.out.c
    have fy := HY2.out.f
    obtain ⟨f1, g1, f2, g2, f3, g3, rfl, s1, s2, s3⟩ := hs2
    have S1 := hide s1
    have S2 := hide s2
    have S3 := hide s3
    clear hk2 hb2 cx cc s1 s2 s3
    obtain ⟨md, mp, me, mx, mf, mv, mb⟩ := M
    simp only at S1 S2 S3 ⊢
    go_wp2_with fail
    refine bodyPost_ret (v := .tuple #[.agg #[.bool md, .int .i64 mp, .int .i64 me, .int .i64 mx, .slice f1 mf.length g1, .slice f2 mv.length g2, .slice f3 mb.length g3], .bool R]) (by simp [results, Tryz.results103, go_sem, cy]) rfl ⟨_, rfl, ?_, ?_, fun bb cs TT t1 t2 t3 hbx => ((((((((HK2.out bb cs TT t2 (HKc.out bb cs TT hbx)).setne (w.heap.size + 1) 0 _ (by have := hbx.lt; omega)).setne (w.heap.size + 1) 1 _ (by have := hbx.lt; omega)).setne (w.heap.size + 1) 2 _ (by have := hbx.lt; omega)).setne (w.heap.size + 1) 3 _ (by have := hbx.lt; omega)).setne (w.heap.size + 1) 4 _ (by have := hbx.lt; omega)).setne (w.heap.size + 1) 5 _ (by have := hbx.lt; omega)).setne (w.heap.size + 1) 6 _ (by have := hbx.lt; omega))⟩
    · have q0 : Kp w2 (w.heap.size + 1) lo (.slice f1 mf.length g1) (.slice f2 mv.length g2) (.slice f3 mb.length g3) mf mv mb := ⟨⟨_, HY2.out⟩, S1.out, S2.out, S3.out⟩
      exact (((((((q0.set 0 _).set 1 _).set 2 _).set 3 _).set 4 _).set 5 _).set 6 _).sm md mp me mx
    · exact bsc (bsc (bsc (bsc (bsc (bsc (bsc hB2 _ _ _ (by omega)) _ _ _ (by omega)) _ _ _ (by omega)) _ _ _ (by omega)) _ _ _ (by omega)) _ _ _ (by omega)) _ _ _ (by omega)
end Go.Proofs.YtnmkbpflbfhpnaaGreat.W

/-
  Contracts of l6Do. Conditions: good machines of closed terms.
-/
namespace Go.Proofs.YtnmkbpflbfhpnaaGreat.W
open Go.ChangeShapes Go.WideShapes Go.ChangeAt Go.RowKit
set_option linter.unusedVariables false
set_option linter.unusedSimpArgs false

theorem SM.drew {w : World} {lo : Nat} {v : Value} {m : Mc} (h : SM w lo v m) : SM w.drew lo v m := h.below (belowDrew (Below.refl _ _))
theorem far7 (w : World) (y b o : Nat) (h : ¬ y = b) (a0 a1 a2 a3 a4 a5 a6 : Value) : (((((((w.setCell ⟨y, 0, none⟩ a0).setCell ⟨y, 1, none⟩ a1).setCell ⟨y, 2, none⟩ a2).setCell ⟨y, 3, none⟩ a3).setCell ⟨y, 4, none⟩ a4).setCell ⟨y, 5, none⟩ a5).setCell ⟨y, 6, none⟩ a6).cell? ⟨b, o, none⟩ = w.cell? ⟨b, o, none⟩ := by
  rw [World.cell?_setCell_far _ _ _ _ h, World.cell?_setCell_far _ _ _ _ h, World.cell?_setCell_far _ _ _ _ h, World.cell?_setCell_far _ _ _ _ h, World.cell?_setCell_far _ _ _ _ h, World.cell?_setCell_far _ _ _ _ h, World.cell?_setCell_far _ _ _ _ h]

set_option maxRecDepth 20000 in
set_option maxHeartbeats 4000000 in
theorem l6Do_var (lo cb0 : Nat) (ad : Option Addr) (c : Nat) (l : List Cc) (a : F) (v : Value) (m : Mc) (w : World) (hCl : Cl l a) (h : SM w lo v m) (hS : SR w lo cb0 ad c l a) (hG : GM a l m) (hd : m.done = false) (x : Cc) (hxx : l[m.pl.toNat]? = some x) (k2h : Hid (x.k = 1)) :
    Calls Tryz.prog 103 #[.pointer (some ⟨cb0, 0, none⟩), v] w fun r w' => ∃ v', r = .returned (.tuple #[v', .bool (isL (.inl (comeM m (lkB m.bs x.n.toNat m.env))))]) ∧ SM w' lo v' (mcOf' m (.inl (comeM m (lkB m.bs x.n.toNat m.env)))) ∧ Below lo w w' ∧ ∀ (b : Nat) (cs : Array Value) (T : TypeId), T ≠ 141 → T ≠ 69 → T ≠ 162 → Bx w b cs T → Bx w' b cs T := by
  have hlo := hS.le
  obtain ⟨n1, n2⟩ := nOk_not hG.now hd
  obtain ⟨q1, q2, q3⟩ := pOk_iff.1 n2
  obtain ⟨x', d0, k, x1, x2, x3, x4, x5, x6, x7⟩ := hCl.part q1
  obtain rfl : x = x' := by rw [x2] at hxx; simpa using hxx.symm
  obtain ⟨p, hp⟩ := Int.eq_ofNat_of_zero_le q1.1
  have hp' : m.pl.toNat = p := by rw [hp]; rfl
  rw [hp'] at x1 x2 x3
  have hpl : p < l.length := by have := q1.2; omega
  have hlx : l[p] = x := by rw [List.getElem?_eq_getElem hpl] at x2; simpa using x2
  have hnv := hG.nv
  have hnb := hG.nb
  have hnf := hG.nf
  have hl6 := hCl.le
  have HBs := hide hG.bs
  have HQ2 := hide q2
  have HQ3 : Hid ((bw m.bs m.env).1 = (d0 : Int)) := hide (by rw [q3, hp']; exact x3)
  have HX1 := hide x1
  have HCl := hide hCl
  obtain ⟨af, cf, av, cv, ab, cb, rfl, h1, h2, h3⟩ := h
  obtain ⟨dn, pl, e, vl, fs, vs, bs⟩ := m
  simp only at h1 h2 h3 hd hp n1 hnv hnb hnf HBs HQ2 HQ3 ⊢
  subst hd hp n1
  have hX := (Bx.new w #[.bool false, .int .i64 (p : Int), .int .i64 e, .int .i64 (-1), .slice af fs.length cf, .slice av vs.length cv, .slice ab bs.length cb] 61).alloc (.cells #[.bool false, .int .i64 0, .int .i64 0, .int .i64 0, .slice none 0 0, .slice none 0 0, .slice none 0 0] 61)
  have hY := Bx.new (w.alloc (.cells #[.bool false, .int .i64 (p : Int), .int .i64 e, .int .i64 (-1), .slice af fs.length cf, .slice av vs.length cv, .slice ab bs.length cb] 61)) #[.bool false, .int .i64 0, .int .i64 0, .int .i64 0, .slice none 0 0, .slice none 0 0, .slice none 0 0] 61
  simp only [World.size_alloc] at hY
  have hB0 : Below w.heap.size w ((w.alloc (.cells #[.bool false, .int .i64 (p : Int), .int .i64 e, .int .i64 (-1), .slice af fs.length cf, .slice av vs.length cv, .slice ab bs.length cb] 61)).alloc (.cells #[.bool false, .int .i64 0, .int .i64 0, .int .i64 0, .slice none 0 0, .slice none 0 0, .slice none 0 0] 61)) := ((Below.refl _ _).alloc (Nat.le_refl _) _).alloc (by simp) _
  have H1 := hide (own_keep h1 (fun k _ hk => hB0.block k hk))
  have H2 := hide (own_keep h2 (fun k _ hk => hB0.block k hk))
  have H3 := hide (own_keep h3 (fun k _ hk => hB0.block k hk))
  have HS := hide (hS.below (hB0.mono hlo))
  have hcl := hS.lt
  clear hxx x2 x4 q1 q2 q3 n2 hp' hG hS hCl
  have hxb := HCl.out.bound HX1.out k2h.out
  obtain ⟨N, hN⟩ := Int.eq_ofNat_of_zero_le hxb.1
  have hNt : x.n.toNat = N := by rw [hN]; rfl
  rw [hNt]
  have hbn : (N : Int) < (bw bs e).1 := by rw [HQ3.out]; omega
  have hNl : N ≤ 1000 := by omega
  obtain ⟨LK, hLK⟩ : ∃ LK, LK = lkB bs N e := ⟨_, rfl⟩
  rw [← hLK]
  have HLK := hide hLK
  have HN := hide hN
  clear hLK hN hxb hNt
  go_enter Tryz.func103, Tryz.ntmps103
  go_upto_region 1 with fail
  obtain ⟨w0, hw0⟩ : ∃ w0, w0 = (w.alloc (.cells #[.bool false, .int .i64 (p : Int), .int .i64 e, .int .i64 (-1), .slice af fs.length cf, .slice av vs.length cv, .slice ab bs.length cb] 61)).alloc (.cells #[.bool false, .int .i64 0, .int .i64 0, .int .i64 0, .slice none 0 0, .slice none 0 0, .slice none 0 0] 61) := ⟨_, rfl⟩
  rw [← hw0] at hX hY hB0 H1 H2 H3 HS ⊢
  clear hw0 h1 h2 h3
  have hz0 : lo ≤ w0.heap.size := Nat.le_trans hlo hB0.size
  have hyl := hY.lt
  obtain ⟨kb, vb, k1, k2, k3, k4, k5⟩ := (HS.out.cd w0 (Below.refl _ _)).ex
  have c0 : w0.cell? ⟨cb0, 0, none⟩ = some (.slice ad l.length c) := k1.c 0
  obtain ⟨b, o, hadd, hb, r0, r1⟩ := (HS.out.row w0 (Below.refl _ _)).tok (Below.refl _ _) hpl
  subst hadd
  rw [hlx] at r0 r1
  have m1 : w0.cell? ⟨w.heap.size, 1, none⟩ = some (.int .i64 (p : Int)) := hX.c 1
  have hp1 : (p : Int) < (l.length : Int) := by omega
  have hp0 : (0 : Int) ≤ (p : Int) := by omega
  have HX := hide hX
  have HY := hide hY
  clear hX hY k1 k2 k3 k4 k5 hlx
  go_cut [6] from 9 to 93 (fun v wx => v = .pointer (some ⟨w0.heap.size, 0, none⟩) ∧ Bx wx w0.heap.size #[.int .i64 x.k, .int .i64 x.n] 46 ∧ Below w0.heap.size w0 wx)
  case first =>
    go_region_held3 (fun w' => w'.cell? ⟨cb0, 0, none⟩ = some (.slice (some ⟨b, o, none⟩) l.length c) ∧ w'.cell? ⟨w.heap.size, 1, none⟩ = some (.int .i64 (p : Int)) ∧ w'.cell? ⟨b, o + p * 2, none⟩ = some (.int .i64 x.k) ∧ w'.cell? ⟨b, o + p * 2 + 1, none⟩ = some (.int .i64 x.n)) (go_keep)
      (first | fail)
    go_wp2_with fail
    go_meet
    exact ⟨rfl, (Bx.new w0 _ _).drew, belowDrew ((Below.refl _ _).alloc (Nat.le_refl _) _)⟩
  case rest =>
    obtain ⟨rfl, hC, hBc⟩ := hcut
    have HX1' := hide (HX.out.below hBc HX.out.lt)
    have HY1 := hide (HY.out.below hBc HY.out.lt)
    have HF1 := hide (own_keep H1.out (fun k _ hk => hBc.block k hk))
    have HV1 := hide (own_keep H2.out (fun k _ hk => hBc.block k hk))
    have HB1 := hide (own_keep H3.out (fun k _ hk => hBc.block k hk))
    have HS1 := hide (HS.out.below (hBc.mono hz0))
    have hB1 : Below lo w wc := (hB0.mono hlo).trans (hBc.mono hz0)
    have hz1 : lo ≤ wc.heap.size := Nat.le_trans hlo hB1.size
    have hyl1 := HY1.out.lt
    have hSm : SM wc lo (.agg #[.bool false, .int .i64 (p : Int), .int .i64 e, .int .i64 (-1), .slice af fs.length cf, .slice av vs.length cv, .slice ab bs.length cb]) ⟨false, (p : Int), e, -1, fs, vs, bs⟩ := ⟨_, _, _, _, _, _, rfl, HF1.out, HV1.out, HB1.out⟩
    have HSm := hide hSm
    have cx := HX1'.out.c
    have cc := hC.c
    have HKc : Hid (∀ (b : Nat) (cs : Array Value) (T : TypeId), Bx w b cs T → Bx wc b cs T) := hide (fun bb cs TT hbx => (hbx.below hB0 hbx.lt).below hBc (hbx.below hB0 hbx.lt).lt)
    clear c0 r0 r1 m1 HX HY H1 H2 H3 HS hBc hSm hB0 hyl
    have k2 := k2h.out
    rw [k2, HN.out] at cc
    have hBR : BdRow wc ab bs := RRow.ofOwn HB1.out rfl
    have HBR := hide hBR
    have hq2 := HQ2.out
    have HYl := hide HY1.out
    have hwl := HX1'.out.lt
    go_upto_region 9 with fail
    go_wp2_with fail
    go_loopw [7, 8] (fun ev nv w' => ∃ (j : Nat) (en : Int), j ≤ N ∧ nv = .int .i64 (j : Int) ∧ ev = .int .i64 en ∧ -1 ≤ en ∧ en < bs.length ∧ (j : Int) < (bw bs en).1 ∧ lkB bs j en = LK ∧ w' = wc) (fun _ nv _ => (intOf nv).toNat)
    case atStart => exact ⟨N, e, Nat.le_refl _, rfl, rfl, hq2.1, hq2.2, hbn, HLK.out.symm, rfl⟩
    case round =>
      obtain ⟨j, en, hj, rfl, rfl, e1, e2, e3, e4, rfl⟩ := hrel
      have e5 := (lkB_ok HBs.out j en e2 e3).2.2
      obtain ⟨k', rfl⟩ := Int.eq_ofNat_of_zero_le e5
      have hk : k' < bs.length := by omega
      have hk' : (k' : Int) < (bs.length : Int) := by omega
      have hk0 : (0 : Int) ≤ (k' : Int) := by omega
      obtain ⟨b2, o2, hab, hb2, t0, t1⟩ := BdRow.tok HBR.out (Below.refl _ _) hk
      subst hab
      have E4 := hide e4
      have E3 := hide e3
      have hbk := bsOk_at HBs.out hk
      have HSt := hide (bw_step HBs.out hk)
      have HL0 : Hid (lkB bs 0 (k' : Int) = bs[k'].val) := hide (by rw [lkB, Int.toNat_natCast, List.getElem?_eq_getElem hk])
      have HL1 : Hid (∀ i, lkB bs (i + 1) (k' : Int) = lkB bs i bs[k'].up) := hide (fun i => by rw [lkB, Int.toNat_natCast, List.getElem?_eq_getElem hk])
      obtain ⟨y, hy⟩ : ∃ y, y = bs[k'] := ⟨_, rfl⟩
      rw [← hy] at t0 t1 hbk HSt HL0 HL1
      clear hy e4 e3
      cases j with
      | succ j =>
        have hlt' : (0 : Int) < ((j + 1 : Nat) : Int) := by omega
        clear t0
        go_wp2_with fail
        have h3 := E3.out
        rw [HSt.out] at h3
        simp only at h3
        refine ⟨⟨j, y.up, by omega, by go_num, rfl, by omega, by omega, by omega, ?_, trivial⟩, by simp [intOf]⟩
        rw [← E4.out, HL1.out]
      | zero =>
        have h4 := E4.out
        rw [HL0.out] at h4
        clear t1
        rw [h4] at t0
        have cy0 := HY1.out.c
        have fy0 := HY1.out.f
        have hxl := HX1'.out.lt
        have hb2n : ¬ b2 = w.heap.size + 1 := fun e' => own_bx HY1.out HB1.out (by decide) (by rw [← e']; rfl)
        have hb2n' : ¬ w.heap.size + 1 = b2 := fun e' => hb2n e'.symm
        have hxy : ¬ w.heap.size + 1 = w.heap.size := by omega
        have HAll : Hid (∀ w', Below wr.heap.size wr w' → w'.cell? ⟨w.heap.size, 0, none⟩ = some (.bool false) ∧ w'.cell? ⟨w.heap.size, 1, none⟩ = some (.int .i64 (p : Int)) ∧ w'.cell? ⟨w.heap.size, 2, none⟩ = some (.int .i64 e) ∧ w'.cell? ⟨w.heap.size, 3, none⟩ = some (.int .i64 (-1)) ∧ w'.cell? ⟨w.heap.size, 4, none⟩ = some (.slice af fs.length cf) ∧ w'.cell? ⟨w.heap.size, 5, none⟩ = some (.slice av vs.length cv) ∧ w'.cell? ⟨w.heap.size, 6, none⟩ = some (.slice (some ⟨b2, o2, none⟩) bs.length cb) ∧ w'.cell? ⟨b2, o2 + k' * 2, none⟩ = some (.int .i64 LK)) := hide (fun w' hb => ⟨(hb.cell (p := ⟨w.heap.size, 0, none⟩) hxl).trans (HX1'.out.c 0), (hb.cell (p := ⟨w.heap.size, 1, none⟩) hxl).trans (HX1'.out.c 1), (hb.cell (p := ⟨w.heap.size, 2, none⟩) hxl).trans (HX1'.out.c 2), (hb.cell (p := ⟨w.heap.size, 3, none⟩) hxl).trans (HX1'.out.c 3), (hb.cell (p := ⟨w.heap.size, 4, none⟩) hxl).trans (HX1'.out.c 4), (hb.cell (p := ⟨w.heap.size, 5, none⟩) hxl).trans (HX1'.out.c 5), (hb.cell (p := ⟨w.heap.size, 6, none⟩) hxl).trans (HX1'.out.c 6), (hb.cell (p := ⟨b2, o2 + k' * 2, none⟩) hb2).trans t0⟩)
        go_upto_region 13 with fail
        obtain ⟨u0, u1, u2, u3, u4, u5, u6, u7⟩ := HAll.out wr.drew (belowDrew (Below.refl _ _))
        clear cx cc
        go_region_held3 (fun w' => w'.cell? ⟨w.heap.size, 0, none⟩ = some (.bool false) ∧ w'.cell? ⟨w.heap.size, 1, none⟩ = some (.int .i64 (p : Int)) ∧ w'.cell? ⟨w.heap.size, 2, none⟩ = some (.int .i64 e) ∧ w'.cell? ⟨w.heap.size, 3, none⟩ = some (.int .i64 (-1)) ∧ w'.cell? ⟨w.heap.size, 4, none⟩ = some (.slice af fs.length cf) ∧ w'.cell? ⟨w.heap.size, 5, none⟩ = some (.slice av vs.length cv) ∧ w'.cell? ⟨w.heap.size, 6, none⟩ = some (.slice (some ⟨b2, o2, none⟩) bs.length cb) ∧ w'.cell? ⟨b2, o2 + k' * 2, none⟩ = some (.int .i64 LK)) (first | (with_reducible exact ⟨u0, u1, u2, u3, u4, u5, u6, u7⟩) | (with_reducible exact ⟨y0, y1, y2, y3, y4, y5, y6, y7⟩) | (with_reducible exact ⟨(far7 _ _ _ _ hxy _ _ _ _ _ _ _).trans y0, (far7 _ _ _ _ hxy _ _ _ _ _ _ _).trans y1, (far7 _ _ _ _ hxy _ _ _ _ _ _ _).trans y2, (far7 _ _ _ _ hxy _ _ _ _ _ _ _).trans y3, (far7 _ _ _ _ hxy _ _ _ _ _ _ _).trans y4, (far7 _ _ _ _ hxy _ _ _ _ _ _ _).trans y5, (far7 _ _ _ _ hxy _ _ _ _ _ _ _).trans y6, (far7 _ _ _ _ hb2n' _ _ _ _ _ _ _).trans y7⟩))
          (first | ((with_reducible refine (l6Come_any _ _ _ _ _ _ _ _ _ _ _ _ _ _ _).mono ?_); rintro r w3 ⟨rfl, hb3⟩; have hb3' : Below wr.heap.size wr w3 := ⟨hb3.os, hb3.tape, hb3.output, hb3.size, hb3.block⟩; obtain ⟨y0, y1, y2, y3, y4, y5, y6, y7⟩ := HAll.out w3 hb3'; have hY3 := HY1.out.below hb3' HY1.out.lt; have cy3 := hY3.c; have fy3 := hY3.f; have HB3 := hide hb3'; clear hb3 hb3' hY3))
        have HY3 := hide (HY1.out.below HB3.out HY1.out.lt)
        have hB3 : Below lo w w3 := hB1.trans (HB3.out.mono hz1)
        clear u0 u1 u2 u3 u4 u5 u6 u7 y0 y1 y2 y3 y4 y5 y6 y7 t0 cy0 fy0 HAll
        go_wp2_with fail
        refine bodyPost_ret (v := .tuple #[.agg #[.bool true, .int .i64 (-1), .int .i64 (-1), .int .i64 LK, .slice af fs.length cf, .slice av vs.length cv, .slice (some ⟨b2, o2, none⟩) bs.length cb], .bool true]) (by simp [results, Tryz.results103, go_sem, cy3]) rfl ⟨_, rfl, ?_, ?_, fun bb cs TT t1 t2 t3 hbx => (((((((((HKc.out bb cs TT hbx).below HB3.out (HKc.out bb cs TT hbx).lt).setne (w.heap.size + 1) 0 _ (by have := hbx.lt; omega)).setne (w.heap.size + 1) 1 _ (by have := hbx.lt; omega)).setne (w.heap.size + 1) 2 _ (by have := hbx.lt; omega)).setne (w.heap.size + 1) 3 _ (by have := hbx.lt; omega)).setne (w.heap.size + 1) 4 _ (by have := hbx.lt; omega)).setne (w.heap.size + 1) 5 _ (by have := hbx.lt; omega)).setne (w.heap.size + 1) 6 _ (by have := hbx.lt; omega))⟩
        · have q0 : Kp w3 (w.heap.size + 1) lo (.slice af fs.length cf) (.slice av vs.length cv) (.slice (some ⟨b2, o2, none⟩) bs.length cb) fs vs bs := ⟨⟨_, HY3.out⟩, own_keep HF1.out (fun k _ hk => HB3.out.block k hk), own_keep HV1.out (fun k _ hk => HB3.out.block k hk), own_keep HB1.out (fun k _ hk => HB3.out.block k hk)⟩
          have := (((((((q0.set 0 (.bool true)).set 1 (.int .i64 (-1))).set 2 (.int .i64 (-1))).set 3 (.int .i64 LK)).set 4 (.slice af fs.length cf)).set 5 (.slice av vs.length cv)).set 6 (.slice (some ⟨b2, o2, none⟩) bs.length cb)).sm true (-1) (-1) LK
          exact this
        · exact (bsc (bsc (bsc (bsc (bsc (bsc (bsc hB3 _ _ _ (by omega)) _ _ _ (by omega)) _ _ _ (by omega)) _ _ _ (by omega)) _ _ _ (by omega)) _ _ _ (by omega)) _ _ _ (by omega))
end Go.Proofs.YtnmkbpflbfhpnaaGreat.W

/-
  Contracts of l6Do. Conditions: good machines of closed terms.
-/
namespace Go.Proofs.YtnmkbpflbfhpnaaGreat.W
open Go.ChangeShapes Go.WideShapes Go.ChangeAt Go.RowKit
set_option linter.unusedVariables false
set_option linter.unusedSimpArgs false

set_option maxRecDepth 20000 in
set_option maxHeartbeats 4000000 in
theorem l6Do_full (lo cb0 : Nat) (ad : Option Addr) (c : Nat) (l : List Cc) (a : F) (v : Value) (m : Mc) (w : World) (hCl : Cl l a) (h : SM w lo v m) (hS : SR w lo cb0 ad c l a) (hG : GM a l m) (hd : m.done = false) (x : Cc) (hxx : l[m.pl.toNat]? = some x) (k123 : Hid (¬ x.k = 1 ∧ ¬ x.k = 2 ∧ ¬ x.k = 3)) (hfh : Hid (500 ≤ m.fs.length)) :
    Calls Tryz.prog 103 #[.pointer (some ⟨cb0, 0, none⟩), v] w fun r w' => ∃ v', r = .returned (.tuple #[v', .bool (isL (.inr 5))]) ∧ SM w' lo v' (mcOf' m (.inr 5)) ∧ Below lo w w' ∧ ∀ (b : Nat) (cs : Array Value) (T : TypeId), T ≠ 141 → T ≠ 69 → T ≠ 162 → Bx w b cs T → Bx w' b cs T := by
  have hlo := hS.le
  obtain ⟨n1, n2⟩ := nOk_not hG.now hd
  obtain ⟨q1, q2, q3⟩ := pOk_iff.1 n2
  obtain ⟨x', d0, k, x1, x2, x3, x4, x5, x6, x7⟩ := hCl.part q1
  obtain rfl : x = x' := by rw [x2] at hxx; simpa using hxx.symm
  obtain ⟨p, hp⟩ := Int.eq_ofNat_of_zero_le q1.1
  have hp' : m.pl.toNat = p := by rw [hp]; rfl
  rw [hp'] at x1 x2 x3
  have hpl : p < l.length := by have := q1.2; omega
  have hlx : l[p] = x := by rw [List.getElem?_eq_getElem hpl] at x2; simpa using x2
  have hnv := hG.nv
  have hnb := hG.nb
  have hnf := hG.nf
  have hl6 := hCl.le
  have HBs := hide hG.bs
  have HQ2 := hide q2
  have HQ3 : Hid ((bw m.bs m.env).1 = (d0 : Int)) := hide (by rw [q3, hp']; exact x3)
  have HX1 := hide x1
  have HCl := hide hCl
  obtain ⟨af, cf, av, cv, ab, cb, rfl, h1, h2, h3⟩ := h
  obtain ⟨dn, pl, e, vl, fs, vs, bs⟩ := m
  simp only at h1 h2 h3 hd hp n1 hnv hnb hnf HBs HQ2 HQ3 ⊢
  subst hd hp n1
  have hX := (Bx.new w #[.bool false, .int .i64 (p : Int), .int .i64 e, .int .i64 (-1), .slice af fs.length cf, .slice av vs.length cv, .slice ab bs.length cb] 61).alloc (.cells #[.bool false, .int .i64 0, .int .i64 0, .int .i64 0, .slice none 0 0, .slice none 0 0, .slice none 0 0] 61)
  have hY := Bx.new (w.alloc (.cells #[.bool false, .int .i64 (p : Int), .int .i64 e, .int .i64 (-1), .slice af fs.length cf, .slice av vs.length cv, .slice ab bs.length cb] 61)) #[.bool false, .int .i64 0, .int .i64 0, .int .i64 0, .slice none 0 0, .slice none 0 0, .slice none 0 0] 61
  simp only [World.size_alloc] at hY
  have hB0 : Below w.heap.size w ((w.alloc (.cells #[.bool false, .int .i64 (p : Int), .int .i64 e, .int .i64 (-1), .slice af fs.length cf, .slice av vs.length cv, .slice ab bs.length cb] 61)).alloc (.cells #[.bool false, .int .i64 0, .int .i64 0, .int .i64 0, .slice none 0 0, .slice none 0 0, .slice none 0 0] 61)) := ((Below.refl _ _).alloc (Nat.le_refl _) _).alloc (by simp) _
  have H1 := hide (own_keep h1 (fun k _ hk => hB0.block k hk))
  have H2 := hide (own_keep h2 (fun k _ hk => hB0.block k hk))
  have H3 := hide (own_keep h3 (fun k _ hk => hB0.block k hk))
  have HS := hide (hS.below (hB0.mono hlo))
  have hcl := hS.lt
  clear hxx x2 x4 q1 q2 q3 n2 hp' hG hS hCl
  have HF5 : Hid (fs.length = 500) := hide (by have := hfh.out; simp only at this; omega)
  clear hfh
  go_enter Tryz.func103, Tryz.ntmps103
  go_upto_region 1 with fail
  obtain ⟨w0, hw0⟩ : ∃ w0, w0 = (w.alloc (.cells #[.bool false, .int .i64 (p : Int), .int .i64 e, .int .i64 (-1), .slice af fs.length cf, .slice av vs.length cv, .slice ab bs.length cb] 61)).alloc (.cells #[.bool false, .int .i64 0, .int .i64 0, .int .i64 0, .slice none 0 0, .slice none 0 0, .slice none 0 0] 61) := ⟨_, rfl⟩
  rw [← hw0] at hX hY hB0 H1 H2 H3 HS ⊢
  clear hw0 h1 h2 h3
  have hz0 : lo ≤ w0.heap.size := Nat.le_trans hlo hB0.size
  have hyl := hY.lt
  obtain ⟨kb, vb, k1, k2, k3, k4, k5⟩ := (HS.out.cd w0 (Below.refl _ _)).ex
  have c0 : w0.cell? ⟨cb0, 0, none⟩ = some (.slice ad l.length c) := k1.c 0
  obtain ⟨b, o, hadd, hb, r0, r1⟩ := (HS.out.row w0 (Below.refl _ _)).tok (Below.refl _ _) hpl
  subst hadd
  rw [hlx] at r0 r1
  have m1 : w0.cell? ⟨w.heap.size, 1, none⟩ = some (.int .i64 (p : Int)) := hX.c 1
  have hp1 : (p : Int) < (l.length : Int) := by omega
  have hp0 : (0 : Int) ≤ (p : Int) := by omega
  have HX := hide hX
  have HY := hide hY
  clear hX hY k1 k2 k3 k4 k5 hlx
  go_cut [6] from 9 to 93 (fun v wx => v = .pointer (some ⟨w0.heap.size, 0, none⟩) ∧ Bx wx w0.heap.size #[.int .i64 x.k, .int .i64 x.n] 46 ∧ Below w0.heap.size w0 wx)
  case first =>
    go_region_held3 (fun w' => w'.cell? ⟨cb0, 0, none⟩ = some (.slice (some ⟨b, o, none⟩) l.length c) ∧ w'.cell? ⟨w.heap.size, 1, none⟩ = some (.int .i64 (p : Int)) ∧ w'.cell? ⟨b, o + p * 2, none⟩ = some (.int .i64 x.k) ∧ w'.cell? ⟨b, o + p * 2 + 1, none⟩ = some (.int .i64 x.n)) (go_keep)
      (first | fail)
    go_wp2_with fail
    go_meet
    exact ⟨rfl, (Bx.new w0 _ _).drew, belowDrew ((Below.refl _ _).alloc (Nat.le_refl _) _)⟩
  case rest =>
    obtain ⟨rfl, hC, hBc⟩ := hcut
    have HX1' := hide (HX.out.below hBc HX.out.lt)
    have HY1 := hide (HY.out.below hBc HY.out.lt)
    have HF1 := hide (own_keep H1.out (fun k _ hk => hBc.block k hk))
    have HV1 := hide (own_keep H2.out (fun k _ hk => hBc.block k hk))
    have HB1 := hide (own_keep H3.out (fun k _ hk => hBc.block k hk))
    have HS1 := hide (HS.out.below (hBc.mono hz0))
    have hB1 : Below lo w wc := (hB0.mono hlo).trans (hBc.mono hz0)
    have hz1 : lo ≤ wc.heap.size := Nat.le_trans hlo hB1.size
    have hyl1 := HY1.out.lt
    have hSm : SM wc lo (.agg #[.bool false, .int .i64 (p : Int), .int .i64 e, .int .i64 (-1), .slice af fs.length cf, .slice av vs.length cv, .slice ab bs.length cb]) ⟨false, (p : Int), e, -1, fs, vs, bs⟩ := ⟨_, _, _, _, _, _, rfl, HF1.out, HV1.out, HB1.out⟩
    have HSm := hide hSm
    have cx := HX1'.out.c
    have cc := hC.c
    have HKc : Hid (∀ (b : Nat) (cs : Array Value) (T : TypeId), Bx w b cs T → Bx wc b cs T) := hide (fun bb cs TT hbx => (hbx.below hB0 hbx.lt).below hBc (hbx.below hB0 hbx.lt).lt)
    clear c0 r0 r1 m1 HX HY H1 H2 H3 HS hBc hSm hB0 hyl
    obtain ⟨j1, j2, j3⟩ := k123.out
    have cy := HY1.out.c
    have fy := HY1.out.f
    have hf5 := HF5.out
    have hf5' : ((fs.length : Nat) : Int) = 500 := by omega
    go_wp2_with fail
    refine bodyPost_ret (v := .tuple #[.agg #[.bool false, .int .i64 (p : Int), .int .i64 e, .int .i64 (-1), .slice af fs.length cf, .slice av vs.length cv, .slice ab bs.length cb], .bool false]) (by simp [results, Tryz.results103, go_sem, cy, hf5]) rfl ⟨_, rfl, ?_, ?_, fun bb cs TT t1 t2 t3 hbx => ((((((((HKc.out bb cs TT hbx).setne (w.heap.size + 1) 0 _ (by have := hbx.lt; omega)).setne (w.heap.size + 1) 1 _ (by have := hbx.lt; omega)).setne (w.heap.size + 1) 2 _ (by have := hbx.lt; omega)).setne (w.heap.size + 1) 3 _ (by have := hbx.lt; omega)).setne (w.heap.size + 1) 4 _ (by have := hbx.lt; omega)).setne (w.heap.size + 1) 5 _ (by have := hbx.lt; omega)).setne (w.heap.size + 1) 6 _ (by have := hbx.lt; omega))⟩
    · have q0 : Kp wc (w.heap.size + 1) lo (.slice af fs.length cf) (.slice av vs.length cv) (.slice ab bs.length cb) fs vs bs := ⟨⟨_, HY1.out⟩, HF1.out, HV1.out, HB1.out⟩
      exact (((((((q0.set 0 _).set 1 _).set 2 _).set 3 _).set 4 _).set 5 _).set 6 _).sm false (p : Int) e (-1)
    · exact bsc (bsc (bsc (bsc (bsc (bsc (bsc hB1 _ _ _ (by omega)) _ _ _ (by omega)) _ _ _ (by omega)) _ _ _ (by omega)) _ _ _ (by omega)) _ _ _ (by omega)) _ _ _ (by omega)

set_option maxRecDepth 20000 in
set_option maxHeartbeats 4000000 in
theorem l6Do_push (lo cb0 : Nat) (ad : Option Addr) (c : Nat) (l : List Cc) (a : F) (v : Value) (m : Mc) (w : World) (hCl : Cl l a) (h : SM w lo v m) (hS : SR w lo cb0 ad c l a) (hG : GM a l m) (hd : m.done = false) (x : Cc) (hxx : l[m.pl.toNat]? = some x) (k123 : Hid (¬ x.k = 1 ∧ ¬ x.k = 2 ∧ ¬ x.k = 3)) (hfh : Hid (¬ 500 ≤ m.fs.length)) :
    Calls Tryz.prog 103 #[.pointer (some ⟨cb0, 0, none⟩), v] w fun r w' => ∃ v', r = .returned (.tuple #[v', .bool (isL (.inl (nextM { m with fs := m.fs ++ [⟨x.k, m.pl, m.env, -1⟩] } (kp a m.pl 0) m.env)))]) ∧ SM w' lo v' (mcOf' m (.inl (nextM { m with fs := m.fs ++ [⟨x.k, m.pl, m.env, -1⟩] } (kp a m.pl 0) m.env))) ∧ Below lo w w' ∧ ∀ (b : Nat) (cs : Array Value) (T : TypeId), T ≠ 141 → T ≠ 69 → T ≠ 162 → Bx w b cs T → Bx w' b cs T := by
  have hlo := hS.le
  obtain ⟨n1, n2⟩ := nOk_not hG.now hd
  obtain ⟨q1, q2, q3⟩ := pOk_iff.1 n2
  obtain ⟨x', d0, k, x1, x2, x3, x4, x5, x6, x7⟩ := hCl.part q1
  obtain rfl : x = x' := by rw [x2] at hxx; simpa using hxx.symm
  obtain ⟨p, hp⟩ := Int.eq_ofNat_of_zero_le q1.1
  have hp' : m.pl.toNat = p := by rw [hp]; rfl
  rw [hp'] at x1 x2 x3
  have hpl : p < l.length := by have := q1.2; omega
  have hlx : l[p] = x := by rw [List.getElem?_eq_getElem hpl] at x2; simpa using x2
  have hnv := hG.nv
  have hnb := hG.nb
  have hnf := hG.nf
  have hl6 := hCl.le
  have HBs := hide hG.bs
  have HQ2 := hide q2
  have HQ3 : Hid ((bw m.bs m.env).1 = (d0 : Int)) := hide (by rw [q3, hp']; exact x3)
  have HX1 := hide x1
  have HCl := hide hCl
  obtain ⟨af, cf, av, cv, ab, cb, rfl, h1, h2, h3⟩ := h
  obtain ⟨dn, pl, e, vl, fs, vs, bs⟩ := m
  simp only at h1 h2 h3 hd hp n1 hnv hnb hnf HBs HQ2 HQ3 ⊢
  subst hd hp n1
  have hX := (Bx.new w #[.bool false, .int .i64 (p : Int), .int .i64 e, .int .i64 (-1), .slice af fs.length cf, .slice av vs.length cv, .slice ab bs.length cb] 61).alloc (.cells #[.bool false, .int .i64 0, .int .i64 0, .int .i64 0, .slice none 0 0, .slice none 0 0, .slice none 0 0] 61)
  have hY := Bx.new (w.alloc (.cells #[.bool false, .int .i64 (p : Int), .int .i64 e, .int .i64 (-1), .slice af fs.length cf, .slice av vs.length cv, .slice ab bs.length cb] 61)) #[.bool false, .int .i64 0, .int .i64 0, .int .i64 0, .slice none 0 0, .slice none 0 0, .slice none 0 0] 61
  simp only [World.size_alloc] at hY
  have hB0 : Below w.heap.size w ((w.alloc (.cells #[.bool false, .int .i64 (p : Int), .int .i64 e, .int .i64 (-1), .slice af fs.length cf, .slice av vs.length cv, .slice ab bs.length cb] 61)).alloc (.cells #[.bool false, .int .i64 0, .int .i64 0, .int .i64 0, .slice none 0 0, .slice none 0 0, .slice none 0 0] 61)) := ((Below.refl _ _).alloc (Nat.le_refl _) _).alloc (by simp) _
  have H1 := hide (own_keep h1 (fun k _ hk => hB0.block k hk))
  have H2 := hide (own_keep h2 (fun k _ hk => hB0.block k hk))
  have H3 := hide (own_keep h3 (fun k _ hk => hB0.block k hk))
  have HS := hide (hS.below (hB0.mono hlo))
  have hcl := hS.lt
  clear hxx x2 x4 q1 q2 q3 n2 hp' hG hS hCl
  have hf5 : ¬ 500 ≤ fs.length := hfh.out
  have har : 0 < ar x.k := by
    obtain ⟨j1, j2, j3⟩ := k123.out
    unfold goodC at x5
    rw [if_neg j1, if_neg j2] at x5
    simp [inB] at x5
    unfold ar
    rw [if_neg j3]
    split
    · omega
    · split <;> omega
  have hkl : k.len = ar x.k := x6
  obtain ⟨KP, hKP⟩ : ∃ KP, KP = kp a (p : Int) 0 := ⟨_, rfl⟩
  rw [← hKP]
  have HKP : Hid (KP = ((p + 1 + ko k 0 : Nat) : Int)) := hide (by rw [hKP]; unfold kp; rw [Int.toNat_natCast, HX1.out]; simp)
  have HTK : Hid (tK (ndT a) p = kidsAt p k) := hide (by unfold tK; rw [HX1.out])
  obtain ⟨i2, hi2, z0, z1, z2⟩ := infoPartsT infoFm
  have HI2 := hide hi2
  clear hfh hKP hi2
  go_enter Tryz.func103, Tryz.ntmps103
  go_upto_region 1 with fail
  obtain ⟨w0, hw0⟩ : ∃ w0, w0 = (w.alloc (.cells #[.bool false, .int .i64 (p : Int), .int .i64 e, .int .i64 (-1), .slice af fs.length cf, .slice av vs.length cv, .slice ab bs.length cb] 61)).alloc (.cells #[.bool false, .int .i64 0, .int .i64 0, .int .i64 0, .slice none 0 0, .slice none 0 0, .slice none 0 0] 61) := ⟨_, rfl⟩
  rw [← hw0] at hX hY hB0 H1 H2 H3 HS ⊢
  clear hw0 h1 h2 h3
  have hz0 : lo ≤ w0.heap.size := Nat.le_trans hlo hB0.size
  have hyl := hY.lt
  obtain ⟨kb, vb, k1, k2, k3, k4, k5⟩ := (HS.out.cd w0 (Below.refl _ _)).ex
  have c0 : w0.cell? ⟨cb0, 0, none⟩ = some (.slice ad l.length c) := k1.c 0
  obtain ⟨b, o, hadd, hb, r0, r1⟩ := (HS.out.row w0 (Below.refl _ _)).tok (Below.refl _ _) hpl
  subst hadd
  rw [hlx] at r0 r1
  have m1 : w0.cell? ⟨w.heap.size, 1, none⟩ = some (.int .i64 (p : Int)) := hX.c 1
  have hp1 : (p : Int) < (l.length : Int) := by omega
  have hp0 : (0 : Int) ≤ (p : Int) := by omega
  have HX := hide hX
  have HY := hide hY
  clear hX hY k1 k2 k3 k4 k5 hlx
  go_cut [6] from 9 to 93 (fun v wx => v = .pointer (some ⟨w0.heap.size, 0, none⟩) ∧ Bx wx w0.heap.size #[.int .i64 x.k, .int .i64 x.n] 46 ∧ Below w0.heap.size w0 wx)
  case first =>
    go_region_held3 (fun w' => w'.cell? ⟨cb0, 0, none⟩ = some (.slice (some ⟨b, o, none⟩) l.length c) ∧ w'.cell? ⟨w.heap.size, 1, none⟩ = some (.int .i64 (p : Int)) ∧ w'.cell? ⟨b, o + p * 2, none⟩ = some (.int .i64 x.k) ∧ w'.cell? ⟨b, o + p * 2 + 1, none⟩ = some (.int .i64 x.n)) (go_keep)
      (first | fail)
    go_wp2_with fail
    go_meet
    exact ⟨rfl, (Bx.new w0 _ _).drew, belowDrew ((Below.refl _ _).alloc (Nat.le_refl _) _)⟩
  case rest =>
    obtain ⟨rfl, hC, hBc⟩ := hcut
    have HX1' := hide (HX.out.below hBc HX.out.lt)
    have HY1 := hide (HY.out.below hBc HY.out.lt)
    have HF1 := hide (own_keep H1.out (fun k _ hk => hBc.block k hk))
    have HV1 := hide (own_keep H2.out (fun k _ hk => hBc.block k hk))
    have HB1 := hide (own_keep H3.out (fun k _ hk => hBc.block k hk))
    have HS1 := hide (HS.out.below (hBc.mono hz0))
    have hB1 : Below lo w wc := (hB0.mono hlo).trans (hBc.mono hz0)
    have hz1 : lo ≤ wc.heap.size := Nat.le_trans hlo hB1.size
    have hyl1 := HY1.out.lt
    have hSm : SM wc lo (.agg #[.bool false, .int .i64 (p : Int), .int .i64 e, .int .i64 (-1), .slice af fs.length cf, .slice av vs.length cv, .slice ab bs.length cb]) ⟨false, (p : Int), e, -1, fs, vs, bs⟩ := ⟨_, _, _, _, _, _, rfl, HF1.out, HV1.out, HB1.out⟩
    have HSm := hide hSm
    have cx := HX1'.out.c
    have cc := hC.c
    have HKc : Hid (∀ (b : Nat) (cs : Array Value) (T : TypeId), Bx w b cs T → Bx wc b cs T) := hide (fun bb cs TT hbx => (hbx.below hB0 hbx.lt).below hBc (hbx.below hB0 hbx.lt).lt)
    clear c0 r0 r1 m1 HX HY H1 H2 H3 HS hBc hSm hB0 hyl
    obtain ⟨j1, j2, j3⟩ := k123.out
    have hf5' : ¬ ((fs.length : Nat) : Int) = 500 := by omega
    have HL1 : Hid (∀ k, (Value.slice af fs.length cf).ownBlock = some k → lo ≤ k ∧ k < wc.heap.size) := hide HF1.out.lt
    have cxa := (HX1'.out.alloc (.cells #[.int .i64 x.k, .int .i64 (p : Int), .int .i64 e, .int .i64 (-1)] 141)).c
    have M1 : Hid (fs.length + 1 ≤ maxLen) := hide (by unfold maxLen; omega)
    have HO1 : Hid (∀ u ∈ [Value.int .i64 x.k, .int .i64 (p : Int), .int .i64 e, .int .i64 (-1)], u.oneCell' = true) := hide (by intro u hu; simp only [List.mem_cons, List.not_mem_nil, or_false] at hu; rcases hu with rfl | rfl | rfl | rfl <;> rfl)
    have HC := hide hC
    go_upto_region 16 with fail
    go_wp2_with (at_builtin; refine wpList_append_sep rfl _ _ 57 rfl lo 141 i2 _ 4 32 Tryz.underlying57 HI2.out z0 z1 z2 rfl (by decide) _ fs.length _ rfl (HF1.out.alloc _) ⟨wc.heap.size, 0, none⟩ 1 1 [.int .i64 x.k, .int .i64 (p : Int), .int .i64 e, .int .i64 (-1)] rfl rfl (news4 (heap_alloc_new wc _)) HO1.out M1.out (by omega) (by simp; omega) ?_)
    intro s1 w1 ho1 hg1 hap1
    clear hap1
    have hb1 : ∀ k, k < wc.heap.size → some k ≠ (Value.slice af fs.length cf).ownBlock → w1.heap[k]? = wc.heap[k]? := fun k hk hne => (hg1.block k (by simp; omega) hne).trans (Below.heap_alloc _ _ _ hk)
    have HX2 : Hid (Bx w1 w.heap.size _ _) := hide ((hb1 _ HX1'.out.lt (fun e' => own_bx HX1'.out HF1.out (by decide) e'.symm)).trans HX1'.out)
    have HY2 : Hid (Bx w1 (w.heap.size + 1) _ _) := hide ((hb1 _ hyl1 (fun e' => own_bx HY1.out HF1.out (by decide) e'.symm)).trans HY1.out)
    have HK1 : Hid (∀ (b : Nat) (cs : Array Value) (T : TypeId), T ≠ 141 → Bx w b cs T → Bx w1 b cs T) := hide (fun bb cs TT t1 hbx => (hb1 bb (HKc.out bb cs TT hbx).lt (fun e' => own_bx (HKc.out bb cs TT hbx) HF1.out t1 e'.symm)).trans (HKc.out bb cs TT hbx))
    have d2 := own_apart HV1.out HF1.out (by decide)
    have d3 := own_apart HB1.out HF1.out (by decide)
    have HV2 := hide (own_same (w' := w1) HV1.out (fun k hk _ hl => hb1 k hl (fun e' => d2 k hk e'.symm)))
    have HB2 := hide (own_same (w' := w1) HB1.out (fun k hk _ hl => hb1 k hl (fun e' => d3 k hk e'.symm)))
    have hBg : Below lo wc w1 := Below.grown (((Below.refl _ _).mono hz1).alloc hz1 _) hg1 (by simp; omega) (fun k hk => (HL1.out k hk).1)
    have HO2 := hide ho1
    obtain ⟨a1, k1, rfl⟩ := own_form ho1
    have hs1 : w.heap.size + 1 < w1.heap.size := HY2.out.lt
    clear ho1 hg1 hb1 cx cc cxa d2 d3 HX1' HY1 HF1 HV1 HB1 HO1 M1 HSm
    have cx := HX2.out.c
    have fx := HX2.out.f
    have hBs := bsc hBg w.heap.size 4 (.slice a1 (fs.length + 1) k1) hlo
    have HX3 := hide (HX2.out.set 4 (.slice a1 (fs.length + 1) k1))
    have HY3 := hide (HY2.out.setne w.heap.size 4 (.slice a1 (fs.length + 1) k1) (by omega))
    have HF3 := hide (own_set HX2.out HO2.out (by decide) 4 (.slice a1 (fs.length + 1) k1))
    have HV3 := hide (own_set HX2.out HV2.out (by decide) 4 (.slice a1 (fs.length + 1) k1))
    have HB3 := hide (own_set HX2.out HB2.out (by decide) 4 (.slice a1 (fs.length + 1) k1))
    have HK2 : Hid (∀ (b : Nat) (cs : Array Value) (T : TypeId), T ≠ 141 → Bx w b cs T → Bx (w1.setCell ⟨w.heap.size, 4, none⟩ (.slice a1 (fs.length + 1) k1)) b cs T) := hide (fun bb cs TT t1 hbx => (HK1.out bb cs TT t1 hbx).setne _ _ _ (by have := hbx.lt; omega))
    go_upto_region 17 with fail
    obtain ⟨w2, hw2⟩ : ∃ w2, w2 = w1.setCell ⟨w.heap.size, 4, none⟩ (.slice a1 (fs.length + 1) k1) := ⟨_, rfl⟩
    rw [← hw2] at hBs HX3 HY3 HF3 HV3 HB3 HK2 ⊢
    clear hw2 cx fx HX2 HY2 HO2 HV2 HB2
    have HS2 := hide (HS1.out.below hBs)
    have hB2 : Below lo w w2 := hB1.trans hBs
    have hz2 : lo ≤ w2.heap.size := Nat.le_trans hlo hB2.size
    have hkn : 0 < (tK (ndT a) p).length := by rw [HTK.out]; simp [kidsAt]; omega
    obtain ⟨kb, g, kc, hkb, hgb, c1, c2, c3⟩ := HS2.out.kids hpl hkn
    have hg0 : w2.cell? ⟨g, 0, none⟩ = some (.int .i64 KP) := by rw [c3 0 hkn, HKP.out]; simp [HTK.out, kidsAt]
    obtain ⟨kn, hkn'⟩ : ∃ kn, kn = (tK (ndT a) p).length := ⟨_, rfl⟩
    rw [← hkn'] at c2 hkn
    have hkn0 : (0 : Int) < (kn : Int) := by omega
    have hxl := HX3.out.lt
    have hyl3 := HY3.out.lt
    have hxy : ¬ w.heap.size + 1 = w.heap.size := by omega
    have hcy : ¬ w.heap.size + 1 = cb0 := by omega
    have hky : ¬ w.heap.size + 1 = kb := by omega
    have hgy : ¬ w.heap.size + 1 = g := by omega
    have HAll : Hid (∀ w', Below w2.heap.size w2 w' → w'.cell? ⟨w.heap.size, 0, none⟩ = some (.bool false) ∧ w'.cell? ⟨w.heap.size, 1, none⟩ = some (.int .i64 (p : Int)) ∧ w'.cell? ⟨w.heap.size, 2, none⟩ = some (.int .i64 e) ∧ w'.cell? ⟨w.heap.size, 3, none⟩ = some (.int .i64 (-1)) ∧ w'.cell? ⟨w.heap.size, 4, none⟩ = some (.slice a1 (fs.length + 1) k1) ∧ w'.cell? ⟨w.heap.size, 5, none⟩ = some (.slice av vs.length cv) ∧ w'.cell? ⟨w.heap.size, 6, none⟩ = some (.slice ab bs.length cb) ∧ w'.cell? ⟨cb0, 1, none⟩ = some (.slice (some ⟨kb, 0, none⟩) l.length l.length) ∧ w'.cell? ⟨kb, p, none⟩ = some (.slice (some ⟨g, 0, none⟩) kn kc) ∧ w'.cell? ⟨g, 0, none⟩ = some (.int .i64 KP)) := hide (fun w' hb => ⟨(hb.cell (p := ⟨w.heap.size, 0, none⟩) hxl).trans (HX3.out.c 0), (hb.cell (p := ⟨w.heap.size, 1, none⟩) hxl).trans (HX3.out.c 1), (hb.cell (p := ⟨w.heap.size, 2, none⟩) hxl).trans (HX3.out.c 2), (hb.cell (p := ⟨w.heap.size, 3, none⟩) hxl).trans (HX3.out.c 3), (hb.cell (p := ⟨w.heap.size, 4, none⟩) hxl).trans (HX3.out.c 4), (hb.cell (p := ⟨w.heap.size, 5, none⟩) hxl).trans (HX3.out.c 5), (hb.cell (p := ⟨w.heap.size, 6, none⟩) hxl).trans (HX3.out.c 6), (hb.cell (p := ⟨cb0, 1, none⟩) (show cb0 < _ by omega)).trans c1, (hb.cell (p := ⟨kb, p, none⟩) (show kb < _ by omega)).trans c2, (hb.cell (p := ⟨g, 0, none⟩) (show g < _ by omega)).trans hg0⟩)
    obtain ⟨u0, u1, u2, u3, u4, u5, u6, u7, u8, u9⟩ := HAll.out w2.drew (belowDrew (Below.refl _ _))
    clear c1 c2 c3 hg0 hkn'
    go_region_held3 (fun w' => w'.cell? ⟨w.heap.size, 0, none⟩ = some (.bool false) ∧ w'.cell? ⟨w.heap.size, 1, none⟩ = some (.int .i64 (p : Int)) ∧ w'.cell? ⟨w.heap.size, 2, none⟩ = some (.int .i64 e) ∧ w'.cell? ⟨w.heap.size, 3, none⟩ = some (.int .i64 (-1)) ∧ w'.cell? ⟨w.heap.size, 4, none⟩ = some (.slice a1 (fs.length + 1) k1) ∧ w'.cell? ⟨w.heap.size, 5, none⟩ = some (.slice av vs.length cv) ∧ w'.cell? ⟨w.heap.size, 6, none⟩ = some (.slice ab bs.length cb) ∧ w'.cell? ⟨cb0, 1, none⟩ = some (.slice (some ⟨kb, 0, none⟩) l.length l.length) ∧ w'.cell? ⟨kb, p, none⟩ = some (.slice (some ⟨g, 0, none⟩) kn kc) ∧ w'.cell? ⟨g, 0, none⟩ = some (.int .i64 KP)) (first | (with_reducible exact ⟨u0, u1, u2, u3, u4, u5, u6, u7, u8, u9⟩) | (with_reducible exact ⟨y0, y1, y2, y3, y4, y5, y6, y7, y8, y9⟩) | (with_reducible exact ⟨(far7 _ _ _ _ hxy _ _ _ _ _ _ _).trans y0, (far7 _ _ _ _ hxy _ _ _ _ _ _ _).trans y1, (far7 _ _ _ _ hxy _ _ _ _ _ _ _).trans y2, (far7 _ _ _ _ hxy _ _ _ _ _ _ _).trans y3, (far7 _ _ _ _ hxy _ _ _ _ _ _ _).trans y4, (far7 _ _ _ _ hxy _ _ _ _ _ _ _).trans y5, (far7 _ _ _ _ hxy _ _ _ _ _ _ _).trans y6, (far7 _ _ _ _ hcy _ _ _ _ _ _ _).trans y7, (far7 _ _ _ _ hky _ _ _ _ _ _ _).trans y8, (far7 _ _ _ _ hgy _ _ _ _ _ _ _).trans y9⟩))
      (first | ((with_reducible refine (l6Next_any _ _ _ _ _ _ _ _ _ _ _ _ _ _ _ _).mono ?_); rintro r w3 ⟨rfl, hb3⟩; have hb3' : Below w2.heap.size w2 w3 := ⟨hb3.os, hb3.tape, hb3.output, hb3.size, hb3.block⟩; obtain ⟨y0, y1, y2, y3, y4, y5, y6, y7, y8, y9⟩ := HAll.out w3 hb3'; have hY4 := HY3.out.below hb3' HY3.out.lt; have cy3 := hY4.c; have fy3 := hY4.f; have HB4 := hide hb3'; clear hb3 hb3' hY4))
    have HY4 := hide (HY3.out.below HB4.out HY3.out.lt)
    have hB3 : Below lo w w3 := hB2.trans (HB4.out.mono hz2)
    clear u0 u1 u2 u3 u4 u5 u6 u7 u8 u9 y0 y1 y2 y3 y4 y5 y6 y7 y8 y9 HAll
    go_wp2_with fail
    refine bodyPost_ret (v := .tuple #[.agg #[.bool false, .int .i64 KP, .int .i64 e, .int .i64 (-1), .slice a1 (fs.length + 1) k1, .slice av vs.length cv, .slice ab bs.length cb], .bool true]) (by simp [results, Tryz.results103, go_sem, cy3]) rfl ⟨_, rfl, ?_, ?_, fun bb cs TT t1 t2 t3 hbx => (((((((((HK2.out bb cs TT t1 hbx).below HB4.out (HK2.out bb cs TT t1 hbx).lt).setne (w.heap.size + 1) 0 _ (by have := hbx.lt; omega)).setne (w.heap.size + 1) 1 _ (by have := hbx.lt; omega)).setne (w.heap.size + 1) 2 _ (by have := hbx.lt; omega)).setne (w.heap.size + 1) 3 _ (by have := hbx.lt; omega)).setne (w.heap.size + 1) 4 _ (by have := hbx.lt; omega)).setne (w.heap.size + 1) 5 _ (by have := hbx.lt; omega)).setne (w.heap.size + 1) 6 _ (by have := hbx.lt; omega))⟩
    · have e1 : (fs ++ [(⟨x.k, (p : Int), e, -1⟩ : Fm)]).length = fs.length + 1 := by simp
      have hf3 := own_keep HF3.out (fun k _ hk => HB4.out.block k hk)
      rw [show rcells 4 Fm.c fs ++ [.int .i64 x.k, .int .i64 (p : Int), .int .i64 e, .int .i64 (-1)] = rcells 4 Fm.c (fs ++ [⟨x.k, (p : Int), e, -1⟩]) from by rw [lies_v]; rfl, ← e1] at hf3
      have q0 : Kp w3 (w.heap.size + 1) lo (.slice a1 (fs ++ [(⟨x.k, (p : Int), e, -1⟩ : Fm)]).length k1) (.slice av vs.length cv) (.slice ab bs.length cb) (fs ++ [⟨x.k, (p : Int), e, -1⟩]) vs bs := ⟨⟨_, HY4.out⟩, hf3, own_keep HV3.out (fun k _ hk => HB4.out.block k hk), own_keep HB3.out (fun k _ hk => HB4.out.block k hk)⟩
      have := (((((((q0.set 0 (.bool false)).set 1 (.int .i64 KP)).set 2 (.int .i64 e)).set 3 (.int .i64 (-1))).set 4 (.slice a1 (fs.length + 1) k1)).set 5 (.slice av vs.length cv)).set 6 (.slice ab bs.length cb)).sm false KP e (-1)
      simp only [e1] at this
      exact this
    · exact bsc (bsc (bsc (bsc (bsc (bsc (bsc hB3 _ _ _ (by omega)) _ _ _ (by omega)) _ _ _ (by omega)) _ _ _ (by omega)) _ _ _ (by omega)) _ _ _ (by omega)) _ _ _ (by omega)
end Go.Proofs.YtnmkbpflbfhpnaaGreat.W

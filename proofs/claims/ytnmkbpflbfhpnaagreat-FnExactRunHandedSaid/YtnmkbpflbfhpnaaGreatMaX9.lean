/-
  Contracts of l6Go at a let that came. Conditions: good machines of closed terms.
-/
import Derived.Test.YtnmkbpflbfhpnaaGreatMaX8
import Derived.Deep.RegionHeld3
import Derived.Deep.RegionLaw
import Derived.Deep.AppendLies
import Derived.Deep.CutRange
namespace Go.Proofs.YtnmkbpflbfhpnaaGreat.W
open Go.ChangeShapes Go.WideShapes Go.ChangeAt Go.RowKit
set_option linter.unusedVariables false
set_option linter.unusedSimpArgs false

theorem bindN_can (m : Mc) (v u p : Int) : canOf (bindN m v u p) = true ∧ roomOf (bindN m v u p) = isL (bindN m v u p) := by
  unfold bindN; split <;> simp [canOf, roomOf, isL]
theorem newM_can (m : Mc) (y : Vl) : canOf (newM m y) = true ∧ roomOf (newM m y) = isL (newM m y) := by
  unfold newM; split <;> simp [canOf, roomOf, isL]
set_option maxRecDepth 20000 in
set_option maxHeartbeats 4000000 in
theorem l6Go_let (lo cb0 : Nat) (ad : Option Addr) (c : Nat) (l : List Cc) (a : F) (v : Value) (m : Mc) (f : Fm) (w : World) (hCl : Cl l a) (h : SM w lo v m) (hS : SR w lo cb0 ad c l a) (hG : GM a l m) (hd : m.done = true) (hf : m.fs.getLast? = some f) (k45 : f.k = 7) (hv0 : f.val = -1) :
    Calls Tryz.prog 104 #[.pointer (some ⟨cb0, 0, none⟩), v] w (GoP lo w (goM a l m f)) := by
  have hlo := hS.le
  have hmem : f ∈ m.fs := List.mem_of_getLast? hf
  have hfn : 0 < m.fs.length := List.length_pos_of_mem hmem
  obtain ⟨d1, d2, d3, d4⟩ := nOk_done hG.now hd
  obtain ⟨p1, p2, p3, p4⟩ := fOk_parts (hG.fs f hmem)
  obtain ⟨q1, q2, q3⟩ := pOk_iff.1 p1
  obtain ⟨x, d0, k, x1, x2, x3, x4, x5, x6, x7⟩ := hCl.part q1
  obtain ⟨p, hp⟩ := Int.eq_ofNat_of_zero_le q1.1
  have hp' : f.pl.toNat = p := by rw [hp]; rfl
  rw [hp'] at x1 x2 x3
  have hpl : p < l.length := by have := q1.2; omega
  have HXk : Hid (x.k = f.k) := hide (by rw [← x4, p2])
  obtain ⟨i, hi⟩ := Int.eq_ofNat_of_zero_le d3
  have hil : i < m.vs.length := by omega
  have hnv := hG.nv
  have hnb := hG.nb
  have hnf := hG.nf
  have hl6 := hCl.le
  have HCl := hide hCl
  have HX1 := hide x1
  have HG := hide hG
  have HP3 := hide p3
  have HP4 := hide p4
  have HLast := hide hf
  have HTK : Hid (tK (ndT a) p = kidsAt p k) := hide (by unfold tK; rw [x1])
  have hkl : k.len = ar x.k := x6
  obtain ⟨af, cf, av, cv, ab, cb, rfl, h1, h2, h3⟩ := h
  obtain ⟨dn, pl, ev, vl, fs, vs, bs⟩ := m
  obtain ⟨fk, fp, fe, fv⟩ := f
  simp only at *
  subst hd d1 d2 hi hp k45 hv0
  have hX := (Bx.new w #[.bool true, .int .i64 (-1), .int .i64 (-1), .int .i64 (i : Int), .slice af fs.length cf, .slice av vs.length cv, .slice ab bs.length cb] 61).alloc (.cells #[.bool false, .int .i64 0, .int .i64 0, .int .i64 0, .slice none 0 0, .slice none 0 0, .slice none 0 0] 61)
  have hY := Bx.new (w.alloc (.cells #[.bool true, .int .i64 (-1), .int .i64 (-1), .int .i64 (i : Int), .slice af fs.length cf, .slice av vs.length cv, .slice ab bs.length cb] 61)) #[.bool false, .int .i64 0, .int .i64 0, .int .i64 0, .slice none 0 0, .slice none 0 0, .slice none 0 0] 61
  simp only [World.size_alloc] at hY
  have hB0 : Below w.heap.size w ((w.alloc (.cells #[.bool true, .int .i64 (-1), .int .i64 (-1), .int .i64 (i : Int), .slice af fs.length cf, .slice av vs.length cv, .slice ab bs.length cb] 61)).alloc (.cells #[.bool false, .int .i64 0, .int .i64 0, .int .i64 0, .slice none 0 0, .slice none 0 0, .slice none 0 0] 61)) := ((Below.refl _ _).alloc (Nat.le_refl _) _).alloc (by simp) _
  have H1 := hide (own_keep h1 (fun k _ hk => hB0.block k hk))
  have H2 := hide (own_keep h2 (fun k _ hk => hB0.block k hk))
  have H3 := hide (own_keep h3 (fun k _ hk => hB0.block k hk))
  have HS := hide (hS.below (hB0.mono hlo))
  have hcl := hS.lt
  have hq : fs.length - 1 < fs.length := by omega
  have hfe : fs[fs.length - 1] = (⟨7, (p : Int), fe, -1⟩ : Fm) := by
    have := HLast.out
    rw [List.getLast?_eq_getElem?, List.getElem?_eq_getElem hq] at this
    simpa using this
  obtain ⟨GO, hGO⟩ : ∃ GO, GO = goM a l (⟨true, -1, -1, (i : Int), fs, vs, bs⟩ : Mc) (⟨7, (p : Int), fe, -1⟩ : Fm) := ⟨_, rfl⟩
  rw [← hGO]
  have HGO := hide hGO
  clear hGO x2 x3 x4 x5 x6 x7 x1 q1 q2 q3 p1 p2 p3 p4 hp' hG hS hCl hf hmem d3 d4
  go_enter Tryz.func104, Tryz.ntmps104
  go_upto_region 1 with fail
  obtain ⟨w0, hw0⟩ : ∃ w0, w0 = (w.alloc (.cells #[.bool true, .int .i64 (-1), .int .i64 (-1), .int .i64 (i : Int), .slice af fs.length cf, .slice av vs.length cv, .slice ab bs.length cb] 61)).alloc (.cells #[.bool false, .int .i64 0, .int .i64 0, .int .i64 0, .slice none 0 0, .slice none 0 0, .slice none 0 0] 61) := ⟨_, rfl⟩
  rw [← hw0] at hX hY hB0 H1 H2 H3 HS ⊢
  clear hw0 h1 h2 h3
  obtain ⟨b, o, haf, hb, r0, r1, r2, r3⟩ := FmRow.tok (RRow.ofOwn H1.out rfl) (Below.refl _ _) hq
  subst haf
  rw [hfe] at r0 r1 r2 r3
  simp only at r0 r1 r2 r3
  obtain ⟨n, hnn⟩ : ∃ n, n = fs.length := ⟨_, rfl⟩
  obtain ⟨q, hqq⟩ : ∃ q, q = fs.length - 1 := ⟨_, rfl⟩
  rw [← hqq] at r0 r1 r2 r3
  have hin : (n : Int) - 1 = (q : Int) := by omega
  have e1 : IntKind.i64.wrap ((n : Int) - 1) = (q : Int) := (IntWalk.i64_in _ ⟨by omega, by omega⟩).trans hin
  have e2 : IntKind.i64.wrap (q : Int) = (q : Int) := IntWalk.i64_in _ ⟨by omega, by omega⟩
  have b1 : (q : Int) < (n : Int) := by omega
  have b0 : (0 : Int) ≤ (q : Int) := by omega
  have cx := hX.c
  rw [← hnn] at cx
  have HN := hide hnn
  have HQ := hide hqq
  clear hnn hqq hfe hq
  go_upto_region 3 with fail
  have HX1' := hide (hX.alloc (.cells #[.int .i64 7, .int .i64 (p : Int), .int .i64 fe, .int .i64 (-1)] 141))
  have HY1 := hide (hY.alloc (.cells #[.int .i64 7, .int .i64 (p : Int), .int .i64 fe, .int .i64 (-1)] 141))
  have HFb := hide (Bx.new w0 #[.int .i64 7, .int .i64 (p : Int), .int .i64 fe, .int .i64 (-1)] 141)
  have hbq : Below w0.heap.size w0 (w0.alloc (.cells #[.int .i64 7, .int .i64 (p : Int), .int .i64 fe, .int .i64 (-1)] 141)) := (Below.refl _ _).alloc (Nat.le_refl _) _
  have hz0 : lo ≤ w0.heap.size := Nat.le_trans hlo hB0.size
  obtain ⟨w1, hw1⟩ : ∃ w1, w1 = w0.alloc (.cells #[.int .i64 7, .int .i64 (p : Int), .int .i64 fe, .int .i64 (-1)] 141) := ⟨_, rfl⟩
  rw [← hw1] at HX1' HY1 HFb hbq ⊢
  clear hw1 hX cx r0 r1 r2 r3
  have hyl := hY.lt
  clear hY
  have HF1 := hide (own_keep H1.out (fun k _ hk => hbq.block k hk))
  have HV1 := hide (own_keep H2.out (fun k _ hk => hbq.block k hk))
  have HB1 := hide (own_keep H3.out (fun k _ hk => hbq.block k hk))
  have HFlt : Hid (∀ kk, (Value.slice (some ⟨b, o, none⟩) fs.length cf).ownBlock = some kk → lo ≤ kk ∧ kk < w0.heap.size) := hide H1.out.lt
  have HS1 := hide (HS.out.below (hbq.mono hz0))
  have hB1 : Below lo w w1 := (hB0.mono hlo).trans (hbq.mono hz0)
  have hz1 : lo ≤ w1.heap.size := Nat.le_trans hlo hB1.size
  have HKc : Hid (∀ (b : Nat) (cs : Array Value) (T : TypeId), Bx w b cs T → Bx w1 b cs T) := hide (fun bb cs TT hbx => (hbx.below hB0 hbx.lt).below hbq (hbx.below hB0 hbx.lt).lt)
  have hfl1 := HFb.out.lt
  have hsz1 : w.heap.size + 1 < w0.heap.size := hyl
  have hkn : 0 < (tK (ndT a) p).length := by
    rw [HTK.out]
    have h4 := HP3.out
    have hk4 := HXk.out
    have : 0 < ar x.k := by rw [hk4]; unfold ar; rw [if_neg (by omega)]; split <;> (try split) <;> omega
    simp [kidsAt]; omega
  obtain ⟨kb, g, kc, hkb, hgb, c1, c2, c3⟩ := HS1.out.kids hpl hkn
  rw [HTK.out] at c2 c3 hkn
  have HC3 := hide c3
  obtain ⟨kn, hkn'⟩ : ∃ kn, kn = (kidsAt p k).length := ⟨_, rfl⟩
  have HKN : Hid (kn = ar x.k) := hide (by rw [hkn']; simp [kidsAt]; omega)
  rw [← hkn'] at c2 hkn
  have fb1 : w1.cell? ⟨w0.heap.size, 1, none⟩ = some (.int .i64 (p : Int)) := HFb.out.c 1
  have hp1 : (p : Int) < (l.length : Int) := by omega
  have hp0 : (0 : Int) ≤ (p : Int) := by omega
  have cxx := HX1'.out.c
  clear hbq hB0 H1 H2 H3 HS c3 hkn'
  go_upto_region 4 with fail
  clear cxx
  go_region_held3 (fun w' => w'.cell? ⟨cb0, 1, none⟩ = some (.slice (some ⟨kb, 0, none⟩) l.length l.length) ∧ w'.cell? ⟨w0.heap.size, 1, none⟩ = some (.int .i64 (p : Int)) ∧ w'.cell? ⟨kb, p, none⟩ = some (.slice (some ⟨g, 0, none⟩) kn kc)) (go_keep)
    (first | fail)
  have hdr : Below w1.heap.size w1 w1.drew := belowDrew (Below.refl _ _)
  have HX2 := hide (HX1'.out.drew)
  have HY2 := hide (HY1.out.drew)
  have HFb2 := hide (HFb.out.drew)
  have HF2 := hide (own_keep HF1.out (fun k _ hk => hdr.block k hk))
  have HV2 := hide (own_keep HV1.out (fun k _ hk => hdr.block k hk))
  have HB2 := hide (own_keep HB1.out (fun k _ hk => hdr.block k hk))
  have HS2 := hide (HS1.out.below (hdr.mono hz1))
  have hB2 : Below lo w w1.drew := belowDrew hB1
  have HKd : Hid (∀ (b : Nat) (cs : Array Value) (T : TypeId), Bx w b cs T → Bx w1.drew b cs T) := hide (fun bb cs TT hbx => (HKc.out bb cs TT hbx).drew)
  have HC4 : Hid (∀ j (h : j < (kidsAt p k).length), w1.drew.cell? ⟨g, j, none⟩ = some (.int .i64 (kidsAt p k)[j])) := hide (fun j hj => HC3.out j hj)
  have hsd : w1.drew.heap.size = w1.heap.size := rfl
  obtain ⟨w2, hw2⟩ : ∃ w2, w2 = w1.drew := ⟨_, rfl⟩
  rw [← hw2] at HX2 HY2 HFb2 HF2 HV2 HB2 HS2 hB2 HKd HC4 hsd ⊢
  have hz2 : lo ≤ w2.heap.size := by omega
  have hfl2 : w0.heap.size < w2.heap.size := by omega
  clear hw2 hdr HX1' HY1 HFb HF1 HV1 HB1 HS1 hB1 HKc HC3 hsd c1 c2 fb1
  have cx := HX2.out.c
  have fx := HX2.out.f
  have cf2 := HFb2.out.c
  rw [← HN.out] at cx
  obtain rfl : o = 0 := by
    rcases HF2.out.2 with ⟨e1', e2'⟩ | ⟨g', cap, cur, e1', _⟩
    · cases e1'
    · simp only [Value.slice.injEq, Option.some.injEq, Addr.mk.injEq, and_true] at e1'
      exact e1'.1.2
  have hcap := own_cap HF2.out
  have hcm : (cf : Int) ≤ 9223372036854775807 := by
    rcases HF2.out.2 with ⟨e', -⟩ | ⟨g', cap, cur, e', -, -, -, e2', -⟩
    · cases e'
    · simp only [Value.slice.injEq] at e'; unfold maxLen at e2'; omega
  have hqn := HQ.out
  have bq1 : (q : Int) ≤ (cf : Int) := by omega
  have hdl : fs.dropLast.length = q := by simp; omega
  have HX3 : Hid (Bx (w2.setCell ⟨w.heap.size, 4, none⟩ (.slice (some ⟨b, 0, none⟩) q cf)) w.heap.size #[.bool true, .int .i64 (-1), .int .i64 (-1), .int .i64 (i : Int), .slice (some ⟨b, 0, none⟩) q cf, .slice av vs.length cv, .slice ab bs.length cb] 61) := hide (by simpa using HX2.out.set 4 (.slice (some ⟨b, 0, none⟩) q cf))
  have HY3 := hide (HY2.out.setne w.heap.size 4 (.slice (some ⟨b, 0, none⟩) q cf) (by omega))
  have HFb3 := hide (HFb2.out.setne w.heap.size 4 (.slice (some ⟨b, 0, none⟩) q cf) (by omega))
  have HV3 := hide (own_set HX2.out HV2.out (by decide) 4 (.slice (some ⟨b, 0, none⟩) q cf))
  have HB3 := hide (own_set HX2.out HB2.out (by decide) 4 (.slice (some ⟨b, 0, none⟩) q cf))
  have hf3 := own_set HX2.out (own_cut HF2.out rfl hfn) (by decide) 4 (.slice (some ⟨b, 0, none⟩) q cf)
  rw [← hqn] at hf3
  have HF3 : Hid ((w2.setCell ⟨w.heap.size, 4, none⟩ (.slice (some ⟨b, 0, none⟩) q cf)).ownsRow lo 141 4 (.slice (some ⟨b, 0, none⟩) q cf) fs.dropLast.length (rcells 4 Fm.c fs.dropLast)) := hide (by rw [hdl]; exact hf3)
  have hB3 := bsc hB2 w.heap.size 4 (.slice (some ⟨b, 0, none⟩) q cf) (by omega)
  have HS3 := hide (HS2.out.below (bsc (Below.refl lo w2) w.heap.size 4 (.slice (some ⟨b, 0, none⟩) q cf) (by omega)))
  have HK3 : Hid (∀ (b' : Nat) (cs : Array Value) (T : TypeId), Bx w b' cs T → Bx (w2.setCell ⟨w.heap.size, 4, none⟩ (.slice (some ⟨b, 0, none⟩) q cf)) b' cs T) := hide (fun bb cs TT hbx => (HKd.out bb cs TT hbx).setne _ _ _ (by have := hbx.lt; omega))
  have HC5 : Hid (∀ j (h : j < (kidsAt p k).length), (w2.setCell ⟨w.heap.size, 4, none⟩ (.slice (some ⟨b, 0, none⟩) q cf)).cell? ⟨g, j, none⟩ = some (.int .i64 (kidsAt p k)[j])) := hide (fun j hj => (World.cell?_setCell_far _ _ _ _ (show w.heap.size ≠ g by omega)).trans (HC4.out j hj))
  have HDL := hide hdl
  clear hf3 HC4 hqn hdl
  go_upto_region 9 with fail
  obtain ⟨w3, hw3⟩ : ∃ w3, w3 = (w2.setCell ⟨w.heap.size, 4, none⟩ (.slice (some ⟨b, 0, none⟩) q cf)) := ⟨_, rfl⟩
  rw [← hw3] at HX3 HY3 HFb3 HV3 HB3 HF3 hB3 HS3 HK3 HC5 ⊢
  have hz3 : lo ≤ w3.heap.size := Nat.le_trans hlo hB3.size
  have hfl3 := HFb3.out.lt
  clear hw3 cx fx cf2 HX2 HY2 HFb2 HF2 HV2 HB2 HS2 HKd hB2
  obtain ⟨KP, hKP⟩ : ∃ KP, KP = kp a (p : Int) 1 := ⟨_, rfl⟩
  have hKPe : KP = ((p + 1 + ko k 1 : Nat) : Int) := by rw [hKP]; unfold kp; rw [Int.toNat_natCast, HX1.out]; simp
  have hknN : 1 < (kidsAt p k).length := by simp [kidsAt]; rw [hkl, HXk.out]; decide
  have HCk : Hid (w3.cell? ⟨g, 1, none⟩ = some (.int .i64 KP)) := hide (by rw [HC5.out 1 hknN, hKPe]; simp [kidsAt])
  have HKP := hide hKP
  have hknk : 1 < kn := by rw [HKN.out]; have := hknN; simp [kidsAt] at this; omega
  clear hKP hKPe hknN
  have cf3 := HFb3.out.c
  go_upto_region 17 with fail
  clear cf3
  have hknj : (1 : Int) < (kn : Int) := by omega
  obtain ⟨BN, hBN⟩ : ∃ BN, BN = bindN (⟨true, -1, -1, (i : Int), fs.dropLast, vs, bs⟩ : Mc) (i : Int) fe KP := ⟨_, rfl⟩
  obtain ⟨M9, hM9⟩ : ∃ M9, M9 = mcOf' (⟨true, -1, -1, (i : Int), fs.dropLast, vs, bs⟩ : Mc) BN := ⟨_, rfl⟩
  have hsm0 := (Kp.sm (w := w3) (b := w.heap.size + 1) (lo := lo) (af := some ⟨b, 0, none⟩) (cf := cf) (av := av) (cv := cv) (ab := ab) (cb := cb) (fs := fs.dropLast) (vs := vs) (bs := bs) ⟨⟨_, HY3.out⟩, (by rw [HDL.out]; have := HF3.out; rw [HDL.out] at this; exact this), HV3.out, HB3.out⟩) true (-1) (-1) (i : Int)
  rw [HDL.out] at hsm0
  have HBi : Hid (∀ w', Below w3.heap.size w3 w' → Calls Tryz.prog 111 #[.agg #[.bool true, .int .i64 (-1), .int .i64 (-1), .int .i64 (i : Int), .slice (some ⟨b, 0, none⟩) q cf, .slice av vs.length cv, .slice ab bs.length cb], .int .i64 (i : Int), .int .i64 fe, .int .i64 KP] w' fun r w9 => ∃ v9, r = .returned (.tuple #[v9, .bool (isL BN)]) ∧ SM w9 lo v9 M9 ∧ Below lo w' w9 ∧ ∀ (b : Nat) (cs : Array Value) (T : TypeId), T ≠ 162 → Bx w' b cs T → Bx w9 b cs T) := hide (fun w' hb => by rw [hM9, hBN]; exact l6Bind_any lo _ _ (i : Int) fe KP w' (hsm0.below hb) (by simpa using hnb) (Nat.le_trans hz3 hb.size))
  have HMI : Hid (∀ m1, BN = .inl m1 → M9 = m1) := hide (fun m1 h1 => by rw [hM9, h1]; rfl)
  have HBN := hide hBN
  obtain ⟨d9, p9, e9, x9, fs9, vs9, bs9⟩ := M9
  obtain ⟨LB, hLB⟩ : ∃ LB, LB = isL BN := ⟨_, rfl⟩
  rw [← hLB] at HBi
  have HLB := hide hLB
  clear hM9 hBN hLB hsm0
  have HAll : Hid (∀ w', Below w3.heap.size w3 w' → w'.cell? ⟨w.heap.size, 0, none⟩ = some (.bool true) ∧ w'.cell? ⟨w.heap.size, 1, none⟩ = some (.int .i64 (-1)) ∧ w'.cell? ⟨w.heap.size, 2, none⟩ = some (.int .i64 (-1)) ∧ w'.cell? ⟨w.heap.size, 3, none⟩ = some (.int .i64 (i : Int)) ∧ w'.cell? ⟨w.heap.size, 4, none⟩ = some (.slice (some ⟨b, 0, none⟩) q cf) ∧ w'.cell? ⟨w.heap.size, 5, none⟩ = some (.slice av vs.length cv) ∧ w'.cell? ⟨w.heap.size, 6, none⟩ = some (.slice ab bs.length cb) ∧ w'.cell? ⟨g, 1, none⟩ = some (.int .i64 KP) ∧ w'.cell? ⟨w0.heap.size, 2, none⟩ = some (.int .i64 fe)) := hide (fun w' hb => ⟨(hb.cell (p := ⟨w.heap.size, 0, none⟩) HX3.out.lt).trans (HX3.out.c 0), (hb.cell (p := ⟨w.heap.size, 1, none⟩) HX3.out.lt).trans (HX3.out.c 1), (hb.cell (p := ⟨w.heap.size, 2, none⟩) HX3.out.lt).trans (HX3.out.c 2), (hb.cell (p := ⟨w.heap.size, 3, none⟩) HX3.out.lt).trans (HX3.out.c 3), (hb.cell (p := ⟨w.heap.size, 4, none⟩) HX3.out.lt).trans (HX3.out.c 4), (hb.cell (p := ⟨w.heap.size, 5, none⟩) HX3.out.lt).trans (HX3.out.c 5), (hb.cell (p := ⟨w.heap.size, 6, none⟩) HX3.out.lt).trans (HX3.out.c 6), (hb.cell (p := ⟨g, 1, none⟩) (show g < _ by omega)).trans (HCk.out), (hb.cell (p := ⟨w0.heap.size, 2, none⟩) HFb3.out.lt).trans (HFb3.out.c 2)⟩)
  have HBd : Hid (Below w3.heap.size w3 w3.drew) := hide (belowDrew (Below.refl _ _))
  have HBa : Hid (Below w3.heap.size w3 (w3.alloc (.cells #[.bool false, .int .i64 0, .int .i64 0, .int .i64 0, .slice none 0 0, .slice none 0 0, .slice none 0 0] 61)).drew) := hide (belowDrew ((Below.refl _ _).alloc (Nat.le_refl _) _))
  obtain ⟨u0, u1, u2, u3, u4, u5, u6, u7, u8⟩ := HAll.out w3.drew HBd.out
  obtain ⟨z0, z1, z2, z3, z4, z5, z6, z7, z8⟩ := HAll.out (w3.alloc (.cells #[.bool false, .int .i64 0, .int .i64 0, .int .i64 0, .slice none 0 0, .slice none 0 0, .slice none 0 0] 61)).drew HBa.out
  have ha1 : ¬ w3.heap.size = w.heap.size := by have := HX3.out.lt; omega
  have ha2 : ¬ w3.heap.size = g := by omega
  have ha3 : ¬ w3.heap.size = w0.heap.size := by omega
  have HCan : Hid (canOf GO = true ∧ roomOf GO = LB ∧ ∀ m1, GO = .inl m1 → (⟨d9, p9, e9, x9, fs9, vs9, bs9⟩ : Mc) = m1) := hide (by
    have e : GO = BN := by rw [HGO.out, HBN.out, HKP.out]; rfl
    rw [e, HLB.out]
    refine ⟨?_, ?_, HMI.out⟩
    · rw [HBN.out]; exact (bindN_can _ _ _ _).1
    · rw [HBN.out]; exact (bindN_can _ _ _ _).2)
  go_region_held3 (fun w' => w'.cell? ⟨w.heap.size, 0, none⟩ = some (.bool true) ∧ w'.cell? ⟨w.heap.size, 1, none⟩ = some (.int .i64 (-1)) ∧ w'.cell? ⟨w.heap.size, 2, none⟩ = some (.int .i64 (-1)) ∧ w'.cell? ⟨w.heap.size, 3, none⟩ = some (.int .i64 (i : Int)) ∧ w'.cell? ⟨w.heap.size, 4, none⟩ = some (.slice (some ⟨b, 0, none⟩) q cf) ∧ w'.cell? ⟨w.heap.size, 5, none⟩ = some (.slice av vs.length cv) ∧ w'.cell? ⟨w.heap.size, 6, none⟩ = some (.slice ab bs.length cb) ∧ w'.cell? ⟨g, 1, none⟩ = some (.int .i64 KP) ∧ w'.cell? ⟨w0.heap.size, 2, none⟩ = some (.int .i64 fe)) (first | (with_reducible exact ⟨u0, u1, u2, u3, u4, u5, u6, u7, u8⟩) | (with_reducible exact ⟨z0, z1, z2, z3, z4, z5, z6, z7, z8⟩) | (with_reducible exact ⟨y0, y1, y2, y3, y4, y5, y6, y7, y8⟩) | (with_reducible exact ⟨v0, v1, v2, v3, v4, v5, v6, v7, v8⟩) | (with_reducible exact ⟨t0, t1, t2, t3, t4, t5, t6, t7, t8⟩) | (with_reducible exact ⟨(far7 _ _ _ _ ha1 _ _ _ _ _ _ _).trans y0, (far7 _ _ _ _ ha1 _ _ _ _ _ _ _).trans y1, (far7 _ _ _ _ ha1 _ _ _ _ _ _ _).trans y2, (far7 _ _ _ _ ha1 _ _ _ _ _ _ _).trans y3, (far7 _ _ _ _ ha1 _ _ _ _ _ _ _).trans y4, (far7 _ _ _ _ ha1 _ _ _ _ _ _ _).trans y5, (far7 _ _ _ _ ha1 _ _ _ _ _ _ _).trans y6, (far7 _ _ _ _ ha2 _ _ _ _ _ _ _).trans y7, (far7 _ _ _ _ ha3 _ _ _ _ _ _ _).trans y8⟩))
    (first
      | ((with_reducible refine (HBi.out _ HBd.out).mono ?_); rintro r w9 ⟨v9, rfl, hsm9, hb9, hk9⟩; obtain ⟨af9, cf9, av9, cv9, ab9, cb9, rfl, o1, o2, o3⟩ := hsm9; have hX9 := hk9 _ _ _ (by decide) (HX3.out.below HBd.out HX3.out.lt); have hY9 := hk9 _ _ _ (by decide) (HY3.out.below HBd.out HY3.out.lt); have hF9 := hk9 _ _ _ (by decide) (HFb3.out.below HBd.out HFb3.out.lt); have HA9 : Hid (∀ w', Below w9.heap.size w9 w' → w'.cell? ⟨w.heap.size, 0, none⟩ = some (.bool true) ∧ w'.cell? ⟨w.heap.size, 1, none⟩ = some (.int .i64 (-1)) ∧ w'.cell? ⟨w.heap.size, 2, none⟩ = some (.int .i64 (-1)) ∧ w'.cell? ⟨w.heap.size, 3, none⟩ = some (.int .i64 (i : Int)) ∧ w'.cell? ⟨w.heap.size, 4, none⟩ = some (.slice (some ⟨b, 0, none⟩) q cf) ∧ w'.cell? ⟨w.heap.size, 5, none⟩ = some (.slice av vs.length cv) ∧ w'.cell? ⟨w.heap.size, 6, none⟩ = some (.slice ab bs.length cb) ∧ w'.cell? ⟨g, 1, none⟩ = some (.int .i64 KP) ∧ w'.cell? ⟨w0.heap.size, 2, none⟩ = some (.int .i64 fe)) := hide (fun w' hb => ⟨(hb.cell (p := ⟨w.heap.size, 0, none⟩) hX9.lt).trans (hX9.c 0), (hb.cell (p := ⟨w.heap.size, 1, none⟩) hX9.lt).trans (hX9.c 1), (hb.cell (p := ⟨w.heap.size, 2, none⟩) hX9.lt).trans (hX9.c 2), (hb.cell (p := ⟨w.heap.size, 3, none⟩) hX9.lt).trans (hX9.c 3), (hb.cell (p := ⟨w.heap.size, 4, none⟩) hX9.lt).trans (hX9.c 4), (hb.cell (p := ⟨w.heap.size, 5, none⟩) hX9.lt).trans (hX9.c 5), (hb.cell (p := ⟨w.heap.size, 6, none⟩) hX9.lt).trans (hX9.c 6), (hb.cell (p := ⟨g, 1, none⟩) (show g < w9.heap.size by have := hb9.size; have := HBd.out.size; omega)).trans ((hb9.cell (p := ⟨g, 1, none⟩) (show g < lo by omega)).trans (u7)), (hb.cell (p := ⟨w0.heap.size, 2, none⟩) hF9.lt).trans (hF9.c 2)⟩); obtain ⟨y0, y1, y2, y3, y4, y5, y6, y7, y8⟩ := HA9.out w9 (Below.refl _ _); obtain ⟨v0, v1, v2, v3, v4, v5, v6, v7, v8⟩ := HA9.out (w9.alloc (.cells #[.bool false, .int .i64 0, .int .i64 0, .int .i64 0, .slice none 0 0, .slice none 0 0, .slice none 0 0] 61)) ((Below.refl _ _).alloc (Nat.le_refl _) _); obtain ⟨t0, t1, t2, t3, t4, t5, t6, t7, t8⟩ := HA9.out (w9.alloc (.cells #[.bool d9, .int .i64 p9, .int .i64 e9, .int .i64 x9, .slice af9 fs9.length cf9, .slice av9 vs9.length cv9, .slice ab9 bs9.length cb9] 61)) ((Below.refl _ _).alloc (Nat.le_refl _) _); have hc1 : ¬ w9.heap.size = w.heap.size := (by have := hX9.lt; omega); have hc2 : ¬ w9.heap.size = g := (by have := hb9.size; have := HBd.out.size; omega); have hc3 : ¬ w9.heap.size = w0.heap.size := (by have := hF9.lt; omega); have HO1 := hide o1; have HO2 := hide o2; have HO3 := hide o3; have HY9 := hide hY9; have HB9 : Hid (Below lo w3 w9) := hide ((HBd.out.mono hz3).trans hb9); have HK9 : Hid (∀ (b : Nat) (cs : Array Value) (T : TypeId), T ≠ 141 → T ≠ 69 → T ≠ 162 → Bx w3 b cs T → Bx w9 b cs T) := hide (fun bb cs TT t1 t2 t3 hbx => hk9 bb cs TT (by assumption) (hbx.below HBd.out hbx.lt)); clear o1 o2 o3 hX9 hY9 hF9 hb9 hk9)
      | ((with_reducible refine (HBi.out _ HBa.out).mono ?_); rintro r w9 ⟨v9, rfl, hsm9, hb9, hk9⟩; obtain ⟨af9, cf9, av9, cv9, ab9, cb9, rfl, o1, o2, o3⟩ := hsm9; have hX9 := hk9 _ _ _ (by decide) (HX3.out.below HBa.out HX3.out.lt); have hY9 := hk9 _ _ _ (by decide) (HY3.out.below HBa.out HY3.out.lt); have hF9 := hk9 _ _ _ (by decide) (HFb3.out.below HBa.out HFb3.out.lt); have HA9 : Hid (∀ w', Below w9.heap.size w9 w' → w'.cell? ⟨w.heap.size, 0, none⟩ = some (.bool true) ∧ w'.cell? ⟨w.heap.size, 1, none⟩ = some (.int .i64 (-1)) ∧ w'.cell? ⟨w.heap.size, 2, none⟩ = some (.int .i64 (-1)) ∧ w'.cell? ⟨w.heap.size, 3, none⟩ = some (.int .i64 (i : Int)) ∧ w'.cell? ⟨w.heap.size, 4, none⟩ = some (.slice (some ⟨b, 0, none⟩) q cf) ∧ w'.cell? ⟨w.heap.size, 5, none⟩ = some (.slice av vs.length cv) ∧ w'.cell? ⟨w.heap.size, 6, none⟩ = some (.slice ab bs.length cb) ∧ w'.cell? ⟨g, 1, none⟩ = some (.int .i64 KP) ∧ w'.cell? ⟨w0.heap.size, 2, none⟩ = some (.int .i64 fe)) := hide (fun w' hb => ⟨(hb.cell (p := ⟨w.heap.size, 0, none⟩) hX9.lt).trans (hX9.c 0), (hb.cell (p := ⟨w.heap.size, 1, none⟩) hX9.lt).trans (hX9.c 1), (hb.cell (p := ⟨w.heap.size, 2, none⟩) hX9.lt).trans (hX9.c 2), (hb.cell (p := ⟨w.heap.size, 3, none⟩) hX9.lt).trans (hX9.c 3), (hb.cell (p := ⟨w.heap.size, 4, none⟩) hX9.lt).trans (hX9.c 4), (hb.cell (p := ⟨w.heap.size, 5, none⟩) hX9.lt).trans (hX9.c 5), (hb.cell (p := ⟨w.heap.size, 6, none⟩) hX9.lt).trans (hX9.c 6), (hb.cell (p := ⟨g, 1, none⟩) (show g < w9.heap.size by have := hb9.size; have := HBa.out.size; omega)).trans ((hb9.cell (p := ⟨g, 1, none⟩) (show g < lo by omega)).trans (z7)), (hb.cell (p := ⟨w0.heap.size, 2, none⟩) hF9.lt).trans (hF9.c 2)⟩); obtain ⟨y0, y1, y2, y3, y4, y5, y6, y7, y8⟩ := HA9.out w9 (Below.refl _ _); obtain ⟨v0, v1, v2, v3, v4, v5, v6, v7, v8⟩ := HA9.out (w9.alloc (.cells #[.bool false, .int .i64 0, .int .i64 0, .int .i64 0, .slice none 0 0, .slice none 0 0, .slice none 0 0] 61)) ((Below.refl _ _).alloc (Nat.le_refl _) _); obtain ⟨t0, t1, t2, t3, t4, t5, t6, t7, t8⟩ := HA9.out (w9.alloc (.cells #[.bool d9, .int .i64 p9, .int .i64 e9, .int .i64 x9, .slice af9 fs9.length cf9, .slice av9 vs9.length cv9, .slice ab9 bs9.length cb9] 61)) ((Below.refl _ _).alloc (Nat.le_refl _) _); have hc1 : ¬ w9.heap.size = w.heap.size := (by have := hX9.lt; omega); have hc2 : ¬ w9.heap.size = g := (by have := hb9.size; have := HBa.out.size; omega); have hc3 : ¬ w9.heap.size = w0.heap.size := (by have := hF9.lt; omega); have HO1 := hide o1; have HO2 := hide o2; have HO3 := hide o3; have HY9 := hide hY9; have HB9 : Hid (Below lo w3 w9) := hide ((HBa.out.mono hz3).trans hb9); have HK9 : Hid (∀ (b : Nat) (cs : Array Value) (T : TypeId), T ≠ 141 → T ≠ 69 → T ≠ 162 → Bx w3 b cs T → Bx w9 b cs T) := hide (fun bb cs TT t1 t2 t3 hbx => hk9 bb cs TT (by assumption) (hbx.below HBa.out hbx.lt)); have hxx := hk9 _ _ _ (by decide) ((Bx.new w3 #[.bool false, .int .i64 0, .int .i64 0, .int .i64 0, .slice none 0 0, .slice none 0 0, .slice none 0 0] 61).drew); have cxx := hxx.c; have fxx := hxx.f; have HXx := hide hxx; clear hxx; clear o1 o2 o3 hX9 hY9 hF9 hb9 hk9))
  · have HX10 : Hid (Bx (w9.alloc (.cells #[.bool d9, .int .i64 p9, .int .i64 e9, .int .i64 x9, .slice af9 fs9.length cf9, .slice av9 vs9.length cv9, .slice ab9 bs9.length cb9] 61)) w9.heap.size #[.bool d9, .int .i64 p9, .int .i64 e9, .int .i64 x9, .slice af9 fs9.length cf9, .slice av9 vs9.length cv9, .slice ab9 bs9.length cb9] 61) := hide (Bx.new w9 _ _)
    have HY10 : Hid (Bx (w9.alloc (.cells #[.bool d9, .int .i64 p9, .int .i64 e9, .int .i64 x9, .slice af9 fs9.length cf9, .slice av9 vs9.length cv9, .slice ab9 bs9.length cb9] 61)) (w.heap.size + 1) #[.bool false, .int .i64 0, .int .i64 0, .int .i64 0, .slice none 0 0, .slice none 0 0, .slice none 0 0] 61) := hide (HY9.out.alloc _)
    have HQ10 : Hid (Kp (w9.alloc (.cells #[.bool d9, .int .i64 p9, .int .i64 e9, .int .i64 x9, .slice af9 fs9.length cf9, .slice av9 vs9.length cv9, .slice ab9 bs9.length cb9] 61)) (w.heap.size + 1) lo (.slice af9 fs9.length cf9) (.slice av9 vs9.length cv9) (.slice ab9 bs9.length cb9) fs9 vs9 bs9) := hide (⟨⟨_, HY9.out.alloc _⟩, own_keep HO1.out (fun k _ hk => ((Below.refl w9.heap.size w9).alloc (Nat.le_refl _) (.cells #[.bool d9, .int .i64 p9, .int .i64 e9, .int .i64 x9, .slice af9 fs9.length cf9, .slice av9 vs9.length cv9, .slice ab9 bs9.length cb9] 61)).block k hk), own_keep HO2.out (fun k _ hk => ((Below.refl w9.heap.size w9).alloc (Nat.le_refl _) (.cells #[.bool d9, .int .i64 p9, .int .i64 e9, .int .i64 x9, .slice af9 fs9.length cf9, .slice av9 vs9.length cv9, .slice ab9 bs9.length cb9] 61)).block k hk), own_keep HO3.out (fun k _ hk => ((Below.refl w9.heap.size w9).alloc (Nat.le_refl _) (.cells #[.bool d9, .int .i64 p9, .int .i64 e9, .int .i64 x9, .slice af9 fs9.length cf9, .slice av9 vs9.length cv9, .slice ab9 bs9.length cb9] 61)).block k hk)⟩)
    have hB10 : Below lo w (w9.alloc (.cells #[.bool d9, .int .i64 p9, .int .i64 e9, .int .i64 x9, .slice af9 fs9.length cf9, .slice av9 vs9.length cv9, .slice ab9 bs9.length cb9] 61)) := (hB3.trans HB9.out).alloc (Nat.le_trans hz3 HB9.out.size) _
    have HK10 : Hid (∀ (b : Nat) (cs : Array Value) (T : TypeId), T ≠ 141 → T ≠ 69 → T ≠ 162 → Bx w b cs T → Bx (w9.alloc (.cells #[.bool d9, .int .i64 p9, .int .i64 e9, .int .i64 x9, .slice af9 fs9.length cf9, .slice av9 vs9.length cv9, .slice ab9 bs9.length cb9] 61)) b cs T) := hide (fun bb cs TT t1 t2 t3 hbx => (HK9.out bb cs TT t1 t2 t3 (HK3.out bb cs TT hbx)).alloc _)
    clear u0 u1 u2 u3 u4 u5 u6 u7 u8 z0 z1 z2 z3 z4 z5 z6 z7 z8 y0 y1 y2 y3 y4 y5 y6 y7 y8 v0 v1 v2 v3 v4 v5 v6 v7 v8 t0 t1 t2 t3 t4 t5 t6 t7 t8
    obtain ⟨w10, hw10⟩ : ∃ w10, w10 = (w9.alloc (.cells #[.bool d9, .int .i64 p9, .int .i64 e9, .int .i64 x9, .slice af9 fs9.length cf9, .slice av9 vs9.length cv9, .slice ab9 bs9.length cb9] 61)) := ⟨_, rfl⟩
    rw [← hw10] at HX10 HY10 HQ10 hB10 HK10 ⊢
    clear hw10
    have cx10 := HX10.out.c
    have cy10 := HY10.out.c
    have fy10 := HY10.out.f
    go_wp2_with fail
    refine bodyPost_ret (v := .tuple #[.agg #[.bool d9, .int .i64 p9, .int .i64 e9, .int .i64 x9, .slice af9 fs9.length cf9, .slice av9 vs9.length cv9, .slice ab9 bs9.length cb9], .bool true, .bool LB]) (by simp [results, Tryz.results104, go_sem, cy10]) rfl (GoP.mk _ ⟨d9, p9, e9, x9, fs9, vs9, bs9⟩ (by rw [HCan.out.1, HCan.out.2.1]) ?_ HCan.out.2.2 ?_ (fun bb cs TT t1 t2 t3 hbx => ((((((((HK10.out bb cs TT t1 t2 t3 hbx).setne (w.heap.size + 1) 0 _ (by have := hbx.lt; omega)).setne (w.heap.size + 1) 1 _ (by have := hbx.lt; omega)).setne (w.heap.size + 1) 2 _ (by have := hbx.lt; omega)).setne (w.heap.size + 1) 3 _ (by have := hbx.lt; omega)).setne (w.heap.size + 1) 4 _ (by have := hbx.lt; omega)).setne (w.heap.size + 1) 5 _ (by have := hbx.lt; omega)).setne (w.heap.size + 1) 6 _ (by have := hbx.lt; omega))))
    · exact ((((((((HQ10.out.set 0 (.bool d9)).set 1 (.int .i64 p9)).set 2 (.int .i64 e9)).set 3 (.int .i64 x9)).set 4 (.slice af9 fs9.length cf9)).set 5 (.slice av9 vs9.length cv9)).set 6 (.slice ab9 bs9.length cb9))).sm d9 p9 e9 x9
    · exact bsc (bsc (bsc (bsc (bsc (bsc (bsc hB10 _ _ _ (by omega)) _ _ _ (by omega)) _ _ _ (by omega)) _ _ _ (by omega)) _ _ _ (by omega)) _ _ _ (by omega)) _ _ _ (by omega)
  · have HQx : Hid (Kp w9 w3.heap.size lo (.slice af9 fs9.length cf9) (.slice av9 vs9.length cv9) (.slice ab9 bs9.length cb9) fs9 vs9 bs9) := hide ⟨⟨_, HXx.out⟩, HO1.out, HO2.out, HO3.out⟩
    clear cxx fxx
    have HX10 : Hid (Bx (((((((w9.setCell ⟨w3.heap.size, 0, none⟩ (.bool d9)).setCell ⟨w3.heap.size, 1, none⟩ (.int .i64 p9)).setCell ⟨w3.heap.size, 2, none⟩ (.int .i64 e9)).setCell ⟨w3.heap.size, 3, none⟩ (.int .i64 x9)).setCell ⟨w3.heap.size, 4, none⟩ (.slice af9 fs9.length cf9)).setCell ⟨w3.heap.size, 5, none⟩ (.slice av9 vs9.length cv9)).setCell ⟨w3.heap.size, 6, none⟩ (.slice ab9 bs9.length cb9)) w3.heap.size #[.bool d9, .int .i64 p9, .int .i64 e9, .int .i64 x9, .slice af9 fs9.length cf9, .slice av9 vs9.length cv9, .slice ab9 bs9.length cb9] 61) := hide (by simpa using (((((((HXx.out.set 0 (.bool d9)).set 1 (.int .i64 p9)).set 2 (.int .i64 e9)).set 3 (.int .i64 x9)).set 4 (.slice af9 fs9.length cf9)).set 5 (.slice av9 vs9.length cv9)).set 6 (.slice ab9 bs9.length cb9)))
    have HY10 : Hid (Bx (((((((w9.setCell ⟨w3.heap.size, 0, none⟩ (.bool d9)).setCell ⟨w3.heap.size, 1, none⟩ (.int .i64 p9)).setCell ⟨w3.heap.size, 2, none⟩ (.int .i64 e9)).setCell ⟨w3.heap.size, 3, none⟩ (.int .i64 x9)).setCell ⟨w3.heap.size, 4, none⟩ (.slice af9 fs9.length cf9)).setCell ⟨w3.heap.size, 5, none⟩ (.slice av9 vs9.length cv9)).setCell ⟨w3.heap.size, 6, none⟩ (.slice ab9 bs9.length cb9)) (w.heap.size + 1) #[.bool false, .int .i64 0, .int .i64 0, .int .i64 0, .slice none 0 0, .slice none 0 0, .slice none 0 0] 61) := hide ((((((((HY9.out.setne w3.heap.size 0 (.bool d9) (by have := HY3.out.lt; omega)).setne w3.heap.size 1 (.int .i64 p9) (by have := HY3.out.lt; omega)).setne w3.heap.size 2 (.int .i64 e9) (by have := HY3.out.lt; omega)).setne w3.heap.size 3 (.int .i64 x9) (by have := HY3.out.lt; omega)).setne w3.heap.size 4 (.slice af9 fs9.length cf9) (by have := HY3.out.lt; omega)).setne w3.heap.size 5 (.slice av9 vs9.length cv9) (by have := HY3.out.lt; omega)).setne w3.heap.size 6 (.slice ab9 bs9.length cb9) (by have := HY3.out.lt; omega)))
    have HQ10 : Hid (Kp (((((((w9.setCell ⟨w3.heap.size, 0, none⟩ (.bool d9)).setCell ⟨w3.heap.size, 1, none⟩ (.int .i64 p9)).setCell ⟨w3.heap.size, 2, none⟩ (.int .i64 e9)).setCell ⟨w3.heap.size, 3, none⟩ (.int .i64 x9)).setCell ⟨w3.heap.size, 4, none⟩ (.slice af9 fs9.length cf9)).setCell ⟨w3.heap.size, 5, none⟩ (.slice av9 vs9.length cv9)).setCell ⟨w3.heap.size, 6, none⟩ (.slice ab9 bs9.length cb9)) (w.heap.size + 1) lo (.slice af9 fs9.length cf9) (.slice av9 vs9.length cv9) (.slice ab9 bs9.length cb9) fs9 vs9 bs9) := hide (⟨⟨_, (((((((HY9.out.setne w3.heap.size 0 (.bool d9) (by have := HY3.out.lt; omega)).setne w3.heap.size 1 (.int .i64 p9) (by have := HY3.out.lt; omega)).setne w3.heap.size 2 (.int .i64 e9) (by have := HY3.out.lt; omega)).setne w3.heap.size 3 (.int .i64 x9) (by have := HY3.out.lt; omega)).setne w3.heap.size 4 (.slice af9 fs9.length cf9) (by have := HY3.out.lt; omega)).setne w3.heap.size 5 (.slice av9 vs9.length cv9) (by have := HY3.out.lt; omega)).setne w3.heap.size 6 (.slice ab9 bs9.length cb9) (by have := HY3.out.lt; omega))⟩, ((((((((HQx.out.set 0 (.bool d9)).set 1 (.int .i64 p9)).set 2 (.int .i64 e9)).set 3 (.int .i64 x9)).set 4 (.slice af9 fs9.length cf9)).set 5 (.slice av9 vs9.length cv9)).set 6 (.slice ab9 bs9.length cb9))).f, ((((((((HQx.out.set 0 (.bool d9)).set 1 (.int .i64 p9)).set 2 (.int .i64 e9)).set 3 (.int .i64 x9)).set 4 (.slice af9 fs9.length cf9)).set 5 (.slice av9 vs9.length cv9)).set 6 (.slice ab9 bs9.length cb9))).v, ((((((((HQx.out.set 0 (.bool d9)).set 1 (.int .i64 p9)).set 2 (.int .i64 e9)).set 3 (.int .i64 x9)).set 4 (.slice af9 fs9.length cf9)).set 5 (.slice av9 vs9.length cv9)).set 6 (.slice ab9 bs9.length cb9))).b'⟩)
    have hB10 : Below lo w (((((((w9.setCell ⟨w3.heap.size, 0, none⟩ (.bool d9)).setCell ⟨w3.heap.size, 1, none⟩ (.int .i64 p9)).setCell ⟨w3.heap.size, 2, none⟩ (.int .i64 e9)).setCell ⟨w3.heap.size, 3, none⟩ (.int .i64 x9)).setCell ⟨w3.heap.size, 4, none⟩ (.slice af9 fs9.length cf9)).setCell ⟨w3.heap.size, 5, none⟩ (.slice av9 vs9.length cv9)).setCell ⟨w3.heap.size, 6, none⟩ (.slice ab9 bs9.length cb9)) := (bsc (bsc (bsc (bsc (bsc (bsc (bsc (hB3.trans HB9.out) w3.heap.size 0 (.bool d9) hz3) w3.heap.size 1 (.int .i64 p9) hz3) w3.heap.size 2 (.int .i64 e9) hz3) w3.heap.size 3 (.int .i64 x9) hz3) w3.heap.size 4 (.slice af9 fs9.length cf9) hz3) w3.heap.size 5 (.slice av9 vs9.length cv9) hz3) w3.heap.size 6 (.slice ab9 bs9.length cb9) hz3)
    have HK10 : Hid (∀ (b : Nat) (cs : Array Value) (T : TypeId), T ≠ 141 → T ≠ 69 → T ≠ 162 → Bx w b cs T → Bx (((((((w9.setCell ⟨w3.heap.size, 0, none⟩ (.bool d9)).setCell ⟨w3.heap.size, 1, none⟩ (.int .i64 p9)).setCell ⟨w3.heap.size, 2, none⟩ (.int .i64 e9)).setCell ⟨w3.heap.size, 3, none⟩ (.int .i64 x9)).setCell ⟨w3.heap.size, 4, none⟩ (.slice af9 fs9.length cf9)).setCell ⟨w3.heap.size, 5, none⟩ (.slice av9 vs9.length cv9)).setCell ⟨w3.heap.size, 6, none⟩ (.slice ab9 bs9.length cb9)) b cs T) := hide (fun bb cs TT t1 t2 t3 hbx => ((((((((HK9.out bb cs TT t1 t2 t3 (HK3.out bb cs TT hbx)).setne w3.heap.size 0 (.bool d9) (by have := hbx.lt; have := HX3.out.lt; omega)).setne w3.heap.size 1 (.int .i64 p9) (by have := hbx.lt; have := HX3.out.lt; omega)).setne w3.heap.size 2 (.int .i64 e9) (by have := hbx.lt; have := HX3.out.lt; omega)).setne w3.heap.size 3 (.int .i64 x9) (by have := hbx.lt; have := HX3.out.lt; omega)).setne w3.heap.size 4 (.slice af9 fs9.length cf9) (by have := hbx.lt; have := HX3.out.lt; omega)).setne w3.heap.size 5 (.slice av9 vs9.length cv9) (by have := hbx.lt; have := HX3.out.lt; omega)).setne w3.heap.size 6 (.slice ab9 bs9.length cb9) (by have := hbx.lt; have := HX3.out.lt; omega)))
    clear u0 u1 u2 u3 u4 u5 u6 u7 u8 z0 z1 z2 z3 z4 z5 z6 z7 z8 y0 y1 y2 y3 y4 y5 y6 y7 y8 v0 v1 v2 v3 v4 v5 v6 v7 v8 t0 t1 t2 t3 t4 t5 t6 t7 t8
    obtain ⟨w10, hw10⟩ : ∃ w10, w10 = (((((((w9.setCell ⟨w3.heap.size, 0, none⟩ (.bool d9)).setCell ⟨w3.heap.size, 1, none⟩ (.int .i64 p9)).setCell ⟨w3.heap.size, 2, none⟩ (.int .i64 e9)).setCell ⟨w3.heap.size, 3, none⟩ (.int .i64 x9)).setCell ⟨w3.heap.size, 4, none⟩ (.slice af9 fs9.length cf9)).setCell ⟨w3.heap.size, 5, none⟩ (.slice av9 vs9.length cv9)).setCell ⟨w3.heap.size, 6, none⟩ (.slice ab9 bs9.length cb9)) := ⟨_, rfl⟩
    rw [← hw10] at HX10 HY10 HQ10 hB10 HK10 ⊢
    clear hw10
    have cx10 := HX10.out.c
    have cy10 := HY10.out.c
    have fy10 := HY10.out.f
    go_wp2_with fail
    refine bodyPost_ret (v := .tuple #[.agg #[.bool d9, .int .i64 p9, .int .i64 e9, .int .i64 x9, .slice af9 fs9.length cf9, .slice av9 vs9.length cv9, .slice ab9 bs9.length cb9], .bool true, .bool LB]) (by simp [results, Tryz.results104, go_sem, cy10]) rfl (GoP.mk _ ⟨d9, p9, e9, x9, fs9, vs9, bs9⟩ (by rw [HCan.out.1, HCan.out.2.1]) ?_ HCan.out.2.2 ?_ (fun bb cs TT t1 t2 t3 hbx => ((((((((HK10.out bb cs TT t1 t2 t3 hbx).setne (w.heap.size + 1) 0 _ (by have := hbx.lt; omega)).setne (w.heap.size + 1) 1 _ (by have := hbx.lt; omega)).setne (w.heap.size + 1) 2 _ (by have := hbx.lt; omega)).setne (w.heap.size + 1) 3 _ (by have := hbx.lt; omega)).setne (w.heap.size + 1) 4 _ (by have := hbx.lt; omega)).setne (w.heap.size + 1) 5 _ (by have := hbx.lt; omega)).setne (w.heap.size + 1) 6 _ (by have := hbx.lt; omega))))
    · exact ((((((((HQ10.out.set 0 (.bool d9)).set 1 (.int .i64 p9)).set 2 (.int .i64 e9)).set 3 (.int .i64 x9)).set 4 (.slice af9 fs9.length cf9)).set 5 (.slice av9 vs9.length cv9)).set 6 (.slice ab9 bs9.length cb9))).sm d9 p9 e9 x9
    · exact bsc (bsc (bsc (bsc (bsc (bsc (bsc hB10 _ _ _ (by omega)) _ _ _ (by omega)) _ _ _ (by omega)) _ _ _ (by omega)) _ _ _ (by omega)) _ _ _ (by omega)) _ _ _ (by omega)

end Go.Proofs.YtnmkbpflbfhpnaaGreat.W

/-
  Some texts of this proof in one: MaY1, MaY2, MaY3.
-/
import Derived.Test.YtnmkbpflbfhpnaaGreatMaX9
import Derived.Test.YtnmkbpflbfhpnaaGreatJ00
import Derived.Deep.RegionHeld3
import Derived.Deep.RegionLaw
import Derived.Deep.AppendLies
import Derived.Deep.CutRange
import Derived.Test.YtnmkbpflbfhpnaaGreatMaY0
/-
  Contracts of l6Go at a sum whose parts came. Conditions: good machines of closed terms.
-/
namespace Go.Proofs.YtnmkbpflbfhpnaaGreat.W
open Go.ChangeShapes Go.WideShapes Go.ChangeAt Go.RowKit
set_option linter.unusedVariables false
set_option linter.unusedSimpArgs false

set_option maxRecDepth 20000 in
set_option maxHeartbeats 4000000 in
theorem l6Go_add (lo cb0 : Nat) (ad : Option Addr) (c : Nat) (l : List Cc) (a : F) (v : Value) (m : Mc) (f : Fm) (w : World) (hCl : Cl l a) (h : SM w lo v m) (hS : SR w lo cb0 ad c l a) (hG : GM a l m) (hd : m.done = true) (hf : m.fs.getLast? = some f) (k45 : f.k = 5) (j : Nat) (hv0 : f.val = (j : Int)) (hjl : j < m.vs.length) :
    Calls Tryz.prog 104 #[.pointer (some ⟨cb0, 0, none⟩), v] w (GoP lo w (goM a l m f)) := by
  have hlo := hS.le
  have hmem : f ∈ m.fs := List.mem_of_getLast? hf
  have hfn : 0 < m.fs.length := List.length_pos_of_mem hmem
  obtain ⟨d1, d2, d3, d4⟩ := nOk_done hG.now hd
  obtain ⟨p1, p2, p3, p4⟩ := fOk_parts (hG.fs f hmem)
  obtain ⟨q1, q2, q3⟩ := pOk_iff.1 p1
  obtain ⟨x, d0, k, x1, x2, x3, x4, x5, x6, x7⟩ := hCl.part q1
  obtain ⟨p, hp⟩ := Int.eq_ofNat_of_zero_le q1.1
  have hp' : f.pl.toNat = p := by rw [hp]; rfl
  rw [hp'] at x1 x2 x3
  have hpl : p < l.length := by have := q1.2; omega
  have HXk : Hid (x.k = f.k) := hide (by rw [← x4, p2])
  obtain ⟨i, hi⟩ := Int.eq_ofNat_of_zero_le d3
  have hil : i < m.vs.length := by omega
  have hnv := hG.nv
  have hnb := hG.nb
  have hnf := hG.nf
  have hl6 := hCl.le
  have HCl := hide hCl
  have HX1 := hide x1
  have HG := hide hG
  have HP3 := hide p3
  have HP4 := hide p4
  have HLast := hide hf
  have HTK : Hid (tK (ndT a) p = kidsAt p k) := hide (by unfold tK; rw [x1])
  have hkl : k.len = ar x.k := x6
  obtain ⟨af, cf, av, cv, ab, cb, rfl, h1, h2, h3⟩ := h
  obtain ⟨dn, pl, ev, vl, fs, vs, bs⟩ := m
  obtain ⟨fk, fp, fe, fv⟩ := f
  simp only at *
  subst hd d1 d2 hi hp k45 hv0
  have hX := (Bx.new w #[.bool true, .int .i64 (-1), .int .i64 (-1), .int .i64 (i : Int), .slice af fs.length cf, .slice av vs.length cv, .slice ab bs.length cb] 61).alloc (.cells #[.bool false, .int .i64 0, .int .i64 0, .int .i64 0, .slice none 0 0, .slice none 0 0, .slice none 0 0] 61)
  have hY := Bx.new (w.alloc (.cells #[.bool true, .int .i64 (-1), .int .i64 (-1), .int .i64 (i : Int), .slice af fs.length cf, .slice av vs.length cv, .slice ab bs.length cb] 61)) #[.bool false, .int .i64 0, .int .i64 0, .int .i64 0, .slice none 0 0, .slice none 0 0, .slice none 0 0] 61
  simp only [World.size_alloc] at hY
  have hB0 : Below w.heap.size w ((w.alloc (.cells #[.bool true, .int .i64 (-1), .int .i64 (-1), .int .i64 (i : Int), .slice af fs.length cf, .slice av vs.length cv, .slice ab bs.length cb] 61)).alloc (.cells #[.bool false, .int .i64 0, .int .i64 0, .int .i64 0, .slice none 0 0, .slice none 0 0, .slice none 0 0] 61)) := ((Below.refl _ _).alloc (Nat.le_refl _) _).alloc (by simp) _
  have H1 := hide (own_keep h1 (fun k _ hk => hB0.block k hk))
  have H2 := hide (own_keep h2 (fun k _ hk => hB0.block k hk))
  have H3 := hide (own_keep h3 (fun k _ hk => hB0.block k hk))
  have HS := hide (hS.below (hB0.mono hlo))
  have hcl := hS.lt
  have hq : fs.length - 1 < fs.length := by omega
  have hfe : fs[fs.length - 1] = (⟨5, (p : Int), fe, (j : Int)⟩ : Fm) := by
    have := HLast.out
    rw [List.getLast?_eq_getElem?, List.getElem?_eq_getElem hq] at this
    simpa using this
  obtain ⟨GO, hGO⟩ : ∃ GO, GO = goM a l (⟨true, -1, -1, (i : Int), fs, vs, bs⟩ : Mc) (⟨5, (p : Int), fe, (j : Int)⟩ : Fm) := ⟨_, rfl⟩
  rw [← hGO]
  have HGO := hide hGO
  clear hGO x2 x3 x4 x5 x6 x7 x1 q1 q2 q3 p1 p2 p3 p4 hp' hG hS hCl hf hmem d3 d4
  go_enter Tryz.func104, Tryz.ntmps104
  go_upto_region 1 with fail
  obtain ⟨w0, hw0⟩ : ∃ w0, w0 = (w.alloc (.cells #[.bool true, .int .i64 (-1), .int .i64 (-1), .int .i64 (i : Int), .slice af fs.length cf, .slice av vs.length cv, .slice ab bs.length cb] 61)).alloc (.cells #[.bool false, .int .i64 0, .int .i64 0, .int .i64 0, .slice none 0 0, .slice none 0 0, .slice none 0 0] 61) := ⟨_, rfl⟩
  rw [← hw0] at hX hY hB0 H1 H2 H3 HS ⊢
  clear hw0 h1 h2 h3
  obtain ⟨b, o, haf, hb, r0, r1, r2, r3⟩ := FmRow.tok (RRow.ofOwn H1.out rfl) (Below.refl _ _) hq
  subst haf
  rw [hfe] at r0 r1 r2 r3
  simp only at r0 r1 r2 r3
  obtain ⟨n, hnn⟩ : ∃ n, n = fs.length := ⟨_, rfl⟩
  obtain ⟨q, hqq⟩ : ∃ q, q = fs.length - 1 := ⟨_, rfl⟩
  rw [← hqq] at r0 r1 r2 r3
  have hin : (n : Int) - 1 = (q : Int) := by omega
  have e1 : IntKind.i64.wrap ((n : Int) - 1) = (q : Int) := (IntWalk.i64_in _ ⟨by omega, by omega⟩).trans hin
  have e2 : IntKind.i64.wrap (q : Int) = (q : Int) := IntWalk.i64_in _ ⟨by omega, by omega⟩
  have b1 : (q : Int) < (n : Int) := by omega
  have b0 : (0 : Int) ≤ (q : Int) := by omega
  have cx := hX.c
  rw [← hnn] at cx
  have HN := hide hnn
  have HQ := hide hqq
  clear hnn hqq hfe hq
  go_upto_region 3 with fail
  have HX1' := hide (hX.alloc (.cells #[.int .i64 5, .int .i64 (p : Int), .int .i64 fe, .int .i64 (j : Int)] 141))
  have HY1 := hide (hY.alloc (.cells #[.int .i64 5, .int .i64 (p : Int), .int .i64 fe, .int .i64 (j : Int)] 141))
  have HFb := hide (Bx.new w0 #[.int .i64 5, .int .i64 (p : Int), .int .i64 fe, .int .i64 (j : Int)] 141)
  have hbq : Below w0.heap.size w0 (w0.alloc (.cells #[.int .i64 5, .int .i64 (p : Int), .int .i64 fe, .int .i64 (j : Int)] 141)) := (Below.refl _ _).alloc (Nat.le_refl _) _
  have hz0 : lo ≤ w0.heap.size := Nat.le_trans hlo hB0.size
  obtain ⟨w1, hw1⟩ : ∃ w1, w1 = w0.alloc (.cells #[.int .i64 5, .int .i64 (p : Int), .int .i64 fe, .int .i64 (j : Int)] 141) := ⟨_, rfl⟩
  rw [← hw1] at HX1' HY1 HFb hbq ⊢
  clear hw1 hX cx r0 r1 r2 r3
  have hyl := hY.lt
  clear hY
  have HF1 := hide (own_keep H1.out (fun k _ hk => hbq.block k hk))
  have HV1 := hide (own_keep H2.out (fun k _ hk => hbq.block k hk))
  have HB1 := hide (own_keep H3.out (fun k _ hk => hbq.block k hk))
  have HFlt : Hid (∀ kk, (Value.slice (some ⟨b, o, none⟩) fs.length cf).ownBlock = some kk → lo ≤ kk ∧ kk < w0.heap.size) := hide H1.out.lt
  have HS1 := hide (HS.out.below (hbq.mono hz0))
  have hB1 : Below lo w w1 := (hB0.mono hlo).trans (hbq.mono hz0)
  have hz1 : lo ≤ w1.heap.size := Nat.le_trans hlo hB1.size
  have HKc : Hid (∀ (b : Nat) (cs : Array Value) (T : TypeId), Bx w b cs T → Bx w1 b cs T) := hide (fun bb cs TT hbx => (hbx.below hB0 hbx.lt).below hbq (hbx.below hB0 hbx.lt).lt)
  have hfl1 := HFb.out.lt
  have hsz1 : w.heap.size + 1 < w0.heap.size := hyl
  have hkn : 0 < (tK (ndT a) p).length := by
    rw [HTK.out]
    have h4 := HP3.out
    have hk4 := HXk.out
    have : 0 < ar x.k := by rw [hk4]; unfold ar; rw [if_neg (by omega)]; split <;> (try split) <;> omega
    simp [kidsAt]; omega
  obtain ⟨kb, g, kc, hkb, hgb, c1, c2, c3⟩ := HS1.out.kids hpl hkn
  rw [HTK.out] at c2 c3 hkn
  have HC3 := hide c3
  obtain ⟨kn, hkn'⟩ : ∃ kn, kn = (kidsAt p k).length := ⟨_, rfl⟩
  have HKN : Hid (kn = ar x.k) := hide (by rw [hkn']; simp [kidsAt]; omega)
  rw [← hkn'] at c2 hkn
  have fb1 : w1.cell? ⟨w0.heap.size, 1, none⟩ = some (.int .i64 (p : Int)) := HFb.out.c 1
  have hp1 : (p : Int) < (l.length : Int) := by omega
  have hp0 : (0 : Int) ≤ (p : Int) := by omega
  have cxx := HX1'.out.c
  clear hbq hB0 H1 H2 H3 HS c3 hkn'
  go_upto_region 4 with fail
  clear cxx
  go_region_held3 (fun w' => w'.cell? ⟨cb0, 1, none⟩ = some (.slice (some ⟨kb, 0, none⟩) l.length l.length) ∧ w'.cell? ⟨w0.heap.size, 1, none⟩ = some (.int .i64 (p : Int)) ∧ w'.cell? ⟨kb, p, none⟩ = some (.slice (some ⟨g, 0, none⟩) kn kc)) (go_keep)
    (first | fail)
  have hdr : Below w1.heap.size w1 w1.drew := belowDrew (Below.refl _ _)
  have HX2 := hide (HX1'.out.drew)
  have HY2 := hide (HY1.out.drew)
  have HFb2 := hide (HFb.out.drew)
  have HF2 := hide (own_keep HF1.out (fun k _ hk => hdr.block k hk))
  have HV2 := hide (own_keep HV1.out (fun k _ hk => hdr.block k hk))
  have HB2 := hide (own_keep HB1.out (fun k _ hk => hdr.block k hk))
  have HS2 := hide (HS1.out.below (hdr.mono hz1))
  have hB2 : Below lo w w1.drew := belowDrew hB1
  have HKd : Hid (∀ (b : Nat) (cs : Array Value) (T : TypeId), Bx w b cs T → Bx w1.drew b cs T) := hide (fun bb cs TT hbx => (HKc.out bb cs TT hbx).drew)
  have HC4 : Hid (∀ j (h : j < (kidsAt p k).length), w1.drew.cell? ⟨g, j, none⟩ = some (.int .i64 (kidsAt p k)[j])) := hide (fun j hj => HC3.out j hj)
  have hsd : w1.drew.heap.size = w1.heap.size := rfl
  obtain ⟨w2, hw2⟩ : ∃ w2, w2 = w1.drew := ⟨_, rfl⟩
  rw [← hw2] at HX2 HY2 HFb2 HF2 HV2 HB2 HS2 hB2 HKd HC4 hsd ⊢
  have hz2 : lo ≤ w2.heap.size := by omega
  have hfl2 : w0.heap.size < w2.heap.size := by omega
  clear hw2 hdr HX1' HY1 HFb HF1 HV1 HB1 HS1 hB1 HKc HC3 hsd c1 c2 fb1
  have cx := HX2.out.c
  have fx := HX2.out.f
  have cf2 := HFb2.out.c
  rw [← HN.out] at cx
  have hne1 : ¬ (j : Int) = -1 := by omega
  obtain rfl : o = 0 := by
    rcases HF2.out.2 with ⟨e1', e2'⟩ | ⟨g', cap, cur, e1', _⟩
    · cases e1'
    · simp only [Value.slice.injEq, Option.some.injEq, Addr.mk.injEq, and_true] at e1'
      exact e1'.1.2
  have hcap := own_cap HF2.out
  have hcm : (cf : Int) ≤ 9223372036854775807 := by
    rcases HF2.out.2 with ⟨e', -⟩ | ⟨g', cap, cur, e', -, -, -, e2', -⟩
    · cases e'
    · simp only [Value.slice.injEq] at e'; unfold maxLen at e2'; omega
  have hqn := HQ.out
  have bq1 : (q : Int) ≤ (cf : Int) := by omega
  have hdl : fs.dropLast.length = q := by simp; omega
  have HX3 : Hid (Bx (w2.setCell ⟨w.heap.size, 4, none⟩ (.slice (some ⟨b, 0, none⟩) q cf)) w.heap.size #[.bool true, .int .i64 (-1), .int .i64 (-1), .int .i64 (i : Int), .slice (some ⟨b, 0, none⟩) q cf, .slice av vs.length cv, .slice ab bs.length cb] 61) := hide (by simpa using HX2.out.set 4 (.slice (some ⟨b, 0, none⟩) q cf))
  have HY3 := hide (HY2.out.setne w.heap.size 4 (.slice (some ⟨b, 0, none⟩) q cf) (by omega))
  have HFb3 := hide (HFb2.out.setne w.heap.size 4 (.slice (some ⟨b, 0, none⟩) q cf) (by omega))
  have HV3 := hide (own_set HX2.out HV2.out (by decide) 4 (.slice (some ⟨b, 0, none⟩) q cf))
  have HB3 := hide (own_set HX2.out HB2.out (by decide) 4 (.slice (some ⟨b, 0, none⟩) q cf))
  have hf3 := own_set HX2.out (own_cut HF2.out rfl hfn) (by decide) 4 (.slice (some ⟨b, 0, none⟩) q cf)
  rw [← hqn] at hf3
  have HF3 : Hid ((w2.setCell ⟨w.heap.size, 4, none⟩ (.slice (some ⟨b, 0, none⟩) q cf)).ownsRow lo 141 4 (.slice (some ⟨b, 0, none⟩) q cf) fs.dropLast.length (rcells 4 Fm.c fs.dropLast)) := hide (by rw [hdl]; exact hf3)
  have hB3 := bsc hB2 w.heap.size 4 (.slice (some ⟨b, 0, none⟩) q cf) (by omega)
  have HS3 := hide (HS2.out.below (bsc (Below.refl lo w2) w.heap.size 4 (.slice (some ⟨b, 0, none⟩) q cf) (by omega)))
  have HK3 : Hid (∀ (b' : Nat) (cs : Array Value) (T : TypeId), Bx w b' cs T → Bx (w2.setCell ⟨w.heap.size, 4, none⟩ (.slice (some ⟨b, 0, none⟩) q cf)) b' cs T) := hide (fun bb cs TT hbx => (HKd.out bb cs TT hbx).setne _ _ _ (by have := hbx.lt; omega))
  have HC5 : Hid (∀ j (h : j < (kidsAt p k).length), (w2.setCell ⟨w.heap.size, 4, none⟩ (.slice (some ⟨b, 0, none⟩) q cf)).cell? ⟨g, j, none⟩ = some (.int .i64 (kidsAt p k)[j])) := hide (fun j hj => (World.cell?_setCell_far _ _ _ _ (show w.heap.size ≠ g by omega)).trans (HC4.out j hj))
  have HDL := hide hdl
  clear hf3 HC4 hqn hdl
  go_upto_region 9 with fail
  obtain ⟨w3, hw3⟩ : ∃ w3, w3 = (w2.setCell ⟨w.heap.size, 4, none⟩ (.slice (some ⟨b, 0, none⟩) q cf)) := ⟨_, rfl⟩
  rw [← hw3] at HX3 HY3 HFb3 HV3 HB3 HF3 hB3 HS3 HK3 HC5 ⊢
  have hz3 : lo ≤ w3.heap.size := Nat.le_trans hlo hB3.size
  have hfl3 := HFb3.out.lt
  clear hw3 cx fx cf2 HX2 HY2 HFb2 HF2 HV2 HB2 HS2 HKd hB2
  obtain ⟨vb, vo, hav, hvb, u0', u1', u2', u3'⟩ := VlRow.tok (RRow.ofOwn HV3.out rfl) (Below.refl _ _) hjl
  subst hav
  obtain ⟨vb', vo', hav', hvb', i0', i1', i2', i3'⟩ := VlRow.tok (RRow.ofOwn HV3.out rfl) (Below.refl _ _) hil
  simp only [Option.some.injEq, Addr.mk.injEq, and_true] at hav'
  obtain ⟨rfl, rfl⟩ := hav'
  have e1 : vlAt (⟨true, -1, -1, (i : Int), fs, vs, bs⟩ : Mc) (j : Int) = vs[j] := by unfold vlAt; rw [List.getD_eq_getElem?_getD]; simp [hjl]
  have e2' : vlAt (⟨true, -1, -1, (i : Int), fs, vs, bs⟩ : Mc) (i : Int) = vs[i] := by unfold vlAt; rw [List.getD_eq_getElem?_getD]; simp [hil]
  have hvo1 : vOk a l bs j vs[j] = true := HG.out.vs j hjl
  have hvo2 : vOk a l bs i vs[i] = true := HG.out.vs i hil
  have hGE : GO = if vs[j].fn = true ∨ vs[i].fn = true ∨ inB (vs[j].num + vs[i].num) (-1000000) 1000000 = false then .inr 3 else newM (⟨true, -1, -1, (i : Int), fs.dropLast, vs, bs⟩ : Mc) ⟨false, vs[j].num + vs[i].num, 0, 0⟩ := by
    rw [HGO.out]; unfold goM; rw [if_neg (show ¬ (_ : Int) = 6 by simp), if_neg (show ¬ (_ : Int) = 7 by simp), if_neg (show ¬ (_ : Int) = -1 from hne1), if_neg (show ¬ (_ : Int) = 4 by simp)]
    simp only [e1, e2']
  have nb : ∀ (q : Nat) (v : Vl), vOk a l bs q v = true → -1000000 ≤ v.num ∧ v.num ≤ 1000000 := fun q v hv => by
    cases hvf : v.fn with
    | true => have := (vOk_fn hv hvf).1; omega
    | false => have := vOk_num hv hvf; omega
  have n1 := nb _ _ hvo1
  have n2 := nb _ _ hvo2
  obtain ⟨y, hy⟩ : ∃ y, y = vs[j] := ⟨_, rfl⟩
  obtain ⟨y', hy'⟩ : ∃ y', y' = vs[i] := ⟨_, rfl⟩
  rw [← hy] at hGE u0' u1' u2' u3' n1
  rw [← hy'] at hGE i0' i1' i2' i3' n2
  obtain ⟨ya0, ya1, ya2, ya3⟩ := y
  obtain ⟨yb0, yb1, yb2, yb3⟩ := y'
  simp only at hGE u0' u1' u2' u3' i0' i1' i2' i3' n1 n2
  have hsum : IntKind.i64.wrap (ya1 + yb1) = ya1 + yb1 := IntWalk.i64_in _ ⟨by omega, by omega⟩
  have hjv : (j : Int) < (vs.length : Int) := by omega
  have hj0 : (0 : Int) ≤ (j : Int) := by omega
  have hiv : (i : Int) < (vs.length : Int) := by omega
  have hi0 : (0 : Int) ≤ (i : Int) := by omega
  have HGE := hide hGE
  clear hy hy' HGO hGE e1 e2' nb hvo1 hvo2
  have cx3 := HX3.out.c
  have cf3 := HFb3.out.c
  go_upto_region 26 with fail
  clear cx3 cf3 u0' u1' u2' u3'
  have hba : Below w3.heap.size w3 (w3.alloc (.cells #[.bool ya0, .int .i64 ya1, .int .i64 ya2, .int .i64 ya3] 69)) := (Below.refl _ _).alloc (Nat.le_refl _) _
  have HGga := hide (Bx.new w3 #[.bool ya0, .int .i64 ya1, .int .i64 ya2, .int .i64 ya3] 69)
  have HX4 := hide (HX3.out.alloc (.cells #[.bool ya0, .int .i64 ya1, .int .i64 ya2, .int .i64 ya3] 69))
  have HY4 := hide (HY3.out.alloc (.cells #[.bool ya0, .int .i64 ya1, .int .i64 ya2, .int .i64 ya3] 69))
  have HFb4 := hide (HFb3.out.alloc (.cells #[.bool ya0, .int .i64 ya1, .int .i64 ya2, .int .i64 ya3] 69))
  have HV4 := hide (own_keep HV3.out (fun k _ hk => hba.block k hk))
  have HB4 := hide (own_keep HB3.out (fun k _ hk => hba.block k hk))
  have HF4 := hide (own_keep HF3.out (fun k _ hk => hba.block k hk))
  have hB4 : Below lo w (w3.alloc (.cells #[.bool ya0, .int .i64 ya1, .int .i64 ya2, .int .i64 ya3] 69)) := hB3.trans (hba.mono hz3)
  have HK4 : Hid (∀ (b' : Nat) (cs : Array Value) (T : TypeId), Bx w b' cs T → Bx (w3.alloc (.cells #[.bool ya0, .int .i64 ya1, .int .i64 ya2, .int .i64 ya3] 69)) b' cs T) := hide (fun bb cs TT hbx => (HK3.out bb cs TT hbx).alloc _)
  have hglga : w3.heap.size < (w3.alloc (.cells #[.bool ya0, .int .i64 ya1, .int .i64 ya2, .int .i64 ya3] 69)).heap.size := HGga.out.lt
  have HBAga := hide hba
  obtain ⟨w4, hw4⟩ : ∃ w4, w4 = (w3.alloc (.cells #[.bool ya0, .int .i64 ya1, .int .i64 ya2, .int .i64 ya3] 69)) := ⟨_, rfl⟩
  rw [← hw4] at HGga HX4 HY4 HFb4 HV4 HB4 HF4 hB4 HK4 hglga HBAga ⊢
  have hz4 : lo ≤ w4.heap.size := Nat.le_trans hlo hB4.size
  clear hw4 hba HX3 HY3 HFb3 HV3 HB3 HF3 hB3 HK3
  obtain ⟨ga, hgbe⟩ : ∃ ga, ga = w3.heap.size := ⟨_, rfl⟩
  have HGEga := hide hgbe
  rw [← hgbe] at HGga hglga ⊢
  clear hgbe
  have i0' := (HBAga.out.cell (p := ⟨vb, vo + i * 4, none⟩) hvb).trans i0'
  have i1' := (HBAga.out.cell (p := ⟨vb, vo + i * 4 + 1, none⟩) hvb).trans i1'
  have i2' := (HBAga.out.cell (p := ⟨vb, vo + i * 4 + 2, none⟩) hvb).trans i2'
  have i3' := (HBAga.out.cell (p := ⟨vb, vo + i * 4 + 3, none⟩) hvb).trans i3'
  have cx4 := HX4.out.c
  go_upto_region 27 with fail
  clear cx4 i0' i1' i2' i3'
  have hba : Below w4.heap.size w4 (w4.alloc (.cells #[.bool yb0, .int .i64 yb1, .int .i64 yb2, .int .i64 yb3] 69)) := (Below.refl _ _).alloc (Nat.le_refl _) _
  have HGgb := hide (Bx.new w4 #[.bool yb0, .int .i64 yb1, .int .i64 yb2, .int .i64 yb3] 69)
  have HX5 := hide (HX4.out.alloc (.cells #[.bool yb0, .int .i64 yb1, .int .i64 yb2, .int .i64 yb3] 69))
  have HY5 := hide (HY4.out.alloc (.cells #[.bool yb0, .int .i64 yb1, .int .i64 yb2, .int .i64 yb3] 69))
  have HFb5 := hide (HFb4.out.alloc (.cells #[.bool yb0, .int .i64 yb1, .int .i64 yb2, .int .i64 yb3] 69))
  have HV5 := hide (own_keep HV4.out (fun k _ hk => hba.block k hk))
  have HB5 := hide (own_keep HB4.out (fun k _ hk => hba.block k hk))
  have HF5 := hide (own_keep HF4.out (fun k _ hk => hba.block k hk))
  have hB5 : Below lo w (w4.alloc (.cells #[.bool yb0, .int .i64 yb1, .int .i64 yb2, .int .i64 yb3] 69)) := hB4.trans (hba.mono hz4)
  have HK5 : Hid (∀ (b' : Nat) (cs : Array Value) (T : TypeId), Bx w b' cs T → Bx (w4.alloc (.cells #[.bool yb0, .int .i64 yb1, .int .i64 yb2, .int .i64 yb3] 69)) b' cs T) := hide (fun bb cs TT hbx => (HK4.out bb cs TT hbx).alloc _)
  have hglgb : w4.heap.size < (w4.alloc (.cells #[.bool yb0, .int .i64 yb1, .int .i64 yb2, .int .i64 yb3] 69)).heap.size := HGgb.out.lt
  have HBAgb := hide hba
  obtain ⟨w5, hw5⟩ : ∃ w5, w5 = (w4.alloc (.cells #[.bool yb0, .int .i64 yb1, .int .i64 yb2, .int .i64 yb3] 69)) := ⟨_, rfl⟩
  rw [← hw5] at HGgb HX5 HY5 HFb5 HV5 HB5 HF5 hB5 HK5 hglgb HBAgb ⊢
  have hz5 : lo ≤ w5.heap.size := Nat.le_trans hlo hB5.size
  clear hw5 hba HX4 HY4 HFb4 HV4 HB4 HF4 hB4 HK4
  obtain ⟨gb, hgbe⟩ : ∃ gb, gb = w4.heap.size := ⟨_, rfl⟩
  have HGEgb := hide hgbe
  rw [← hgbe] at HGgb hglgb ⊢
  clear hgbe
  have HGa5 := hide (HGga.out.below HBAgb.out hglga)
  have cga := HGa5.out.c
  have cgb := HGgb.out.c
  cases ya0 with
  | true =>
    have cx3 := HX5.out.c
    have fx3 := HX5.out.f
    have cy3 := HY5.out.c
    have fy3 := HY5.out.f
    go_upto_region 28 with fail
    go_wp2_with fail
    have hgo : GO = .inr 3 := by rw [HGE.out]; rfl
    refine bodyPost_ret (v := .tuple #[.agg #[.bool true, .int .i64 (-1), .int .i64 (-1), .int .i64 (i : Int), .slice (some ⟨b, 0, none⟩) q cf, .slice (some ⟨vb, vo, none⟩) vs.length cv, .slice ab bs.length cb], .bool false, .bool true]) (by simp [results, Tryz.results104, go_sem, cy3]) rfl (GoP.mk _ ⟨true, -1, -1, (i : Int), fs.dropLast, vs, bs⟩ (by rw [hgo]; rfl) ?_ (fun m1 hm1 => by rw [hgo] at hm1; cases hm1) ?_ (fun bb cs TT t1 t2 t3 hbx => ((((((((HK5.out bb cs TT hbx).setne (w.heap.size + 1) 0 _ (by have := hbx.lt; omega)).setne (w.heap.size + 1) 1 _ (by have := hbx.lt; omega)).setne (w.heap.size + 1) 2 _ (by have := hbx.lt; omega)).setne (w.heap.size + 1) 3 _ (by have := hbx.lt; omega)).setne (w.heap.size + 1) 4 _ (by have := hbx.lt; omega)).setne (w.heap.size + 1) 5 _ (by have := hbx.lt; omega)).setne (w.heap.size + 1) 6 _ (by have := hbx.lt; omega))))
    · have q0 : Kp w5 (w.heap.size + 1) lo (.slice (some ⟨b, 0, none⟩) fs.dropLast.length cf) (.slice (some ⟨vb, vo, none⟩) vs.length cv) (.slice ab bs.length cb) fs.dropLast vs bs := ⟨⟨_, HY5.out⟩, by rw [HDL.out]; have := HF5.out; rw [HDL.out] at this; exact this, HV5.out, HB5.out⟩
      have := (((((((q0.set 0 (.bool true)).set 1 (.int .i64 (-1))).set 2 (.int .i64 (-1))).set 3 (.int .i64 (i : Int))).set 4 (.slice (some ⟨b, 0, none⟩) q cf)).set 5 (.slice (some ⟨vb, vo, none⟩) vs.length cv)).set 6 (.slice ab bs.length cb)).sm true (-1) (-1) (i : Int)
      rw [HDL.out] at this
      exact this
    · exact bsc (bsc (bsc (bsc (bsc (bsc (bsc hB5 _ _ _ (by omega)) _ _ _ (by omega)) _ _ _ (by omega)) _ _ _ (by omega)) _ _ _ (by omega)) _ _ _ (by omega)) _ _ _ (by omega)
  | false =>
    cases yb0 with
    | true =>
      have cx3 := HX5.out.c
      have fx3 := HX5.out.f
      have cy3 := HY5.out.c
      have fy3 := HY5.out.f
      go_upto_region 28 with fail
      go_wp2_with fail
      have hgo : GO = .inr 3 := by rw [HGE.out]; rfl
      refine bodyPost_ret (v := .tuple #[.agg #[.bool true, .int .i64 (-1), .int .i64 (-1), .int .i64 (i : Int), .slice (some ⟨b, 0, none⟩) q cf, .slice (some ⟨vb, vo, none⟩) vs.length cv, .slice ab bs.length cb], .bool false, .bool true]) (by simp [results, Tryz.results104, go_sem, cy3]) rfl (GoP.mk _ ⟨true, -1, -1, (i : Int), fs.dropLast, vs, bs⟩ (by rw [hgo]; rfl) ?_ (fun m1 hm1 => by rw [hgo] at hm1; cases hm1) ?_ (fun bb cs TT t1 t2 t3 hbx => ((((((((HK5.out bb cs TT hbx).setne (w.heap.size + 1) 0 _ (by have := hbx.lt; omega)).setne (w.heap.size + 1) 1 _ (by have := hbx.lt; omega)).setne (w.heap.size + 1) 2 _ (by have := hbx.lt; omega)).setne (w.heap.size + 1) 3 _ (by have := hbx.lt; omega)).setne (w.heap.size + 1) 4 _ (by have := hbx.lt; omega)).setne (w.heap.size + 1) 5 _ (by have := hbx.lt; omega)).setne (w.heap.size + 1) 6 _ (by have := hbx.lt; omega))))
      · have q0 : Kp w5 (w.heap.size + 1) lo (.slice (some ⟨b, 0, none⟩) fs.dropLast.length cf) (.slice (some ⟨vb, vo, none⟩) vs.length cv) (.slice ab bs.length cb) fs.dropLast vs bs := ⟨⟨_, HY5.out⟩, by rw [HDL.out]; have := HF5.out; rw [HDL.out] at this; exact this, HV5.out, HB5.out⟩
        have := (((((((q0.set 0 (.bool true)).set 1 (.int .i64 (-1))).set 2 (.int .i64 (-1))).set 3 (.int .i64 (i : Int))).set 4 (.slice (some ⟨b, 0, none⟩) q cf)).set 5 (.slice (some ⟨vb, vo, none⟩) vs.length cv)).set 6 (.slice ab bs.length cb)).sm true (-1) (-1) (i : Int)
        rw [HDL.out] at this
        exact this
      · exact bsc (bsc (bsc (bsc (bsc (bsc (bsc hB5 _ _ _ (by omega)) _ _ _ (by omega)) _ _ _ (by omega)) _ _ _ (by omega)) _ _ _ (by omega)) _ _ _ (by omega)) _ _ _ (by omega)
    | false =>
      by_cases hIn : inB (ya1 + yb1) (-1000000) 1000000 = false
      · have HIn := hide hIn
        have cx3 := HX5.out.c
        have fx3 := HX5.out.f
        have cy3 := HY5.out.c
        have fy3 := HY5.out.f
        go_upto_region 28 with (go_at_call 42; refine (l1In_any _ _ _ _).mono ?_; rintro e w' ⟨rfl, hww⟩; have hw2 := hww.symm; clear hww; subst hw2)
        go_wp2_with fail
        have hgo : GO = .inr 3 := by rw [HGE.out]; simp [HIn.out]
        refine bodyPost_ret (v := .tuple #[.agg #[.bool true, .int .i64 (-1), .int .i64 (-1), .int .i64 (i : Int), .slice (some ⟨b, 0, none⟩) q cf, .slice (some ⟨vb, vo, none⟩) vs.length cv, .slice ab bs.length cb], .bool false, .bool true]) (by simp [results, Tryz.results104, go_sem, cy3]) rfl (GoP.mk _ ⟨true, -1, -1, (i : Int), fs.dropLast, vs, bs⟩ (by rw [hgo]; rfl) ?_ (fun m1 hm1 => by rw [hgo] at hm1; cases hm1) ?_ (fun bb cs TT t1 t2 t3 hbx => ((((((((HK5.out bb cs TT hbx).setne (w.heap.size + 1) 0 _ (by have := hbx.lt; omega)).setne (w.heap.size + 1) 1 _ (by have := hbx.lt; omega)).setne (w.heap.size + 1) 2 _ (by have := hbx.lt; omega)).setne (w.heap.size + 1) 3 _ (by have := hbx.lt; omega)).setne (w.heap.size + 1) 4 _ (by have := hbx.lt; omega)).setne (w.heap.size + 1) 5 _ (by have := hbx.lt; omega)).setne (w.heap.size + 1) 6 _ (by have := hbx.lt; omega))))
        · have q0 : Kp w5 (w.heap.size + 1) lo (.slice (some ⟨b, 0, none⟩) fs.dropLast.length cf) (.slice (some ⟨vb, vo, none⟩) vs.length cv) (.slice ab bs.length cb) fs.dropLast vs bs := ⟨⟨_, HY5.out⟩, by rw [HDL.out]; have := HF5.out; rw [HDL.out] at this; exact this, HV5.out, HB5.out⟩
          have := (((((((q0.set 0 (.bool true)).set 1 (.int .i64 (-1))).set 2 (.int .i64 (-1))).set 3 (.int .i64 (i : Int))).set 4 (.slice (some ⟨b, 0, none⟩) q cf)).set 5 (.slice (some ⟨vb, vo, none⟩) vs.length cv)).set 6 (.slice ab bs.length cb)).sm true (-1) (-1) (i : Int)
          rw [HDL.out] at this
          exact this
        · exact bsc (bsc (bsc (bsc (bsc (bsc (bsc hB5 _ _ _ (by omega)) _ _ _ (by omega)) _ _ _ (by omega)) _ _ _ (by omega)) _ _ _ (by omega)) _ _ _ (by omega)) _ _ _ (by omega)
      · have hIn2 : inB (ya1 + yb1) (-1000000) 1000000 = true := by simpa using hIn
        have HIn := hide hIn2
        clear hIn
        obtain ⟨BN, hBN⟩ : ∃ BN, BN = newM (⟨true, -1, -1, (i : Int), fs.dropLast, vs, bs⟩ : Mc) ⟨false, ya1 + yb1, 0, 0⟩ := ⟨_, rfl⟩
        obtain ⟨M9, hM9⟩ : ∃ M9, M9 = mcOf' (⟨true, -1, -1, (i : Int), fs.dropLast, vs, bs⟩ : Mc) BN := ⟨_, rfl⟩
        have hsm0 := (Kp.sm (w := w5) (b := w.heap.size + 1) (lo := lo) (af := some ⟨b, 0, none⟩) (cf := cf) (av := (some ⟨vb, vo, none⟩)) (cv := cv) (ab := ab) (cb := cb) (fs := fs.dropLast) (vs := vs) (bs := bs) ⟨⟨_, HY5.out⟩, (by rw [HDL.out]; have := HF5.out; rw [HDL.out] at this; exact this), HV5.out, HB5.out⟩) true (-1) (-1) (i : Int)
        rw [HDL.out] at hsm0
        have HBi : Hid (∀ w', Below w5.heap.size w5 w' → Calls Tryz.prog 108 #[.agg #[.bool true, .int .i64 (-1), .int .i64 (-1), .int .i64 (i : Int), .slice (some ⟨b, 0, none⟩) q cf, .slice (some ⟨vb, vo, none⟩) vs.length cv, .slice ab bs.length cb], .agg #[.bool false, .int .i64 (ya1 + yb1), .int .i64 0, .int .i64 0]] w' fun r w9 => ∃ v9, r = .returned (.tuple #[v9, .bool (isL BN)]) ∧ SM w9 lo v9 M9 ∧ Below lo w' w9 ∧ ∀ (b : Nat) (cs : Array Value) (T : TypeId), T ≠ 69 → Bx w' b cs T → Bx w9 b cs T) := hide (fun w' hb => by rw [hM9, hBN]; exact l6New_any lo _ _ ⟨false, ya1 + yb1, 0, 0⟩ w' (hsm0.below hb) (by simpa using hnv) (Nat.le_trans hz5 hb.size))
        have HMI : Hid (∀ m1, BN = .inl m1 → M9 = m1) := hide (fun m1 h1 => by rw [hM9, h1]; rfl)
        have HBN := hide hBN
        obtain ⟨d9, p9, e9, x9, fs9, vs9, bs9⟩ := M9
        obtain ⟨LB, hLB⟩ : ∃ LB, LB = isL BN := ⟨_, rfl⟩
        rw [← hLB] at HBi
        have HLB := hide hLB
        clear hM9 hBN hLB hsm0
        have HCan : Hid (canOf GO = true ∧ roomOf GO = LB ∧ ∀ m1, GO = .inl m1 → (⟨d9, p9, e9, x9, fs9, vs9, bs9⟩ : Mc) = m1) := hide (by
          have e : GO = BN := by rw [HGE.out, HBN.out]; simp [HIn.out]
          rw [e, HLB.out]
          refine ⟨?_, ?_, HMI.out⟩
          · rw [HBN.out]; exact (newM_can _ _).1
          · rw [HBN.out]; exact (newM_can _ _).2)
        have cx5 := HX5.out.c
        go_upto_region 29 with (go_at_call 42; refine (l1In_any _ _ _ _).mono ?_; rintro e w' ⟨rfl, hww⟩; have hw2 := hww.symm; clear hww; subst hw2)
        go_wp2_with fail
        refine (HBi.out _ (Below.refl _ _)).mono ?_
        rintro r w9 ⟨v9, rfl, hsm9, hb9, hk9⟩
        obtain ⟨af9, cf9, av9, cv9, ab9, cb9, rfl, o1, o2, o3⟩ := hsm9
        have HY9 := hide (hk9 _ _ _ (by decide) HY5.out)
        have HO1 := hide o1
        have HO2 := hide o2
        have HO3 := hide o3
        have HB9 : Hid (Below lo w5 w9) := hide hb9
        have HK9 : Hid (∀ (b : Nat) (cs : Array Value) (T : TypeId), T ≠ 141 → T ≠ 69 → T ≠ 162 → Bx w5 b cs T → Bx w9 b cs T) := hide (fun bb cs TT t1 t2 t3 hbx => hk9 bb cs TT (by assumption) hbx)
        clear o1 o2 o3 hb9 hk9 cx5 cga cgb
        go_upto_region 30 with fail
        · have HX10 : Hid (Bx (w9.alloc (.cells #[.bool d9, .int .i64 p9, .int .i64 e9, .int .i64 x9, .slice af9 fs9.length cf9, .slice av9 vs9.length cv9, .slice ab9 bs9.length cb9] 61)) w9.heap.size #[.bool d9, .int .i64 p9, .int .i64 e9, .int .i64 x9, .slice af9 fs9.length cf9, .slice av9 vs9.length cv9, .slice ab9 bs9.length cb9] 61) := hide (Bx.new w9 _ _)
          have HY10 : Hid (Bx (w9.alloc (.cells #[.bool d9, .int .i64 p9, .int .i64 e9, .int .i64 x9, .slice af9 fs9.length cf9, .slice av9 vs9.length cv9, .slice ab9 bs9.length cb9] 61)) (w.heap.size + 1) #[.bool false, .int .i64 0, .int .i64 0, .int .i64 0, .slice none 0 0, .slice none 0 0, .slice none 0 0] 61) := hide (HY9.out.alloc _)
          have HQ10 : Hid (Kp (w9.alloc (.cells #[.bool d9, .int .i64 p9, .int .i64 e9, .int .i64 x9, .slice af9 fs9.length cf9, .slice av9 vs9.length cv9, .slice ab9 bs9.length cb9] 61)) (w.heap.size + 1) lo (.slice af9 fs9.length cf9) (.slice av9 vs9.length cv9) (.slice ab9 bs9.length cb9) fs9 vs9 bs9) := hide (⟨⟨_, HY9.out.alloc _⟩, own_keep HO1.out (fun k _ hk => ((Below.refl w9.heap.size w9).alloc (Nat.le_refl _) (.cells #[.bool d9, .int .i64 p9, .int .i64 e9, .int .i64 x9, .slice af9 fs9.length cf9, .slice av9 vs9.length cv9, .slice ab9 bs9.length cb9] 61)).block k hk), own_keep HO2.out (fun k _ hk => ((Below.refl w9.heap.size w9).alloc (Nat.le_refl _) (.cells #[.bool d9, .int .i64 p9, .int .i64 e9, .int .i64 x9, .slice af9 fs9.length cf9, .slice av9 vs9.length cv9, .slice ab9 bs9.length cb9] 61)).block k hk), own_keep HO3.out (fun k _ hk => ((Below.refl w9.heap.size w9).alloc (Nat.le_refl _) (.cells #[.bool d9, .int .i64 p9, .int .i64 e9, .int .i64 x9, .slice af9 fs9.length cf9, .slice av9 vs9.length cv9, .slice ab9 bs9.length cb9] 61)).block k hk)⟩)
          have hB10 : Below lo w (w9.alloc (.cells #[.bool d9, .int .i64 p9, .int .i64 e9, .int .i64 x9, .slice af9 fs9.length cf9, .slice av9 vs9.length cv9, .slice ab9 bs9.length cb9] 61)) := (hB5.trans HB9.out).alloc (Nat.le_trans hz5 HB9.out.size) _
          have HK10 : Hid (∀ (b : Nat) (cs : Array Value) (T : TypeId), T ≠ 141 → T ≠ 69 → T ≠ 162 → Bx w b cs T → Bx (w9.alloc (.cells #[.bool d9, .int .i64 p9, .int .i64 e9, .int .i64 x9, .slice af9 fs9.length cf9, .slice av9 vs9.length cv9, .slice ab9 bs9.length cb9] 61)) b cs T) := hide (fun bb cs TT t1 t2 t3 hbx => (HK9.out bb cs TT t1 t2 t3 (HK5.out bb cs TT hbx)).alloc _)
          obtain ⟨w10, hw10⟩ : ∃ w10, w10 = (w9.alloc (.cells #[.bool d9, .int .i64 p9, .int .i64 e9, .int .i64 x9, .slice af9 fs9.length cf9, .slice av9 vs9.length cv9, .slice ab9 bs9.length cb9] 61)) := ⟨_, rfl⟩
          rw [← hw10] at HX10 HY10 HQ10 hB10 HK10 ⊢
          clear hw10
          have cx10 := HX10.out.c
          have cy10 := HY10.out.c
          have fy10 := HY10.out.f
          go_wp2_with fail
          refine bodyPost_ret (v := .tuple #[.agg #[.bool d9, .int .i64 p9, .int .i64 e9, .int .i64 x9, .slice af9 fs9.length cf9, .slice av9 vs9.length cv9, .slice ab9 bs9.length cb9], .bool true, .bool LB]) (by simp [results, Tryz.results104, go_sem, cy10]) rfl (GoP.mk _ ⟨d9, p9, e9, x9, fs9, vs9, bs9⟩ (by rw [HCan.out.1, HCan.out.2.1]) ?_ HCan.out.2.2 ?_ (fun bb cs TT t1 t2 t3 hbx => ((((((((HK10.out bb cs TT t1 t2 t3 hbx).setne (w.heap.size + 1) 0 _ (by have := hbx.lt; omega)).setne (w.heap.size + 1) 1 _ (by have := hbx.lt; omega)).setne (w.heap.size + 1) 2 _ (by have := hbx.lt; omega)).setne (w.heap.size + 1) 3 _ (by have := hbx.lt; omega)).setne (w.heap.size + 1) 4 _ (by have := hbx.lt; omega)).setne (w.heap.size + 1) 5 _ (by have := hbx.lt; omega)).setne (w.heap.size + 1) 6 _ (by have := hbx.lt; omega))))
          · exact ((((((((HQ10.out.set 0 (.bool d9)).set 1 (.int .i64 p9)).set 2 (.int .i64 e9)).set 3 (.int .i64 x9)).set 4 (.slice af9 fs9.length cf9)).set 5 (.slice av9 vs9.length cv9)).set 6 (.slice ab9 bs9.length cb9))).sm d9 p9 e9 x9
          · exact bsc (bsc (bsc (bsc (bsc (bsc (bsc hB10 _ _ _ (by omega)) _ _ _ (by omega)) _ _ _ (by omega)) _ _ _ (by omega)) _ _ _ (by omega)) _ _ _ (by omega)) _ _ _ (by omega)

end Go.Proofs.YtnmkbpflbfhpnaaGreat.W

/-
  l6Do and l6Go at any good machine of a closed term: the cases joined.
-/
namespace Go.Proofs.YtnmkbpflbfhpnaaGreat.W
open Go.ChangeShapes Go.WideShapes Go.ChangeAt Go.RowKit
set_option linter.unusedVariables false
set_option linter.unusedSimpArgs false

theorem l6Go_any (lo cb0 : Nat) (ad : Option Addr) (c : Nat) (l : List Cc) (a : F) (v : Value) (m : Mc) (f : Fm) (w : World) (hCl : Cl l a) (h : SM w lo v m) (hS : SR w lo cb0 ad c l a) (hG : GM a l m) (hd : m.done = true) (hf : m.fs.getLast? = some f) :
    Calls Tryz.prog 104 #[.pointer (some ⟨cb0, 0, none⟩), v] w (GoP lo w (goM a l m f)) := by
  obtain ⟨p1, p2, p3, p4⟩ := fOk_parts (hG.fs f (List.mem_of_getLast? hf))
  rcases p4 with h1 | ⟨h45, h0, h2⟩
  · rcases p3 with h3 | h3 | h3 | h3
    · exact l6Go_first4 lo cb0 ad c l a v m f w hCl h hS hG hd hf h3 h1
    · exact l6Go_first5 lo cb0 ad c l a v m f w hCl h hS hG hd hf h3 h1
    · exact l6Go_if lo cb0 ad c l a v m f w hCl h hS hG hd hf h3 h1
    · exact l6Go_let lo cb0 ad c l a v m f w hCl h hS hG hd hf h3 h1
  · obtain ⟨j, hj⟩ := Int.eq_ofNat_of_zero_le h0
    rcases h45 with h3 | h3
    · exact l6Go_app lo cb0 ad c l a v m f w hCl h hS hG hd hf h3 j hj (by omega)
    · exact l6Go_add lo cb0 ad c l a v m f w hCl h hS hG hd hf h3 j hj (by omega)

/-- What l6Do answers. -/
def DoP (lo : Nat) (w : World) (m : Mc) (R : Mc ⊕ Int) (r : Ending) (w' : World) : Prop := ∃ v', r = .returned (.tuple #[v', .bool (isL R)]) ∧ SM w' lo v' (mcOf' m R) ∧ Below lo w w' ∧ ∀ (b : Nat) (cs : Array Value) (T : TypeId), T ≠ 141 → T ≠ 69 → T ≠ 162 → Bx w b cs T → Bx w' b cs T

theorem l6Do_any (lo cb0 : Nat) (ad : Option Addr) (c : Nat) (l : List Cc) (a : F) (v : Value) (m : Mc) (w : World) (hCl : Cl l a) (h : SM w lo v m) (hS : SR w lo cb0 ad c l a) (hG : GM a l m) (hd : m.done = false) :
    Calls Tryz.prog 103 #[.pointer (some ⟨cb0, 0, none⟩), v] w (DoP lo w m (doM a l m)) := by
  obtain ⟨d1, d2⟩ := nOk_not hG.now hd
  obtain ⟨q1, q2, q3⟩ := pOk_iff.1 d2
  obtain ⟨x, e, k, x1, x2, x3, x4, x5, x6, x7⟩ := hCl.part q1
  unfold doM
  rw [x2]
  simp only
  by_cases k1 : x.k = 1
  · have hh := l6Do_var lo cb0 ad c l a v m w hCl h hS hG hd x x2 (hide k1)
    simp only [k1]
    exact hh
  by_cases k2 : x.k = 2
  · have hh := l6Do_num lo cb0 ad c l a v m w hCl h hS hG hd x x2 (hide k2)
    simp only [k2]
    exact hh
  by_cases k3 : x.k = 3
  · have hh := l6Do_lam lo cb0 ad c l a v m w hCl h hS hG hd x x2 (hide k3)
    simp only [k3]
    exact hh
  rw [if_neg k1, if_neg k2, if_neg k3]
  by_cases hn : 500 ≤ m.fs.length
  · rw [if_pos hn]
    exact l6Do_full lo cb0 ad c l a v m w hCl h hS hG hd x x2 (hide ⟨k1, k2, k3⟩) (hide hn)
  · rw [if_neg hn]
    exact l6Do_push lo cb0 ad c l a v m w hCl h hS hG hd x x2 (hide ⟨k1, k2, k3⟩) (hide hn)
end Go.Proofs.YtnmkbpflbfhpnaaGreat.W

/-
  The contract of l6Step. Conditions: good machines of closed terms.
-/
namespace Go.Proofs.YtnmkbpflbfhpnaaGreat.W
open Go.ChangeShapes Go.WideShapes Go.ChangeAt Go.RowKit
set_option linter.unusedVariables false
set_option linter.unusedSimpArgs false

theorem do_can {a : F} {l : List Cc} {m : Mc} (hCl : Cl l a) (hG : GM a l m) (hd : m.done = false) : canOf (doM a l m) = true ∧ roomOf (doM a l m) = isL (doM a l m) := by
  obtain ⟨d1, d2⟩ := nOk_not hG.now hd
  obtain ⟨q1, q2, q3⟩ := pOk_iff.1 d2
  obtain ⟨x, e, k, x1, x2, x3, x4, x5, x6, x7⟩ := hCl.part q1
  unfold doM
  rw [x2]
  simp only
  split
  · simp [canOf, roomOf, isL]
  split
  · exact newM_can _ _
  split
  · exact newM_can _ _
  split <;> simp [canOf, roomOf, isL]

set_option maxRecDepth 20000 in
set_option maxHeartbeats 4000000 in
theorem l6Step_do (lo cb0 : Nat) (ad : Option Addr) (c : Nat) (l : List Cc) (a : F) (v : Value) (m : Mc) (w : World) (hCl : Cl l a) (h : SM w lo v m) (hS : SR w lo cb0 ad c l a) (hG : GM a l m) (hd : m.done = false)  :
    Calls Tryz.prog 72 #[.pointer (some ⟨cb0, 0, none⟩), v] w (GoP lo w (stepM a l m)) := by
  have hlo := hS.le
  have hD := do_can hCl hG hd
  obtain ⟨BN, hBN⟩ : ∃ BN, BN = doM a l m := ⟨_, rfl⟩
  have hst : stepM a l m = BN := by rw [hBN]; unfold stepM; rw [hd]; simp
  rw [hst]
  rw [← hBN] at hD
  obtain ⟨M9, hM9⟩ : ∃ M9, M9 = mcOf' m BN := ⟨_, rfl⟩
  have HMI : Hid (∀ m1, BN = .inl m1 → M9 = m1) := hide (fun m1 h1 => by rw [hM9, h1]; rfl)
  have HBN := hide hBN
  have HM9 := hide hM9
  have HD := hide hD
  clear hst hBN hM9 hD
  obtain ⟨af, cf, av, cv, ab, cb, rfl, h1, h2, h3⟩ := h
  obtain ⟨dn, pl, ev, vl, fs, vs, bs⟩ := m
  simp only at hd h1 h2 h3
  subst hd
  have HX0 := hide ((Bx.new w #[.bool false, .int .i64 pl, .int .i64 ev, .int .i64 vl, .slice af fs.length cf, .slice av vs.length cv, .slice ab bs.length cb] 61).alloc (.cells #[.bool false, .int .i64 0, .int .i64 0, .int .i64 0, .slice none 0 0, .slice none 0 0, .slice none 0 0] 61))
  have hY := Bx.new (w.alloc (.cells #[.bool false, .int .i64 pl, .int .i64 ev, .int .i64 vl, .slice af fs.length cf, .slice av vs.length cv, .slice ab bs.length cb] 61)) #[.bool false, .int .i64 0, .int .i64 0, .int .i64 0, .slice none 0 0, .slice none 0 0, .slice none 0 0] 61
  simp only [World.size_alloc] at hY
  have HY0 := hide hY
  have hB0 : Below w.heap.size w ((w.alloc (.cells #[.bool false, .int .i64 pl, .int .i64 ev, .int .i64 vl, .slice af fs.length cf, .slice av vs.length cv, .slice ab bs.length cb] 61)).alloc (.cells #[.bool false, .int .i64 0, .int .i64 0, .int .i64 0, .slice none 0 0, .slice none 0 0, .slice none 0 0] 61)) := ((Below.refl _ _).alloc (Nat.le_refl _) _).alloc (by simp) _
  have HS0 := hide (hS.below (hB0.mono hlo))
  have HK0 : Hid (∀ (b : Nat) (cs : Array Value) (T : TypeId), Bx w b cs T → Bx ((w.alloc (.cells #[.bool false, .int .i64 pl, .int .i64 ev, .int .i64 vl, .slice af fs.length cf, .slice av vs.length cv, .slice ab bs.length cb] 61)).alloc (.cells #[.bool false, .int .i64 0, .int .i64 0, .int .i64 0, .slice none 0 0, .slice none 0 0, .slice none 0 0] 61)) b cs T) := hide (fun bb cs TT hbx => hbx.below hB0 hbx.lt)
  have HSM0 : Hid (SM ((w.alloc (.cells #[.bool false, .int .i64 pl, .int .i64 ev, .int .i64 vl, .slice af fs.length cf, .slice av vs.length cv, .slice ab bs.length cb] 61)).alloc (.cells #[.bool false, .int .i64 0, .int .i64 0, .int .i64 0, .slice none 0 0, .slice none 0 0, .slice none 0 0] 61)) lo (.agg #[.bool false, .int .i64 pl, .int .i64 ev, .int .i64 vl, .slice af fs.length cf, .slice av vs.length cv, .slice ab bs.length cb]) (⟨false, pl, ev, vl, fs, vs, bs⟩ : Mc)) := hide (SM.below ⟨af, cf, av, cv, ab, cb, rfl, h1, h2, h3⟩ hB0)
  have HKp : Hid (Kp ((w.alloc (.cells #[.bool false, .int .i64 pl, .int .i64 ev, .int .i64 vl, .slice af fs.length cf, .slice av vs.length cv, .slice ab bs.length cb] 61)).alloc (.cells #[.bool false, .int .i64 0, .int .i64 0, .int .i64 0, .slice none 0 0, .slice none 0 0, .slice none 0 0] 61)) (w.heap.size + 1) lo (.slice af fs.length cf) (.slice av vs.length cv) (.slice ab bs.length cb) fs vs bs) := hide ⟨⟨_, hY⟩, own_keep h1 (fun k _ hk => hB0.block k hk), own_keep h2 (fun k _ hk => hB0.block k hk), own_keep h3 (fun k _ hk => hB0.block k hk)⟩
  have HCl := hide hCl
  have HG := hide hG
  have hB1 : Below lo w ((w.alloc (.cells #[.bool false, .int .i64 pl, .int .i64 ev, .int .i64 vl, .slice af fs.length cf, .slice av vs.length cv, .slice ab bs.length cb] 61)).alloc (.cells #[.bool false, .int .i64 0, .int .i64 0, .int .i64 0, .slice none 0 0, .slice none 0 0, .slice none 0 0] 61)) := hB0.mono hlo
  clear hY hCl hG hS h1 h2 h3
  go_enter Tryz.func72, Tryz.ntmps72
  go_upto_region 1 with fail
  obtain ⟨w0, hw0⟩ : ∃ w0, w0 = (w.alloc (.cells #[.bool false, .int .i64 pl, .int .i64 ev, .int .i64 vl, .slice af fs.length cf, .slice av vs.length cv, .slice ab bs.length cb] 61)).alloc (.cells #[.bool false, .int .i64 0, .int .i64 0, .int .i64 0, .slice none 0 0, .slice none 0 0, .slice none 0 0] 61) := ⟨_, rfl⟩
  rw [← hw0] at HX0 HY0 hB0 HS0 HK0 HSM0 HKp hB1 ⊢
  clear hw0
  have hz0 : lo ≤ w0.heap.size := Nat.le_trans hlo hB1.size
  have hyl := HY0.out.lt
  have cx := HX0.out.c
  have HDo : Hid (Calls Tryz.prog 103 #[.pointer (some ⟨cb0, 0, none⟩), .agg #[.bool false, .int .i64 pl, .int .i64 ev, .int .i64 vl, .slice af fs.length cf, .slice av vs.length cv, .slice ab bs.length cb]] w0 fun r w9 => ∃ v9, r = .returned (.tuple #[v9, .bool (isL BN)]) ∧ SM w9 lo v9 M9 ∧ Below lo w0 w9 ∧ ∀ (b : Nat) (cs : Array Value) (T : TypeId), T ≠ 141 → T ≠ 69 → T ≠ 162 → Bx w0 b cs T → Bx w9 b cs T) := hide (by
    have := l6Do_any lo cb0 ad c l a _ _ w0 HCl.out HSM0.out HS0.out HG.out rfl
    rw [← HBN.out] at this
    rw [HM9.out]
    exact this)
  obtain ⟨LB, hLB⟩ : ∃ LB, LB = isL BN := ⟨_, rfl⟩
  rw [← hLB] at HDo HD
  clear hLB HBN HM9
  obtain ⟨d9, p9, e9, x9, fs9, vs9, bs9⟩ := M9
  go_upto_region 2 with fail
  go_wp2_with fail
  refine HDo.out.mono ?_
  rintro r w9 ⟨v9, rfl, hsm9, hb9, hk9⟩
  obtain ⟨af9, cf9, av9, cv9, ab9, cb9, rfl, o1, o2, o3⟩ := hsm9
  have HY9 := hide (hk9 _ _ _ (by decide) (by decide) (by decide) HY0.out)
  have HO1 := hide o1
  have HO2 := hide o2
  have HO3 := hide o3
  have HB9 : Hid (Below lo w0 w9) := hide hb9
  have HK9 := hide hk9
  clear o1 o2 o3 hb9 hk9 cx
  go_upto_region 3 with fail
  have ba := ((Below.refl w9.heap.size w9).alloc (Nat.le_refl _) (.cells #[.bool d9, .int .i64 p9, .int .i64 e9, .int .i64 x9, .slice af9 fs9.length cf9, .slice av9 vs9.length cv9, .slice ab9 bs9.length cb9] 61))
  have HX10 := hide (Bx.new w9 #[.bool d9, .int .i64 p9, .int .i64 e9, .int .i64 x9, .slice af9 fs9.length cf9, .slice av9 vs9.length cv9, .slice ab9 bs9.length cb9] 61)
  have HY10 := hide (HY9.out.alloc (.cells #[.bool d9, .int .i64 p9, .int .i64 e9, .int .i64 x9, .slice af9 fs9.length cf9, .slice av9 vs9.length cv9, .slice ab9 bs9.length cb9] 61))
  have HQ10 : Hid (Kp (w9.alloc (.cells #[.bool d9, .int .i64 p9, .int .i64 e9, .int .i64 x9, .slice af9 fs9.length cf9, .slice av9 vs9.length cv9, .slice ab9 bs9.length cb9] 61)) (w.heap.size + 1) lo (.slice af9 fs9.length cf9) (.slice av9 vs9.length cv9) (.slice ab9 bs9.length cb9) fs9 vs9 bs9) := hide ⟨⟨_, HY10.out⟩, own_keep HO1.out (fun k _ hk => ba.block k hk), own_keep HO2.out (fun k _ hk => ba.block k hk), own_keep HO3.out (fun k _ hk => ba.block k hk)⟩
  have hB10 : Below lo w (w9.alloc (.cells #[.bool d9, .int .i64 p9, .int .i64 e9, .int .i64 x9, .slice af9 fs9.length cf9, .slice av9 vs9.length cv9, .slice ab9 bs9.length cb9] 61)) := (hB1.trans HB9.out).alloc (Nat.le_trans hz0 HB9.out.size) _
  have HK10 : Hid (∀ (b : Nat) (cs : Array Value) (T : TypeId), T ≠ 141 → T ≠ 69 → T ≠ 162 → Bx w b cs T → Bx (w9.alloc (.cells #[.bool d9, .int .i64 p9, .int .i64 e9, .int .i64 x9, .slice af9 fs9.length cf9, .slice av9 vs9.length cv9, .slice ab9 bs9.length cb9] 61)) b cs T) := hide (fun bb cs TT t1 t2 t3 hbx => (HK9.out bb cs TT t1 t2 t3 (HK0.out bb cs TT hbx)).alloc _)
  obtain ⟨w10, hw10⟩ : ∃ w10, w10 = w9.alloc (.cells #[.bool d9, .int .i64 p9, .int .i64 e9, .int .i64 x9, .slice af9 fs9.length cf9, .slice av9 vs9.length cv9, .slice ab9 bs9.length cb9] 61) := ⟨_, rfl⟩
  rw [← hw10] at HX10 HY10 HQ10 hB10 HK10 ⊢
  clear hw10 ba
  have cx10 := HX10.out.c
  have cy10 := HY10.out.c
  have fy10 := HY10.out.f
  go_wp2_with fail
  refine bodyPost_ret (v := .tuple #[.agg #[.bool d9, .int .i64 p9, .int .i64 e9, .int .i64 x9, .slice af9 fs9.length cf9, .slice av9 vs9.length cv9, .slice ab9 bs9.length cb9], .bool true, .bool LB]) (by simp [results, Tryz.results72, go_sem, cy10]) rfl (GoP.mk _ ⟨d9, p9, e9, x9, fs9, vs9, bs9⟩ (by rw [HD.out.1, HD.out.2]) ?_ HMI.out ?_ (fun bb cs TT t1 t2 t3 hbx => ((((((((HK10.out bb cs TT t1 t2 t3 hbx).setne (w.heap.size + 1) 0 _ (by have := hbx.lt; omega)).setne (w.heap.size + 1) 1 _ (by have := hbx.lt; omega)).setne (w.heap.size + 1) 2 _ (by have := hbx.lt; omega)).setne (w.heap.size + 1) 3 _ (by have := hbx.lt; omega)).setne (w.heap.size + 1) 4 _ (by have := hbx.lt; omega)).setne (w.heap.size + 1) 5 _ (by have := hbx.lt; omega)).setne (w.heap.size + 1) 6 _ (by have := hbx.lt; omega))))
  · exact ((((((((HQ10.out.set 0 (.bool d9)).set 1 (.int .i64 p9)).set 2 (.int .i64 e9)).set 3 (.int .i64 x9)).set 4 (.slice af9 fs9.length cf9)).set 5 (.slice av9 vs9.length cv9)).set 6 (.slice ab9 bs9.length cb9))).sm d9 p9 e9 x9
  · exact bsc (bsc (bsc (bsc (bsc (bsc (bsc hB10 _ _ _ (by omega)) _ _ _ (by omega)) _ _ _ (by omega)) _ _ _ (by omega)) _ _ _ (by omega)) _ _ _ (by omega)) _ _ _ (by omega)

set_option maxRecDepth 20000 in
set_option maxHeartbeats 4000000 in
theorem l6Step_no (lo cb0 : Nat) (ad : Option Addr) (c : Nat) (l : List Cc) (a : F) (v : Value) (m : Mc) (w : World) (hCl : Cl l a) (h : SM w lo v m) (hS : SR w lo cb0 ad c l a) (hG : GM a l m) (hd : m.done = true) (hf : m.fs.getLast? = none) :
    Calls Tryz.prog 72 #[.pointer (some ⟨cb0, 0, none⟩), v] w (GoP lo w (stepM a l m)) := by
  have hlo := hS.le
  obtain ⟨BN, hBN⟩ : ∃ BN, BN = stepM a l m := ⟨_, rfl⟩
  rw [← hBN]
  have HD : Hid (canOf BN = false ∧ roomOf BN = true ∧ ∀ m1, BN ≠ .inl m1) := hide (by
    rw [hBN]; unfold stepM; rw [if_pos hd]; simp only [hf]
    by_cases hq : (vlAt m m.val).fn = true <;> simp [hq, canOf, roomOf])
  have HN := hide hf
  clear hBN hf
  obtain ⟨af, cf, av, cv, ab, cb, rfl, h1, h2, h3⟩ := h
  obtain ⟨dn, pl, ev, vl, fs, vs, bs⟩ := m
  simp only at hd h1 h2 h3
  subst hd
  have HX0 := hide ((Bx.new w #[.bool true, .int .i64 pl, .int .i64 ev, .int .i64 vl, .slice af fs.length cf, .slice av vs.length cv, .slice ab bs.length cb] 61).alloc (.cells #[.bool false, .int .i64 0, .int .i64 0, .int .i64 0, .slice none 0 0, .slice none 0 0, .slice none 0 0] 61))
  have hY := Bx.new (w.alloc (.cells #[.bool true, .int .i64 pl, .int .i64 ev, .int .i64 vl, .slice af fs.length cf, .slice av vs.length cv, .slice ab bs.length cb] 61)) #[.bool false, .int .i64 0, .int .i64 0, .int .i64 0, .slice none 0 0, .slice none 0 0, .slice none 0 0] 61
  simp only [World.size_alloc] at hY
  have HY0 := hide hY
  have hB0 : Below w.heap.size w ((w.alloc (.cells #[.bool true, .int .i64 pl, .int .i64 ev, .int .i64 vl, .slice af fs.length cf, .slice av vs.length cv, .slice ab bs.length cb] 61)).alloc (.cells #[.bool false, .int .i64 0, .int .i64 0, .int .i64 0, .slice none 0 0, .slice none 0 0, .slice none 0 0] 61)) := ((Below.refl _ _).alloc (Nat.le_refl _) _).alloc (by simp) _
  have HS0 := hide (hS.below (hB0.mono hlo))
  have HK0 : Hid (∀ (b : Nat) (cs : Array Value) (T : TypeId), Bx w b cs T → Bx ((w.alloc (.cells #[.bool true, .int .i64 pl, .int .i64 ev, .int .i64 vl, .slice af fs.length cf, .slice av vs.length cv, .slice ab bs.length cb] 61)).alloc (.cells #[.bool false, .int .i64 0, .int .i64 0, .int .i64 0, .slice none 0 0, .slice none 0 0, .slice none 0 0] 61)) b cs T) := hide (fun bb cs TT hbx => hbx.below hB0 hbx.lt)
  have HSM0 : Hid (SM ((w.alloc (.cells #[.bool true, .int .i64 pl, .int .i64 ev, .int .i64 vl, .slice af fs.length cf, .slice av vs.length cv, .slice ab bs.length cb] 61)).alloc (.cells #[.bool false, .int .i64 0, .int .i64 0, .int .i64 0, .slice none 0 0, .slice none 0 0, .slice none 0 0] 61)) lo (.agg #[.bool true, .int .i64 pl, .int .i64 ev, .int .i64 vl, .slice af fs.length cf, .slice av vs.length cv, .slice ab bs.length cb]) (⟨true, pl, ev, vl, fs, vs, bs⟩ : Mc)) := hide (SM.below ⟨af, cf, av, cv, ab, cb, rfl, h1, h2, h3⟩ hB0)
  have HKp : Hid (Kp ((w.alloc (.cells #[.bool true, .int .i64 pl, .int .i64 ev, .int .i64 vl, .slice af fs.length cf, .slice av vs.length cv, .slice ab bs.length cb] 61)).alloc (.cells #[.bool false, .int .i64 0, .int .i64 0, .int .i64 0, .slice none 0 0, .slice none 0 0, .slice none 0 0] 61)) (w.heap.size + 1) lo (.slice af fs.length cf) (.slice av vs.length cv) (.slice ab bs.length cb) fs vs bs) := hide ⟨⟨_, hY⟩, own_keep h1 (fun k _ hk => hB0.block k hk), own_keep h2 (fun k _ hk => hB0.block k hk), own_keep h3 (fun k _ hk => hB0.block k hk)⟩
  have HCl := hide hCl
  have HG := hide hG
  have hB1 : Below lo w ((w.alloc (.cells #[.bool true, .int .i64 pl, .int .i64 ev, .int .i64 vl, .slice af fs.length cf, .slice av vs.length cv, .slice ab bs.length cb] 61)).alloc (.cells #[.bool false, .int .i64 0, .int .i64 0, .int .i64 0, .slice none 0 0, .slice none 0 0, .slice none 0 0] 61)) := hB0.mono hlo
  clear hY hCl hG hS h1 h2 h3
  go_enter Tryz.func72, Tryz.ntmps72
  go_upto_region 1 with fail
  obtain ⟨w0, hw0⟩ : ∃ w0, w0 = (w.alloc (.cells #[.bool true, .int .i64 pl, .int .i64 ev, .int .i64 vl, .slice af fs.length cf, .slice av vs.length cv, .slice ab bs.length cb] 61)).alloc (.cells #[.bool false, .int .i64 0, .int .i64 0, .int .i64 0, .slice none 0 0, .slice none 0 0, .slice none 0 0] 61) := ⟨_, rfl⟩
  rw [← hw0] at HX0 HY0 hB0 HS0 HK0 HSM0 HKp hB1 ⊢
  clear hw0
  have hz0 : lo ≤ w0.heap.size := Nat.le_trans hlo hB1.size
  have hyl := HY0.out.lt
  have cx := HX0.out.c
  have hn0 : fs = [] := by simpa using HN.out
  subst hn0
  simp only [List.length_nil] at cx
  have cy0 := HY0.out.c
  have fy0 := HY0.out.f
  go_upto_region 5 with fail
  go_wp2_with fail
  refine bodyPost_ret (v := .tuple #[.agg #[.bool true, .int .i64 pl, .int .i64 ev, .int .i64 vl, .slice af 0 cf, .slice av vs.length cv, .slice ab bs.length cb], .bool false, .bool true]) (by simp [results, Tryz.results72, go_sem, cy0]) rfl (GoP.mk _ ⟨true, pl, ev, vl, [], vs, bs⟩ (by rw [HD.out.1, HD.out.2.1]) ?_ (fun m1 hm1 => absurd hm1 (HD.out.2.2 m1)) ?_ (fun bb cs TT t1 t2 t3 hbx => ((((((((HK0.out bb cs TT hbx).setne (w.heap.size + 1) 0 _ (by have := hbx.lt; omega)).setne (w.heap.size + 1) 1 _ (by have := hbx.lt; omega)).setne (w.heap.size + 1) 2 _ (by have := hbx.lt; omega)).setne (w.heap.size + 1) 3 _ (by have := hbx.lt; omega)).setne (w.heap.size + 1) 4 _ (by have := hbx.lt; omega)).setne (w.heap.size + 1) 5 _ (by have := hbx.lt; omega)).setne (w.heap.size + 1) 6 _ (by have := hbx.lt; omega))))
  · exact ((((((((HKp.out.set 0 (.bool true)).set 1 (.int .i64 pl)).set 2 (.int .i64 ev)).set 3 (.int .i64 vl)).set 4 (.slice af 0 cf)).set 5 (.slice av vs.length cv)).set 6 (.slice ab bs.length cb))).sm true pl ev vl
  · exact bsc (bsc (bsc (bsc (bsc (bsc (bsc hB1 _ _ _ (by omega)) _ _ _ (by omega)) _ _ _ (by omega)) _ _ _ (by omega)) _ _ _ (by omega)) _ _ _ (by omega)) _ _ _ (by omega)

set_option maxRecDepth 20000 in
set_option maxHeartbeats 4000000 in
theorem l6Step_go (lo cb0 : Nat) (ad : Option Addr) (c : Nat) (l : List Cc) (a : F) (v : Value) (m : Mc) (w : World) (hCl : Cl l a) (h : SM w lo v m) (hS : SR w lo cb0 ad c l a) (hG : GM a l m) (hd : m.done = true) (f : Fm) (hf : m.fs.getLast? = some f) :
    Calls Tryz.prog 72 #[.pointer (some ⟨cb0, 0, none⟩), v] w (GoP lo w (stepM a l m)) := by
  have hlo := hS.le
  obtain ⟨BN, hBN⟩ : ∃ BN, BN = goM a l m f := ⟨_, rfl⟩
  have hst : stepM a l m = BN := by rw [hBN]; unfold stepM; rw [if_pos hd, hf]
  rw [hst]
  have HBN := hide hBN
  have HN := hide hf
  have hfp : 0 < m.fs.length := List.length_pos_of_mem (List.mem_of_getLast? hf)
  clear hst hBN hf
  obtain ⟨af, cf, av, cv, ab, cb, rfl, h1, h2, h3⟩ := h
  obtain ⟨dn, pl, ev, vl, fs, vs, bs⟩ := m
  simp only at hd h1 h2 h3
  subst hd
  have HX0 := hide ((Bx.new w #[.bool true, .int .i64 pl, .int .i64 ev, .int .i64 vl, .slice af fs.length cf, .slice av vs.length cv, .slice ab bs.length cb] 61).alloc (.cells #[.bool false, .int .i64 0, .int .i64 0, .int .i64 0, .slice none 0 0, .slice none 0 0, .slice none 0 0] 61))
  have hY := Bx.new (w.alloc (.cells #[.bool true, .int .i64 pl, .int .i64 ev, .int .i64 vl, .slice af fs.length cf, .slice av vs.length cv, .slice ab bs.length cb] 61)) #[.bool false, .int .i64 0, .int .i64 0, .int .i64 0, .slice none 0 0, .slice none 0 0, .slice none 0 0] 61
  simp only [World.size_alloc] at hY
  have HY0 := hide hY
  have hB0 : Below w.heap.size w ((w.alloc (.cells #[.bool true, .int .i64 pl, .int .i64 ev, .int .i64 vl, .slice af fs.length cf, .slice av vs.length cv, .slice ab bs.length cb] 61)).alloc (.cells #[.bool false, .int .i64 0, .int .i64 0, .int .i64 0, .slice none 0 0, .slice none 0 0, .slice none 0 0] 61)) := ((Below.refl _ _).alloc (Nat.le_refl _) _).alloc (by simp) _
  have HS0 := hide (hS.below (hB0.mono hlo))
  have HK0 : Hid (∀ (b : Nat) (cs : Array Value) (T : TypeId), Bx w b cs T → Bx ((w.alloc (.cells #[.bool true, .int .i64 pl, .int .i64 ev, .int .i64 vl, .slice af fs.length cf, .slice av vs.length cv, .slice ab bs.length cb] 61)).alloc (.cells #[.bool false, .int .i64 0, .int .i64 0, .int .i64 0, .slice none 0 0, .slice none 0 0, .slice none 0 0] 61)) b cs T) := hide (fun bb cs TT hbx => hbx.below hB0 hbx.lt)
  have HSM0 : Hid (SM ((w.alloc (.cells #[.bool true, .int .i64 pl, .int .i64 ev, .int .i64 vl, .slice af fs.length cf, .slice av vs.length cv, .slice ab bs.length cb] 61)).alloc (.cells #[.bool false, .int .i64 0, .int .i64 0, .int .i64 0, .slice none 0 0, .slice none 0 0, .slice none 0 0] 61)) lo (.agg #[.bool true, .int .i64 pl, .int .i64 ev, .int .i64 vl, .slice af fs.length cf, .slice av vs.length cv, .slice ab bs.length cb]) (⟨true, pl, ev, vl, fs, vs, bs⟩ : Mc)) := hide (SM.below ⟨af, cf, av, cv, ab, cb, rfl, h1, h2, h3⟩ hB0)
  have HKp : Hid (Kp ((w.alloc (.cells #[.bool true, .int .i64 pl, .int .i64 ev, .int .i64 vl, .slice af fs.length cf, .slice av vs.length cv, .slice ab bs.length cb] 61)).alloc (.cells #[.bool false, .int .i64 0, .int .i64 0, .int .i64 0, .slice none 0 0, .slice none 0 0, .slice none 0 0] 61)) (w.heap.size + 1) lo (.slice af fs.length cf) (.slice av vs.length cv) (.slice ab bs.length cb) fs vs bs) := hide ⟨⟨_, hY⟩, own_keep h1 (fun k _ hk => hB0.block k hk), own_keep h2 (fun k _ hk => hB0.block k hk), own_keep h3 (fun k _ hk => hB0.block k hk)⟩
  have HCl := hide hCl
  have HG := hide hG
  have hB1 : Below lo w ((w.alloc (.cells #[.bool true, .int .i64 pl, .int .i64 ev, .int .i64 vl, .slice af fs.length cf, .slice av vs.length cv, .slice ab bs.length cb] 61)).alloc (.cells #[.bool false, .int .i64 0, .int .i64 0, .int .i64 0, .slice none 0 0, .slice none 0 0, .slice none 0 0] 61)) := hB0.mono hlo
  clear hY hCl hG hS h1 h2 h3
  go_enter Tryz.func72, Tryz.ntmps72
  go_upto_region 1 with fail
  obtain ⟨w0, hw0⟩ : ∃ w0, w0 = (w.alloc (.cells #[.bool true, .int .i64 pl, .int .i64 ev, .int .i64 vl, .slice af fs.length cf, .slice av vs.length cv, .slice ab bs.length cb] 61)).alloc (.cells #[.bool false, .int .i64 0, .int .i64 0, .int .i64 0, .slice none 0 0, .slice none 0 0, .slice none 0 0] 61) := ⟨_, rfl⟩
  rw [← hw0] at HX0 HY0 hB0 HS0 HK0 HSM0 HKp hB1 ⊢
  clear hw0
  have hz0 : lo ≤ w0.heap.size := Nat.le_trans hlo hB1.size
  have hyl := HY0.out.lt
  have cx := HX0.out.c
  have HGo : Hid (Calls Tryz.prog 104 #[.pointer (some ⟨cb0, 0, none⟩), .agg #[.bool true, .int .i64 pl, .int .i64 ev, .int .i64 vl, .slice af fs.length cf, .slice av vs.length cv, .slice ab bs.length cb]] w0 (GoP lo w0 BN)) := hide (by
    have := l6Go_any lo cb0 ad c l a _ _ f w0 HCl.out HSM0.out HS0.out HG.out rfl HN.out
    rw [← HBN.out] at this
    exact this)
  have hfn : ¬ ((fs.length : Nat) : Int) = 0 := by simp only at hfp; omega
  have hfn2 : ¬ fs.length = 0 := by simp only at hfp; omega
  have hfn3 : ¬ fs = [] := by intro e; rw [e] at hfn2; exact hfn2 rfl
  clear HBN HN hfp
  go_upto_region 6 with fail
  go_wp2_with fail
  refine HGo.out.mono ?_
  rintro r w9 ⟨v9, ⟨d9, p9, e9, x9, fs9, vs9, bs9⟩, rfl, hsm9, hm9, hb9, hk9⟩
  obtain ⟨af9, cf9, av9, cv9, ab9, cb9, rfl, o1, o2, o3⟩ := hsm9
  have HY9 := hide (hk9 _ _ _ (by decide) (by decide) (by decide) HY0.out)
  have HO1 := hide o1
  have HO2 := hide o2
  have HO3 := hide o3
  have HB9 : Hid (Below lo w0 w9) := hide hb9
  have HK9 := hide hk9
  clear o1 o2 o3 hb9 hk9 cx
  have HMI := hide hm9
  have HQ9 : Hid (Kp w9 (w.heap.size + 1) lo (.slice af9 fs9.length cf9) (.slice av9 vs9.length cv9) (.slice ab9 bs9.length cb9) fs9 vs9 bs9) := hide ⟨⟨_, HY9.out⟩, HO1.out, HO2.out, HO3.out⟩
  have hB9 : Below lo w w9 := hB1.trans HB9.out
  obtain ⟨CN, hCN⟩ : ∃ CN, CN = canOf BN := ⟨_, rfl⟩
  obtain ⟨RN, hRN⟩ : ∃ RN, RN = roomOf BN := ⟨_, rfl⟩
  rw [← hCN, ← hRN]
  have HCN := hide hCN
  have HRN := hide hRN
  have cy9 := HY9.out.c
  have fy9 := HY9.out.f
  clear hm9 hCN hRN
  go_wp2_with fail
  refine bodyPost_ret (v := .tuple #[.agg #[.bool d9, .int .i64 p9, .int .i64 e9, .int .i64 x9, .slice af9 fs9.length cf9, .slice av9 vs9.length cv9, .slice ab9 bs9.length cb9], .bool CN, .bool RN]) (by simp [results, Tryz.results72, go_sem, cy9]) rfl (GoP.mk _ ⟨d9, p9, e9, x9, fs9, vs9, bs9⟩ (by rw [← HCN.out, ← HRN.out]) ?_ HMI.out ?_ (fun bb cs TT t1 t2 t3 hbx => ((((((((HK9.out bb cs TT t1 t2 t3 (HK0.out bb cs TT hbx)).setne (w.heap.size + 1) 0 _ (by have := hbx.lt; omega)).setne (w.heap.size + 1) 1 _ (by have := hbx.lt; omega)).setne (w.heap.size + 1) 2 _ (by have := hbx.lt; omega)).setne (w.heap.size + 1) 3 _ (by have := hbx.lt; omega)).setne (w.heap.size + 1) 4 _ (by have := hbx.lt; omega)).setne (w.heap.size + 1) 5 _ (by have := hbx.lt; omega)).setne (w.heap.size + 1) 6 _ (by have := hbx.lt; omega))))
  · exact ((((((((HQ9.out.set 0 (.bool d9)).set 1 (.int .i64 p9)).set 2 (.int .i64 e9)).set 3 (.int .i64 x9)).set 4 (.slice af9 fs9.length cf9)).set 5 (.slice av9 vs9.length cv9)).set 6 (.slice ab9 bs9.length cb9))).sm d9 p9 e9 x9
  · exact bsc (bsc (bsc (bsc (bsc (bsc (bsc hB9 _ _ _ (by omega)) _ _ _ (by omega)) _ _ _ (by omega)) _ _ _ (by omega)) _ _ _ (by omega)) _ _ _ (by omega)) _ _ _ (by omega)

theorem l6Step_any (lo cb0 : Nat) (ad : Option Addr) (c : Nat) (l : List Cc) (a : F) (v : Value) (m : Mc) (w : World) (hCl : Cl l a) (h : SM w lo v m) (hS : SR w lo cb0 ad c l a) (hG : GM a l m) :
    Calls Tryz.prog 72 #[.pointer (some ⟨cb0, 0, none⟩), v] w (GoP lo w (stepM a l m)) := by
  cases hd : m.done with
  | false => exact l6Step_do lo cb0 ad c l a v m w hCl h hS hG hd
  | true =>
    cases hf : m.fs.getLast? with
    | none => exact l6Step_no lo cb0 ad c l a v m w hCl h hS hG hd hf
    | some f => exact l6Step_go lo cb0 ad c l a v m w hCl h hS hG hd f hf
end Go.Proofs.YtnmkbpflbfhpnaaGreat.W

/-
  The specification's SubstTerm, where l3Subst's contract is given. Conditions: at most 1048576 cells.
-/
import Derived.Test.YtbimfnnbfbfdoaaTeA
namespace Go.Proofs.Ytbimfnnbfbfdoaa.W
open Go.ChangeShapes Go.WideShapes Go.ChangeAt Go.RowKit
set_option linter.unusedVariables false

set_option maxRecDepth 20000 in
set_option maxHeartbeats 2000000 in
theorem specSubst_good (HPG : ∀ k, L3PGoal k) (ad sad : Option Addr) (c sc : Nat) (l ls : List Cc) (K : Nat) (x sx : Cc) (k sk : F) (w : World) (hl : l.length ≤ 1048576) (h : CRow w ad l) (hls : ls.length ≤ 1048576) (hs : CRow w sad ls) (ht : treeT l = some (.cons x k .nil)) (hts : treeT ls = some (.cons sx sk .nil)) (hK : K ≤ 99) :
    Calls Try.prog 9 #[.slice ad l.length c, .int .i64 (K : Int), .slice sad ls.length sc] w fun e w' => RS w (sbR l (K : Int) ls) e w' := by
  have HRS := hide hs
  have HC := hide (l3Tree_any ad c l w hl h)
  have HCS := hide (fun (w' : World) (hb : Below w.heap.size w w') => l3Tree_any sad sc ls w' hls (HRS.out.below hb))
  rw [ht] at HC
  rw [hts] at HCS
  have HT := hide (treeT_flat ht)
  have HTS := hide (treeT_flat hts)
  have Hf := hide (l1In_any (K : Int) 0 99)
  rw [show inB (K : Int) 0 99 = true by simp [inB]; omega] at Hf
  have hr0 : sbR l (K : Int) ls = if l.length + us1 K x k * (ls.length - 1) ≤ 600 then some (sbr K sx 0 x :: (sbk K sx sk 0 x k).flat) else none := by
    unfold sbR
    rw [ht, hts]
    simp only [Int.toNat_natCast]
    rw [show inB (K : Int) 0 99 = true by simp [inB]; omega]
    simp
  obtain ⟨R, hR⟩ : ∃ R, R = sbR l (K : Int) ls := ⟨_, rfl⟩
  rw [← hR] at hr0 ⊢
  have HR0 := hide hr0
  clear h hs ht hts hR hr0
  go_enter Try.func9, Try.ntmps9
  go_wp2_with fail
  refine Calls.mono HC.out ?_
  rintro e w1 ⟨hb1, ho⟩
  obtain ⟨x', k', s, he, rfl, hK1⟩ := ho
  simp only [F.cons.injEq, and_true] at he
  obtain ⟨rfl, rfl⟩ := he
  obtain ⟨pad, pc, rfl⟩ := hK1.form
  have HK1 := hide hK1
  obtain ⟨KL, hKL⟩ : ∃ KL, KL = k.len := ⟨_, rfl⟩
  rw [← hKL] at HK1 ⊢
  have HKL := hide hKL
  clear hK1 hKL HC
  go_wp2_with fail
  obtain ⟨w2, hw2⟩ : ∃ w2, w2 = w1.alloc (.cells #[.int .i64 x.k, .int .i64 x.n, .slice pad KL pc] 63) := ⟨_, rfl⟩
  rw [← hw2]
  have hB12 : Below w1.heap.size w1 w2 := by rw [hw2]; exact (Below.refl _ _).alloc (Nat.le_refl _) _
  have hx2 : w2.heap[w1.heap.size]? = some (.cells #[.int .i64 x.k, .int .i64 x.n, .slice pad KL pc] 63) := by rw [hw2]; exact heap_alloc_new _ _
  have hB2 : Below w.heap.size w w2 := hb1.trans (hB12.mono hb1.size)
  have hsz2 : w1.heap.size < w2.heap.size := (Array.getElem?_eq_some_iff.1 hx2).1
  have HK2 := hide (HK1.out.below hB12)
  have HX2 := hide hx2
  clear hw2 hx2 HK1 hB12
  refine Calls.mono (HCS.out _ hB2) ?_
  rintro e w3 ⟨hb3, ho⟩
  obtain ⟨sx', sk', s, he, rfl, hK3⟩ := ho
  simp only [F.cons.injEq, and_true] at he
  obtain ⟨rfl, rfl⟩ := he
  obtain ⟨qad, qc, rfl⟩ := hK3.form
  have HQ3 := hide hK3
  obtain ⟨QL, hQL⟩ : ∃ QL, QL = sk.len := ⟨_, rfl⟩
  rw [← hQL] at HQ3 ⊢
  have HQL := hide hQL
  have HK3 := hide (HK2.out.below hb3)
  have hx3 := (hb3.block _ hsz2).trans HX2.out
  have hB3 : Below w.heap.size w w3 := hB2.trans (hb3.mono hB2.size)
  have hsz3 : w1.heap.size < w3.heap.size := Nat.lt_of_lt_of_le hsz2 hb3.size
  have c30 : w3.cell? ⟨w1.heap.size, 0, none⟩ = some (.int .i64 x.k) := (cell_of_blk hx3 0).trans rfl
  have c31 : w3.cell? ⟨w1.heap.size, 1, none⟩ = some (.int .i64 x.n) := (cell_of_blk hx3 1).trans rfl
  have c32 : w3.cell? ⟨w1.heap.size, 2, none⟩ = some (.slice pad KL pc) := (cell_of_blk hx3 2).trans rfl
  clear hK3 hQL HCS hb3 HK2 HX2 hx3 hB2 hb1
  go_wp2_with fail
  refine (Hf.out _).mono ?_
  rintro e w4 ⟨rfl, hw4⟩
  obtain rfl := hw4.symm
  go_wp2_with fail
  obtain ⟨w5, hw5⟩ : ∃ w5, w5 = w3.alloc (.cells #[.int .i64 sx.k, .int .i64 sx.n, .slice qad QL qc] 63) := ⟨_, rfl⟩
  rw [← hw5]
  have hB35 : Below w3.heap.size w3 w5 := by rw [hw5]; exact (Below.refl _ _).alloc (Nat.le_refl _) _
  have hB5 : Below w.heap.size w w5 := hB3.trans (hB35.mono hB3.size)
  obtain ⟨t1, t2, t3, t4, -⟩ := HT.out
  obtain ⟨u1, u2, u3, u4, -⟩ := HTS.out
  obtain ⟨g1, l1, o1, -⟩ := ok_cons t2
  obtain ⟨m1, m2, m3, -⟩ := ok_cons u2
  have hn := good_n g1
  have hm := good_n m1
  have hkf : k.flat.length + 1 = l.length := by rw [t1]; simp [F.flat]
  have hsf : sk.flat.length + 1 = ls.length := by rw [u1]; simp [F.flat]
  have hk5 := HK3.out.below hB35
  have hq5 := HQ3.out.below hB35
  rw [HKL.out] at hk5
  rw [HQL.out] at hq5
  have hput := l3Put_any HPG x sx k sk (.slice pad k.len pc) (.slice qad sk.len qc) K _ _ w5 hn.1 hn.2 hm.1 hm.2 hK l1 o1 m2 m3 (by omega) (by omega) hk5 hq5
  rw [← HKL.out, ← HQL.out, hkf] at hput
  have hL1 : ls.length - 1 = sk.flat.length := by omega
  rw [hL1] at HR0
  have hflat := sbf_flat K sx sk (.cons x k .nil) 0 0 0 t2
  have hus : usf (K + 0) 0 0 (.cons x k .nil) = us1 K x k := by rw [usf_cons, binds_0]; simp [usf]
  have hsb : sbf K sx sk 0 0 0 (.cons x k .nil) = .cons (sbr K sx 0 x) (sbk K sx sk 0 x k) .nil := by rw [sbf_cons, binds_0]; rfl
  rw [hus, hsb, ← t1] at hflat
  have hfl : (F.cons (sbr K sx 0 x) (sbk K sx sk 0 x k) .nil).flat = sbr K sx 0 x :: (sbk K sx sk 0 x k).flat := by simp [F.flat]
  rw [hfl, List.length_cons] at hflat
  obtain ⟨Z, hZ⟩ : ∃ Z, Z = l.length + us1 K x k * sk.flat.length := ⟨_, rfl⟩
  obtain ⟨zz, hzz⟩ : ∃ zz, zz = sbr K sx 0 x := ⟨_, rfl⟩
  obtain ⟨kk, hkk⟩ : ∃ kk, kk = sbk K sx sk 0 x k := ⟨_, rfl⟩
  rw [← hZ, ← hzz, ← hkk] at hput HR0
  rw [← hZ, ← hkk] at hflat
  have HPu := hide hput
  clear hw5 hput hZ hzz hkk hus hsb hfl hL1 hk5 hq5 t1 t2 t3 t4 u1 u2 u3 u4 g1 l1 o1 m1 m2 m3 hn hm hkf hsf HT HTS c30 c31 c32 HK3 HQ3 hB35 Hf
  by_cases hbig : Z ≤ 600
  · have hR : R = some (zz :: kk.flat) := by rw [HR0.out, if_pos hbig]
    have HRn := hide hR
    simp only [if_pos hbig] at HPu
    clear hR HR0
    refine Calls.mono HPu.out ?_
    rintro e w6 ⟨⟨s6, rfl, hs6⟩, hb6⟩
    obtain ⟨zad, zc, rfl⟩ := hs6.form
    have HS6 := hide hs6
    have hB6 : Below w.heap.size w w6 := hB5.trans (hb6.mono hB5.size)
    obtain ⟨ZL, hZL⟩ : ∃ ZL, ZL = kk.len := ⟨_, rfl⟩
    rw [← hZL] at HS6 ⊢
    clear hs6 hb6 hZL HPu
    go_wp2_with fail
    refine Calls.mono (l3Tell_any zz kk _ _ _ (by omega) (HS6.out.below ((Below.refl _ _).alloc (Nat.le_refl _) _))) ?_
    rintro e w7 ⟨s7, rfl, ho7, hb7⟩
    have hB6' : Below w.heap.size w (w6.alloc (.cells #[.int .i64 zz.k, .int .i64 zz.n, .slice zad ZL zc] 63)) := hB6.alloc hB6.size _
    have hB7 : Below w.heap.size w w7 := hB6'.trans (hb7.mono hB6'.size)
    obtain ⟨rad, rc, rfl⟩ := iOwn_form ho7
    have HO7 := hide (iOwn_lower ho7 hB6'.size)
    clear ho7 hb7
    obtain ⟨RN, hRN⟩ : ∃ RN, RN = (gd (zz :: kk.flat)).length := ⟨_, rfl⟩
    obtain ⟨RB, hRB⟩ : ∃ RB, RB = goodT (zz :: kk.flat) := ⟨_, rfl⟩
    have HRN := hide hRN
    have HRB := hide hRB
    rw [← hRN, ← hRB]
    clear hRN hRB
    go_wp2_with fail
    refine bodyPost_ret (v := .tuple #[.slice rad RN rc, .bool RB]) (by simp [results, Try.results9, go_sem]) rfl ?_
    rw [HRn.out]
    exact ⟨.slice rad RN rc, by show _ = Ending.returned (.tuple #[_, .bool (goodT (zz :: kk.flat))]); rw [← HRB.out], by rw [HRN.out]; exact HO7.out, hB7⟩
  · have hR : R = none := by rw [HR0.out, if_neg hbig]
    have HRn := hide hR
    simp only [if_neg hbig] at HPu
    clear hR HR0
    refine Calls.mono HPu.out ?_
    rintro e w6 ⟨rfl, hb6⟩
    have hB6 : Below w.heap.size w w6 := hB5.trans (hb6.mono hB5.size)
    clear hb6 HPu
    go_wp2_with fail
    exact bodyPost_ret (v := .tuple #[.slice none 0 0, .bool false]) (by simp [results, Try.results9, go_sem]) rfl (by rw [HRn.out]; exact ⟨_, rfl, World.ownsRow_nil _ _ _ _, hB6.alloc hB6.size _⟩)
end Go.Proofs.Ytbimfnnbfbfdoaa.W

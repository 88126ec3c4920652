/-
  Terms put in the place of variables by the specification: a contract of l3Subst. Conditions: as the theorem states.
-/
import Derived.Test.YtjmgnljjeogdlaaJae
import Derived.Deep.RegionLaw
namespace Go.Proofs.Ytjmgnljjeogdlaa.W
open Go.ChangeShapes Go.WideShapes Go.ChangeAt Go.RowKit
set_option linter.unusedVariables false
set_option linter.unusedSimpArgs false

set_option maxRecDepth 20000 in
set_option maxHeartbeats 8000000 in
theorem l3Subst_any : ∀ k, L3PGoal k := by
  apply F.rec_kids
  intro k ih x sx sk s ss K d P Q w hn1 hn2 hm1 hm2 hK hka hko hska hsko hskl hd hT hQ
  have IH := hide ih
  have HT := hide hT
  have HQ := hide hQ
  have HKO := hide hko
  have HSO := hide hsko
  have HSA := hide hska
  obtain ⟨sad, sc, rfl⟩ := hT.form
  obtain ⟨qad, qc, rfl⟩ := hQ.form
  clear ih hT hko hQ hsko
  obtain ⟨i0, hi0, hz0, hz1, hz2⟩ := infoPartsT infoT
  have Hi := hide hi0
  clear hi0
  have hkl := F.len_flat k
  obtain ⟨KL, hKL⟩ : ∃ KL, KL = k.len := ⟨_, rfl⟩
  rw [← hKL] at HT hkl ⊢
  have HKL := hide hKL
  clear hKL
  obtain ⟨QL, hQL⟩ : ∃ QL, QL = sk.len := ⟨_, rfl⟩
  rw [← hQL] at HQ ⊢
  have HQL := hide hQL
  clear hQL
  obtain ⟨xk, xn⟩ := x
  obtain ⟨sxk, sxn⟩ := sx
  simp only at *
  obtain ⟨z, hz⟩ : ∃ z, z = sbr K ⟨sxk, sxn⟩ d ⟨xk, xn⟩ := ⟨_, rfl⟩
  obtain ⟨kz, hkz⟩ : ∃ kz, kz = sbk K ⟨sxk, sxn⟩ sk d ⟨xk, xn⟩ k := ⟨_, rfl⟩
  rw [← hz, ← hkz]
  by_cases hx0 : xk = 1
  · subst hx0
    have hk0 : k = .nil := F.len_0 (by rw [hka]; rfl)
    subst hk0
    obtain rfl : KL = 0 := HKL.out
    obtain ⟨rfl, rfl⟩ : sad = none ∧ sc = 0 := by
      obtain ⟨ck, -, ⟨-, e⟩ | ⟨h0, -⟩⟩ := HT.out
      · simp only [Value.slice.injEq, true_and] at e; exact ⟨e.1, e.2⟩
      · simp [F.len] at h0
    clear HKL hka hkl IH HT
    by_cases hx1 : xn = (K : Int) + (d : Int)
    · have hz' : z = shc (d : Int) 0 ⟨sxk, sxn⟩ := by rw [hz]; unfold sbr; rw [if_pos rfl, if_pos hx1]
      have hkz' : kz = shf (d : Int) sxk 0 0 sk := by rw [hkz]; unfold sbk; rw [if_pos rfl, if_pos hx1]
      have HSH := hide (fun (w' : World) (hb' : Below w.heap.size w w') => l3Shift_any sk ⟨sxk, sxn⟩ (.slice qad QL qc) (d : Int) 0 Q w' hm1 hm2 (by omega) (by omega) HSA.out HSO.out (by omega) (HQ.out.below hb'))
      rw [← hz'] at HSH
      simp only [← hkz'] at HSH
      clear hz hz' hkz hkz'
      go_enter Try.func58, Try.ntmps58
      go_wp2_with fail
      refine Calls.mono (HSH.out _ ((((Below.refl _ _).alloc (Nat.le_refl _) _).alloc (by simp) _).alloc (by simp <;> omega) _)) ?_
      obtain ⟨w0, hw0⟩ : ∃ w0, w0 = (((w.alloc (.cells #[.int .i64 1, .int .i64 ((K : Int) + (d : Int)), .slice none 0 0] 55)).alloc (.cells #[.int .i64 sxk, .int .i64 sxn, .slice qad QL qc] 55)).alloc (.cells #[.int .i64 0, .int .i64 0, .slice none 0 0] 55)) := ⟨_, rfl⟩
      have hB0 : Below w.heap.size w w0 := by rw [hw0]; exact (((Below.refl _ _).alloc (Nat.le_refl _) _).alloc (by simp) _).alloc (by simp <;> omega) _
      have hbR : w0.heap[w.heap.size + 1 + 1]? = some (.cells #[.int .i64 0, .int .i64 0, .slice none 0 0] 55) := by rw [hw0]; have := heap_alloc_new ((w.alloc (.cells #[.int .i64 1, .int .i64 ((K : Int) + (d : Int)), .slice none 0 0] 55)).alloc (.cells #[.int .i64 sxk, .int .i64 sxn, .slice qad QL qc] 55)) (.cells #[.int .i64 0, .int .i64 0, .slice none 0 0] 55); simpa using this
      have hsz0 : w0.heap.size = w.heap.size + 1 + 1 + 1 := by rw [hw0]; simp
      rw [← hw0]
      clear hw0
      rintro e w1 ⟨s1, rfl, hs1, hb1⟩
      obtain ⟨pad, pc, rfl⟩ := hs1.form
      have HS1 := hide hs1
      have hbR1 := (hb1.block _ (by omega)).trans hbR
      have hB1 : Below w.heap.size w w1 := hB0.trans (hb1.mono hB0.size)
      have z0 := cell_of_blk hbR1 0
      have z1 := cell_of_blk hbR1 1
      have z2 := cell_of_blk hbR1 2
      have fz := unfrozen_of_blk hbR1
      simp only [List.getElem?_toArray, List.getElem?_cons_zero, List.getElem?_cons_succ] at z0 z1 z2
      have hsz1 := hb1.size
      obtain ⟨ZL, hZL⟩ : ∃ ZL, ZL = kz.len := ⟨_, rfl⟩
      rw [← hZL] at HS1 ⊢
      clear hs1 hb1 hbR hbR1 hB0 HSH hZL
      go_wp2_with fail
      refine bodyPost_ret (v := .agg #[.int .i64 z.k, .int .i64 z.n, .slice pad ZL pc]) (by simp [results, Try.results58, go_sem, *]) rfl ⟨_, rfl, ?_, ((hB1.setCell (p := ⟨w.heap.size + 1 + 1, 0, none⟩) (by simp <;> omega) _).setCell (p := ⟨w.heap.size + 1 + 1, 1, none⟩) (by simp <;> omega) _).setCell (p := ⟨w.heap.size + 1 + 1, 2, none⟩) (by simp <;> omega) _⟩
      refine HS1.out.keep (by simp [World.setCell]) (fun g h1 h2 => ⟨?_, by omega⟩)
      have hkn : g ≠ w.heap.size + 1 + 1 := by omega
      rw [Below.heap_setCell _ _ _ _ hkn, Below.heap_setCell _ _ _ _ hkn, Below.heap_setCell _ _ _ _ hkn]
    · by_cases hx2 : (K : Int) + (d : Int) < xn
      · have hz' : z = ⟨1, xn - 1⟩ := by rw [hz]; unfold sbr; rw [if_pos rfl, if_neg hx1, if_pos hx2]
        have hkz' : kz = .nil := by rw [hkz]; unfold sbk; rw [if_pos rfl, if_neg hx1]
        subst hz' hkz'
        clear hz hkz
        go_enter Try.func58, Try.ntmps58
        go_wp2_with fail
        exact bodyPost_ret (v := .agg #[.int .i64 1, .int .i64 (xn - 1), .slice none 0 0]) (by simp [results, Try.results58, go_sem]) rfl ⟨_, rfl, KidT.nil, (((Below.refl _ _).alloc (Nat.le_refl _) _).alloc (by simp) _).alloc (by simp <;> omega) _⟩
      · have hz' : z = ⟨1, xn⟩ := by rw [hz]; unfold sbr; rw [if_pos rfl, if_neg hx1, if_neg hx2]
        have hkz' : kz = .nil := by rw [hkz]; unfold sbk; rw [if_pos rfl, if_neg hx1]
        subst hz' hkz'
        clear hz hkz
        go_enter Try.func58, Try.ntmps58
        go_wp2_with fail
        exact bodyPost_ret (v := .agg #[.int .i64 1, .int .i64 xn, .slice none 0 0]) (by simp [results, Try.results58, go_sem]) rfl ⟨_, rfl, KidT.nil, (((Below.refl _ _).alloc (Nat.le_refl _) _).alloc (by simp) _).alloc (by simp <;> omega) _⟩
  · have hz' : z = ⟨xk, xn⟩ := by rw [hz]; unfold sbr; rw [if_neg hx0]
    have hkz' : kz = sbf K ⟨sxk, sxn⟩ sk xk d 0 k := by rw [hkz]; unfold sbk; rw [if_neg hx0]
    subst hz' hkz'
    clear hz hkz hka
    have hxb : (xk == 1) = false := by simp [hx0]
    go_enter Try.func58, Try.ntmps58
    go_wp2_with fail
    obtain ⟨T0, hT0⟩ : ∃ T0, T0 = w.heap.size := ⟨_, rfl⟩
    obtain ⟨w0, hw0⟩ : ∃ w0, w0 = ((((w.alloc (.cells #[.int .i64 xk, .int .i64 xn, .slice sad KL sc] 55)).alloc (.cells #[.int .i64 sxk, .int .i64 sxn, .slice qad QL qc] 55)).alloc (.cells #[.int .i64 0, .int .i64 0, .slice none 0 0] 55)).alloc (.cells #[.int .i64 xk, .int .i64 xn, .slice none 0 0] 55)) := ⟨_, rfl⟩
    have hB0 : Below w.heap.size w w0 := by rw [hw0]; exact ((((Below.refl _ _).alloc (Nat.le_refl _) _).alloc (by simp) _).alloc (by simp <;> omega) _).alloc (by simp <;> omega) _
    have hbT : w0.heap[w.heap.size]? = some (.cells #[.int .i64 xk, .int .i64 xn, .slice sad KL sc] 55) := by rw [hw0, heap_alloc_old _ _ (by simp <;> omega), heap_alloc_old _ _ (by simp <;> omega), heap_alloc_old _ _ (by simp)]; exact heap_alloc_new _ _
    have hbS : w0.heap[w.heap.size + 1]? = some (.cells #[.int .i64 sxk, .int .i64 sxn, .slice qad QL qc] 55) := by rw [hw0, heap_alloc_old _ _ (by simp <;> omega), heap_alloc_old _ _ (by simp)]; have := heap_alloc_new (w.alloc (.cells #[.int .i64 xk, .int .i64 xn, .slice sad KL sc] 55)) (.cells #[.int .i64 sxk, .int .i64 sxn, .slice qad QL qc] 55); simpa using this
    have hbR : w0.heap[w.heap.size + 1 + 1]? = some (.cells #[.int .i64 0, .int .i64 0, .slice none 0 0] 55) := by rw [hw0, heap_alloc_old _ _ (by simp)]; have := heap_alloc_new ((w.alloc (.cells #[.int .i64 xk, .int .i64 xn, .slice sad KL sc] 55)).alloc (.cells #[.int .i64 sxk, .int .i64 sxn, .slice qad QL qc] 55)) (.cells #[.int .i64 0, .int .i64 0, .slice none 0 0] 55); simpa using this
    have hbO : w0.heap[w.heap.size + 1 + 1 + 1]? = some (.cells #[.int .i64 xk, .int .i64 xn, .slice none 0 0] 55) := by rw [hw0]; have := heap_alloc_new (((w.alloc (.cells #[.int .i64 xk, .int .i64 xn, .slice sad KL sc] 55)).alloc (.cells #[.int .i64 sxk, .int .i64 sxn, .slice qad QL qc] 55)).alloc (.cells #[.int .i64 0, .int .i64 0, .slice none 0 0] 55)) (.cells #[.int .i64 xk, .int .i64 xn, .slice none 0 0] 55); simpa using this
    have hsz0 : w0.heap.size = w.heap.size + 1 + 1 + 1 + 1 := by rw [hw0]; simp
    rw [← hw0]
    have HT0 := hide hbT
    have HS0 := hide hbS
    have HR0 := hide hbR
    have HO0 := hide hbO
    have HSz0 := hide hsz0
    clear hw0 hbT hbS hbR hbO hsz0 hT0
    go_loopw [45] (fun i w' => ∃ (a b : F) (s : Value) (cs : List Value), k = a.app b ∧ i = .int .i64 (a.len : Int) ∧ Below w.heap.size w w' ∧ w0.heap.size ≤ w'.heap.size ∧ w'.heap[w.heap.size]? = some (.cells #[.int .i64 xk, .int .i64 xn, .slice sad KL sc] 55 (0, 0)) ∧ w'.heap[w.heap.size + 1]? = some (.cells #[.int .i64 sxk, .int .i64 sxn, .slice qad QL qc] 55 (0, 0)) ∧ w'.heap[w.heap.size + 1 + 1]? = some (.cells #[.int .i64 0, .int .i64 0, .slice none 0 0] 55 (0, 0)) ∧ w'.heap[w.heap.size + 1 + 1 + 1]? = some (.cells #[.int .i64 xk, .int .i64 xn, s] 55 (0, 0)) ∧
      KidsAt w' (fun g => w0.heap.size ≤ g ∧ s.ownBlock ≠ some g) (sbf K ⟨sxk, sxn⟩ sk xk d 0 a) cs ∧ w'.ownsRow w0.heap.size 55 3 s a.len cs ∧ Holds w' (fun g => w0.heap.size ≤ g) s a.len cs) (fun i _ => KL - (intOf i).toNat)
    case atStart => exact ⟨.nil, k, _, [], rfl, rfl, hB0, Nat.le_refl _, HT0.out, HS0.out, HR0.out, HO0.out, rfl, World.ownsRow_nil _ _ _ _, .inl ⟨rfl, rfl⟩⟩
    case round =>
      obtain ⟨a, b, so, cs, hk, rfl, hBr, hszr, hbT, hbS, hbR, hbO, hKs, hOw, hHo⟩ := hrel
      clear HT0 HS0 HR0 HO0 hB0
      have HT1 := hide hbT
      have HSb1 := hide hbS
      have HR1 := hide hbR
      have HO1 := hide hbO
      have HKs := hide hKs
      have HOw := hide hOw
      have HHo := hide hHo
      obtain ⟨oad, oc, hform⟩ := iOwn_form hOw
      subst hform
      clear hbT hbS hbR hbO hKs hOw hHo
      cases b with
      | nil =>
        rw [F.app_nil] at hk
        subst hk
        have hKL := HKL.out
        rw [← hKL]
        rw [← hKL] at HO1 HHo
        clear hKL
        have z0 := cell_of_blk HR1.out 0
        have z1 := cell_of_blk HR1.out 1
        have z2 := cell_of_blk HR1.out 2
        have fz := unfrozen_of_blk HR1.out
        have y0 := cell_of_blk HO1.out 0
        have y1 := cell_of_blk HO1.out 1
        have y2 := cell_of_blk HO1.out 2
        simp only [List.getElem?_toArray, List.getElem?_cons_zero, List.getElem?_cons_succ] at z0 z1 z2 y0 y1 y2
        go_wp2_with fail
        refine bodyPost_ret (v := .agg #[.int .i64 xk, .int .i64 xn, .slice oad KL oc]) (by simp [results, Try.results58, go_sem, *]) rfl ⟨_, rfl, ?_, ((hBr.setCell (p := ⟨w.heap.size + 1 + 1, 0, none⟩) (by show w.heap.size ≤ w.heap.size + 1 + 1; omega) _).setCell (p := ⟨w.heap.size + 1 + 1, 1, none⟩) (by show w.heap.size ≤ w.heap.size + 1 + 1; omega) _).setCell (p := ⟨w.heap.size + 1 + 1, 2, none⟩) (by show w.heap.size ≤ w.heap.size + 1 + 1; omega) _⟩
        have hsz := HSz0.out
        have hkk : KidT wr (fun g => w0.heap.size ≤ g) (sbf K ⟨sxk, sxn⟩ sk xk d 0 k) (.slice oad KL oc) := ⟨cs, HKs.out.keep (Nat.le_refl _) (fun g h1 _ => ⟨rfl, h1.1⟩), by rw [sbf_len, ← HKL.out]; exact HHo.out⟩
        refine hkk.keep (by simp [World.setCell]) (fun g h1 h2 => ⟨?_, by omega⟩)
        have hkn : g ≠ w.heap.size + 1 + 1 := by omega
        rw [Below.heap_setCell _ _ _ _ hkn, Below.heap_setCell _ _ _ _ hkn, Below.heap_setCell _ _ _ _ hkn]
      | cons y ky b =>
        have hsz0 := HSz0.out
        have hkl2 : KL = a.len + (b.len + 1) := by rw [HKL.out, hk, F.app_len]; rfl
        have hlt' : (a.len : Int) < (KL : Int) := by omega
        have hfk : k.flat.length = a.flat.length + (1 + ky.flat.length + b.flat.length) := by rw [hk, F.app_flat]; simp [F.flat]; omega
        have hI := IH.out
        have hKO := HKO.out
        rw [hk] at hI hKO
        obtain ⟨g, cap, sy, he, hPg, hg, hTy, p0, p1, p2⟩ := KidT.kid (a := a) (k := ky) (r := b) (x := y) (s := .slice sad KL sc) (by rw [← hk]; exact HT.out)
        simp only [Value.slice.injEq] at he
        obtain ⟨rfl, -, rfl⟩ := he
        have q0 := (hBr.cell (p := ⟨g, a.len * 3, none⟩) hg).trans p0
        have q1 := (hBr.cell (p := ⟨g, a.len * 3 + 1, none⟩) hg).trans p1
        have q2 := (hBr.cell (p := ⟨g, a.len * 3 + 2, none⟩) hg).trans p2
        obtain ⟨g1, l1, o1, -⟩ := ok_cons ((F.app_ok _ _).1 hKO).2
        have hyn := good_n g1
        have hbl := binds_le xk a.len
        have HC := hide (fun (w' : World) (hw' : Below w.heap.size w w') => F.all_at hI y ⟨sxk, sxn⟩ sk sy (.slice qad QL qc) K (d + binds xk a.len) P Q w' hyn.1 hyn.2 hm1 hm2 hK l1 o1 HSA.out HSO.out hskl (by omega) (hTy.keep hw'.size (fun k h1 h2 => ⟨hw'.block k h2, h1⟩)) (HQ.out.below hw'))
        obtain ⟨yad, yc, rfl⟩ := hTy.form
        have HSn := hide (hk.trans (F.app_snoc a ky b y))
        have HDl : Hid ((a.app (.cons y ky .nil)).len = a.len + 1) := hide (by rw [F.app_len]; rfl)
        have HSh : Hid (sbf K ⟨sxk, sxn⟩ sk xk d 0 (a.app (.cons y ky .nil)) = (sbf K ⟨sxk, sxn⟩ sk xk d 0 a).app (.cons (sbr K ⟨sxk, sxn⟩ (d + binds xk a.len) y) (sbk K ⟨sxk, sxn⟩ sk (d + binds xk a.len) y ky) .nil)) := hide (by rw [sbf_app, Nat.zero_add]; rfl)
        have HKl2 := hide hkl2
        have HBi := hide (l3Binds_any xk a.len)
        have hcsl := HOw.out.1
        clear p0 p1 p2 hTy hI hk hkl2 hfk hKO g1 l1 o1 hyn
        obtain ⟨al, hal⟩ : ∃ al, al = a.len := ⟨_, rfl⟩
        obtain ⟨kn, hkn⟩ : ∃ kn, kn = ky.len := ⟨_, rfl⟩
        obtain ⟨bi, hbi⟩ : ∃ bi, bi = binds xk a.len := ⟨_, rfl⟩
        obtain ⟨zz, hzz⟩ : ∃ zz, zz = sbr K ⟨sxk, sxn⟩ (d + binds xk a.len) y := ⟨_, rfl⟩
        obtain ⟨kk, hkk⟩ : ∃ kk, kk = sbk K ⟨sxk, sxn⟩ sk (d + binds xk a.len) y ky := ⟨_, rfl⟩
        rw [← hzz, ← hkk] at HC HSh
        rw [← hbi] at HC HBi hbl
        rw [← hal] at hlt' q0 q1 q2 HDl HKl2 HBi HO1 HOw HHo HKs hcsl ⊢
        rw [← hkn] at HC q2
        rw [Int.natCast_add] at HC
        clear hal hkn hbi hzz hkk
        have c0 : wr.cell? ⟨w.heap.size, 0, none⟩ = some (.int .i64 xk) := (cell_of_blk HT1.out 0).trans rfl
        have c5 : wr.cell? ⟨w.heap.size + 1, 0, none⟩ = some (.int .i64 sxk) := (cell_of_blk HSb1.out 0).trans rfl
        have c6 : wr.cell? ⟨w.heap.size + 1, 1, none⟩ = some (.int .i64 sxn) := (cell_of_blk HSb1.out 1).trans rfl
        have c7 : wr.cell? ⟨w.heap.size + 1, 2, none⟩ = some (.slice qad QL qc) := (cell_of_blk HSb1.out 2).trans rfl
        have c4 : wr.cell? ⟨w.heap.size + 1 + 1 + 1, 2, none⟩ = some (.slice oad al oc) := (cell_of_blk HO1.out 2).trans rfl
        have hw : IntKind.i64.wrap ((d : Int) + (bi : Int)) = (d : Int) + (bi : Int) := IntWalk.i64_in _ ⟨by omega, by omega⟩
        have hal3 : al < 2000001 := by omega
        go_wp2_with fail
        obtain ⟨w3, hw3⟩ : ∃ w3, w3 = wr.alloc (.cells #[.int .i64 y.k, .int .i64 y.n, .slice yad kn yc] 55) := ⟨_, rfl⟩
        rw [← hw3]
        have hb3 : w3.heap[wr.heap.size]? = some (.cells #[.int .i64 y.k, .int .i64 y.n, .slice yad kn yc] 55) := by rw [hw3]; exact heap_alloc_new _ _
        have hBr3 : Below wr.heap.size wr w3 := by rw [hw3]; exact (Below.refl _ _).alloc (Nat.le_refl _) _
        have hsz3 : wr.heap.size < w3.heap.size := (Array.getElem?_eq_some_iff.1 hb3).1
        have hB3 : Below w.heap.size w w3.drew := belowDrew (hBr.trans (hBr3.mono hBr.size))
        have e0 : w3.cell? ⟨wr.heap.size, 0, none⟩ = some (.int .i64 y.k) := (cell_of_blk hb3 0).trans rfl
        have e1 : w3.cell? ⟨wr.heap.size, 1, none⟩ = some (.int .i64 y.n) := (cell_of_blk hb3 1).trans rfl
        have e2 : w3.cell? ⟨wr.heap.size, 2, none⟩ = some (.slice yad kn yc) := (cell_of_blk hb3 2).trans rfl
        have e3 : w3.cell? ⟨w.heap.size, 0, none⟩ = some (.int .i64 xk) := (hBr3.cell (p := ⟨w.heap.size, 0, none⟩) (by show w.heap.size < _; omega)).trans c0
        have e4 : w3.cell? ⟨w.heap.size + 1 + 1 + 1, 2, none⟩ = some (.slice oad al oc) := (hBr3.cell (p := ⟨w.heap.size + 1 + 1 + 1, 2, none⟩) (by show w.heap.size + 1 + 1 + 1 < _; omega)).trans c4
        have e5 : w3.cell? ⟨w.heap.size + 1, 0, none⟩ = some (.int .i64 sxk) := (hBr3.cell (p := ⟨w.heap.size + 1, 0, none⟩) (by show w.heap.size + 1 < _; omega)).trans c5
        have e6 : w3.cell? ⟨w.heap.size + 1, 1, none⟩ = some (.int .i64 sxn) := (hBr3.cell (p := ⟨w.heap.size + 1, 1, none⟩) (by show w.heap.size + 1 < _; omega)).trans c6
        have e7 : w3.cell? ⟨w.heap.size + 1, 2, none⟩ = some (.slice qad QL qc) := (hBr3.cell (p := ⟨w.heap.size + 1, 2, none⟩) (by show w.heap.size + 1 < _; omega)).trans c7
        have HB3 := hide hB3
        have HBr3 := hide hBr3
        have hXO : ¬ wr.heap.size = w.heap.size + 1 + 1 + 1 := by omega
        have hXO' : ¬ w.heap.size + 1 + 1 + 1 = wr.heap.size := by omega
        have hTO : ¬ w.heap.size = w.heap.size + 1 + 1 + 1 := by omega
        have hSO : ¬ w.heap.size + 1 + 1 + 1 = w.heap.size + 1 := by omega
        have hSO' : ¬ w.heap.size + 1 = w.heap.size + 1 + 1 + 1 := by omega
        have HNo : Hid (∀ k, (Value.slice oad al oc).ownBlock = some k → w0.heap.size ≤ k ∧ k < wr.heap.size) := hide (HOw.out.lt)
        have M1 : Hid (al + 1 ≤ maxLen) := hide (by unfold maxLen; omega)
        clear hw3 hb3 hBr3 q0 q1 q2 c0 c4 c5 c6 c7 hB3
        refine wp_region_noPanic ?_
        refine wp_region_held_drew (S := fun w' => w'.cell? ⟨wr.heap.size, 0, none⟩ = some (.int .i64 y.k) ∧ w'.cell? ⟨wr.heap.size, 1, none⟩ = some (.int .i64 y.n) ∧ w'.cell? ⟨wr.heap.size, 2, none⟩ = some (.slice yad kn yc) ∧ w'.cell? ⟨w.heap.size + 1, 0, none⟩ = some (.int .i64 sxk) ∧ w'.cell? ⟨w.heap.size + 1, 1, none⟩ = some (.int .i64 sxn) ∧ w'.cell? ⟨w.heap.size + 1, 2, none⟩ = some (.slice qad QL qc) ∧ w'.cell? ⟨w.heap.size, 0, none⟩ = some (.int .i64 xk)) (by kernel_rfl) ?_ (fun hHeld => ?_)
        · go_keep
        refine wpAnyH_take (i := 0) (oi := _) (v := ?_) rfl (by kernel_rfl) (by kernel_rfl) (by kernel_rfl) (fun _ _ _ h => h) (Or.inl ⟨by rfl, ?_⟩) (by assumption) ?_
        rotate_left
        · intro w hSw; (try dsimp only at hSw); go_simp; try with_reducible rfl
        try simp only [Act.put, List.setIfInBounds_toArray, List.set_cons_zero, List.set_cons_succ]
        refine wpAnyH_take (i := 2) (oi := _) (v := ?_) rfl (by kernel_rfl) (by kernel_rfl) (by kernel_rfl) (fun _ _ _ h => h) (Or.inl ⟨by rfl, ?_⟩) (by assumption) ?_
        rotate_left
        · intro w hSw; (try dsimp only at hSw); go_simp; try with_reducible rfl
        try simp only [Act.put, List.setIfInBounds_toArray, List.set_cons_zero, List.set_cons_succ]
        refine wpAnyH_take (i := 3) (oi := _) (v := ?_) rfl (by kernel_rfl) (by kernel_rfl) (by kernel_rfl) (fun _ _ _ h => h) (Or.inl ⟨by rfl, ?_⟩) (by assumption) ?_
        rotate_left
        · intro w hSw; (try dsimp only at hSw); go_simp; try with_reducible rfl
        try simp only [Act.put, List.setIfInBounds_toArray, List.set_cons_zero, List.set_cons_succ]
        refine wpAnyH_take (i := 4) (oi := _) (v := ?_) rfl (by kernel_rfl) (by kernel_rfl) (by kernel_rfl) (fun _ _ _ h => h) (Or.inl ⟨by rfl, ?_⟩) (by assumption) ?_
        rotate_left
        · intro w hSw; (try dsimp only at hSw); go_simp; try with_reducible rfl
        try simp only [Act.put, List.setIfInBounds_toArray, List.set_cons_zero, List.set_cons_succ]
        refine wpAnyH_take (i := 5) (oi := _) (v := ?_) rfl (by kernel_rfl) (by kernel_rfl) (by kernel_rfl) (fun _ _ _ h => h) (Or.inl ⟨by rfl, ?_⟩) (by assumption) ?_
        rotate_left
        · intro w hSw; (try dsimp only at hSw); go_simp; try with_reducible rfl
        try simp only [Act.put, List.setIfInBounds_toArray, List.set_cons_zero, List.set_cons_succ]
        refine wpAnyH_take (i := 6) (oi := _) (v := ?_) rfl (by kernel_rfl) (by kernel_rfl) (by kernel_rfl) (fun _ _ _ h => h) (Or.inl ⟨by rfl, ?_⟩) (by assumption) ?_
        rotate_left
        · intro w hSw; (try dsimp only at hSw); go_simp; try with_reducible rfl
        try simp only [Act.put, List.setIfInBounds_toArray, List.set_cons_zero, List.set_cons_succ]
        refine wpAnyH_take (i := 7) (oi := _) (v := ?_) rfl (by kernel_rfl) (by kernel_rfl) (by kernel_rfl) (fun _ _ _ h => h) (Or.inl ⟨by rfl, ?_⟩) (by assumption) ?_
        rotate_left
        · intro w hSw; (try dsimp only at hSw); go_simp; try with_reducible rfl
        try simp only [Act.put, List.setIfInBounds_toArray, List.set_cons_zero, List.set_cons_succ]
        refine wpAnyH_take (i := 8) (oi := _) (v := ?_) rfl (by kernel_rfl) (by kernel_rfl) (by kernel_rfl) (fun _ _ _ h => h) (Or.inl ⟨by rfl, ?_⟩) (by assumption) ?_
        rotate_left
        · intro w hSw; (try dsimp only at hSw); go_simp; try with_reducible rfl
        try simp only [Act.put, List.setIfInBounds_toArray, List.set_cons_zero, List.set_cons_succ]
        refine wpAnyH_ready (rs := [1, 9]) (by kernel_rfl) (by simp) ?_
        refine AllReadyH.cons (o := _) rfl (fun K hK => ?_) ?_
        · go_simp
          refine hK.out _ _ ?_ (fun hHeld => ?_)
          · (try dsimp only); go_keep
          clear hK K
          try simp only [Act.put, List.setIfInBounds_toArray, List.set_cons_zero, List.set_cons_succ]
          refine wpAnyH_ready (rs := [9]) (by kernel_rfl) (by simp) ?_
          refine AllReadyH.cons (o := _) rfl (fun K hK => ?_) ?_
          · go_simp
            go_at_call 80; (with_reducible refine Calls.mono (HBi.out _) ?_); rintro e w' ⟨rfl, rfl⟩
            go_wp2_with fail
            refine hK.out _ _ ?_ (fun hHeld => ?_)
            · (try dsimp only); go_keep
            clear hK K
            try simp only [Act.put, List.setIfInBounds_toArray, List.set_cons_zero, List.set_cons_succ]
            refine wpAnyH_take (i := 10) (oi := _) (v := ?_) rfl (by kernel_rfl) (by kernel_rfl) (by kernel_rfl) (fun _ _ _ h => h) (Or.inl ⟨by rfl, ?_⟩) (by assumption) ?_
            rotate_left
            · intro w hSw; (try dsimp only at hSw); go_simp; try with_reducible rfl
            try simp only [Act.put, List.setIfInBounds_toArray, List.set_cons_zero, List.set_cons_succ]
            refine wpAnyH_ready (rs := [11]) (by kernel_rfl) (by simp) ?_
            refine AllReadyH.cons (o := _) rfl (fun K hK => ?_) ?_
            · go_simp
              go_at_call 58; (with_reducible refine Calls.mono (HC.out _ HB3.out) ?_); rintro e w5 ⟨s5, rfl, hs5, hb5⟩; obtain ⟨pad, pc, rfl⟩ := hs5.form; have HS5 := hide hs5; have HB5 := hide hb5; clear hs5 hb5; have f0 := (HB5.out.cell (p := ⟨wr.heap.size, 0, none⟩) hsz3).trans e0; have f1 := (HB5.out.cell (p := ⟨wr.heap.size, 1, none⟩) hsz3).trans e1; have f2 := (HB5.out.cell (p := ⟨wr.heap.size, 2, none⟩) hsz3).trans e2; have f3 := (HB5.out.cell (p := ⟨w.heap.size, 0, none⟩) (show w.heap.size < w3.heap.size by omega)).trans e3; have f4 := (HB5.out.cell (p := ⟨w.heap.size + 1 + 1 + 1, 2, none⟩) (show w.heap.size + 1 + 1 + 1 < w3.heap.size by omega)).trans e4; have fs0 := (HB5.out.cell (p := ⟨w.heap.size + 1, 0, none⟩) (show w.heap.size + 1 < w3.heap.size by omega)).trans e5; have fs1 := (HB5.out.cell (p := ⟨w.heap.size + 1, 1, none⟩) (show w.heap.size + 1 < w3.heap.size by omega)).trans e6; have fs2 := (HB5.out.cell (p := ⟨w.heap.size + 1, 2, none⟩) (show w.heap.size + 1 < w3.heap.size by omega)).trans e7; have f5 : (w5.alloc (.cells #[.int .i64 zz.k, .int .i64 zz.n, .slice pad kk.len pc] 55)).cell? ⟨w.heap.size + 1 + 1 + 1, 2, none⟩ = some (.slice oad al oc) := (by rw [World.cell?_alloc_some _ _ _ (by rw [f4]; rfl)]; exact f4); have HOw5 : Hid ((w5.alloc (.cells #[.int .i64 zz.k, .int .i64 zz.n, .slice pad kk.len pc] 55)).ownsRow w0.heap.size 55 3 (.slice oad al oc) al cs) := hide ((tOwn_keep HOw.out (fun k _ hk => (HB5.out.block k (show k < w3.heap.size by omega)).trans (HBr3.out.block k hk))).alloc _); have HNw : Hid (∀ j u, (tC zz (.slice pad kk.len pc))[j]? = some u → (w5.alloc (.cells #[.int .i64 zz.k, .int .i64 zz.n, .slice pad kk.len pc] 55)).cell? ((⟨w5.heap.size, 0, none⟩ : Addr).add j) = some u) := hide (tC_cells (heap_alloc_new w5 _)); have hsz5 := HB5.out.size; have HBs : Hid (w0.heap.size ≤ (w5.alloc (.cells #[.int .i64 zz.k, .int .i64 zz.n, .slice pad kk.len pc] 55)).heap.size) := hide (by have h1 : w3.heap.size ≤ w5.heap.size := hsz5; simp; omega); have HO15 : Hid ((w5.alloc (.cells #[.int .i64 zz.k, .int .i64 zz.n, .slice pad kk.len pc] 55)).heap[w.heap.size + 1 + 1 + 1]? = some (.cells #[.int .i64 xk, .int .i64 xn, .slice oad al oc] 55 (0, 0))) := hide (by have h1 : w3.heap.size ≤ w5.heap.size := hsz5; rw [heap_alloc_old _ _ (by omega), HB5.out.block _ (show w.heap.size + 1 + 1 + 1 < w3.heap.size by omega)]; exact (HBr3.out.block _ (by omega)).trans HO1.out); have HOl : Hid (w.heap.size + 1 + 1 + 1 < (w5.alloc (.cells #[.int .i64 zz.k, .int .i64 zz.n, .slice pad kk.len pc] 55)).heap.size) := hide (Array.getElem?_eq_some_iff.1 HO15.out).1; have HNn : Hid (some (w.heap.size + 1 + 1 + 1) ≠ (Value.slice oad al oc).ownBlock) := hide (fun e => by have := (HNo.out _ e.symm).1; omega)
              go_wp2_with fail
              refine hK.out _ _ ?_ (fun hHeld => ?_)
              · (try dsimp only); go_keep
              clear hK K
              try simp only [Act.put, List.setIfInBounds_toArray, List.set_cons_zero, List.set_cons_succ]
              refine wpAnyH_ready (rs := [12]) (by kernel_rfl) (by simp) ?_
              refine AllReadyH.cons (o := _) rfl (fun K hK => ?_) ?_
              · go_simp
                refine hK.out _ _ ?_ (fun hHeld => ?_)
                · (try dsimp only); go_keep
                clear hK K
                try simp only [Act.put, List.setIfInBounds_toArray, List.set_cons_zero, List.set_cons_succ]
                refine wpAnyH_ready (rs := [13]) (by kernel_rfl) (by simp) ?_
                refine AllReadyH.cons (o := _) rfl (fun K hK => ?_) ?_
                · refine step_append_lies _ rfl _ _ 53 rfl w0.heap.size 55 i0 (.agg #[.int .i64 0, .int .i64 0, .slice none 0 0]) 3 40 Try.underlying53 Hi.out hz0 hz1 hz2 rfl (by decide) _ al cs rfl HOw5.out ⟨w5.heap.size, 0, none⟩ 1 1 (tC zz (.slice pad kk.len pc)) rfl rfl HNw.out (tC_one _ _ rfl) (by omega) M1.out (by omega) HBs.out _ rfl ?_; intro g6 cap6 w6 hown6 hgrow6 hat6 hlt6; have HO6 := hide hown6; have HG6 := hide hgrow6; have HA6 := hide hat6; have HO16 : Hid (w6.heap[w.heap.size + 1 + 1 + 1]? = some (.cells #[.int .i64 xk, .int .i64 xn, .slice oad al oc] 55 (0, 0))) := hide ((hgrow6.block _ HOl.out HNn.out).trans HO15.out); have f6 := (cell_of_blk HO16.out 2).trans rfl; have ff6 := unfrozen_of_blk HO16.out 2; clear hown6 hgrow6 hat6; have fw0 : w6.cell? ⟨wr.heap.size, 0, none⟩ = some (.int .i64 y.k) := HG6.out.cell (by rw [World.cell?_alloc_some _ _ _ (by rw [f0]; rfl)]; exact f0) (fun e => by have := HNo.out _ e.symm; simp at this; try omega); have fw1 : w6.cell? ⟨wr.heap.size, 1, none⟩ = some (.int .i64 y.n) := HG6.out.cell (by rw [World.cell?_alloc_some _ _ _ (by rw [f1]; rfl)]; exact f1) (fun e => by have := HNo.out _ e.symm; simp at this; try omega); have fw2 : w6.cell? ⟨wr.heap.size, 2, none⟩ = some (.slice yad kn yc) := HG6.out.cell (by rw [World.cell?_alloc_some _ _ _ (by rw [f2]; rfl)]; exact f2) (fun e => by have := HNo.out _ e.symm; simp at this; try omega); have fw3 : w6.cell? ⟨w.heap.size + 1, 0, none⟩ = some (.int .i64 sxk) := HG6.out.cell (by rw [World.cell?_alloc_some _ _ _ (by rw [fs0]; rfl)]; exact fs0) (fun e => by have := HNo.out _ e.symm; simp at this; try omega); have fw4 : w6.cell? ⟨w.heap.size + 1, 1, none⟩ = some (.int .i64 sxn) := HG6.out.cell (by rw [World.cell?_alloc_some _ _ _ (by rw [fs1]; rfl)]; exact fs1) (fun e => by have := HNo.out _ e.symm; simp at this; try omega); have fw5 : w6.cell? ⟨w.heap.size + 1, 2, none⟩ = some (.slice qad QL qc) := HG6.out.cell (by rw [World.cell?_alloc_some _ _ _ (by rw [fs2]; rfl)]; exact fs2) (fun e => by have := HNo.out _ e.symm; simp at this; try omega); have fw6 : w6.cell? ⟨w.heap.size, 0, none⟩ = some (.int .i64 xk) := HG6.out.cell (by rw [World.cell?_alloc_some _ _ _ (by rw [f3]; rfl)]; exact f3) (fun e => by have := HNo.out _ e.symm; simp at this; try omega)
                  refine hK.out _ _ ?_ (fun hHeld => ?_)
                  · (try dsimp only); go_keep
                  clear hK K
                  try simp only [Act.put, List.setIfInBounds_toArray, List.set_cons_zero, List.set_cons_succ]
                  refine wpAnyH_ready (rs := [14]) (by kernel_rfl) (by simp) ?_
                  refine AllReadyH.cons (o := _) rfl (fun K hK => ?_) ?_
                  · go_simp
                    refine hK.out _ _ ?_ (fun hHeld => ?_)
                    · (try dsimp only); go_keep
                    clear hK K
                    try simp only [Act.put, List.setIfInBounds_toArray, List.set_cons_zero, List.set_cons_succ]
                    refine wpAnyH_ready (rs := [15]) (by kernel_rfl) (by simp) ?_
                    refine AllReadyH.cons (o := _) rfl (fun K hK => ?_) ?_
                    · go_simp
                      refine hK.out _ _ ?_ (fun hHeld => ?_)
                      · (try dsimp only); refine ⟨?_, ?_, ?_, ?_, ?_, ?_, ?_⟩ <;> (rw [World.cell?_setCell_far _ _ _ _ (by dsimp only; omega)]; assumption)
                      clear hK K
                      try simp only [Act.put, List.setIfInBounds_toArray, List.set_cons_zero, List.set_cons_succ]
                      refine wpAnyH_done (by kernel_rfl) ?_ _
                      refine NoPanic.normal ?_
                      skip
                      have hrs := hide (row_step (F1 := sbf K ⟨sxk, sxn⟩ sk xk d 0 a) (HBr3.out.trans (show Below wr.heap.size w3 w5 from ⟨HB5.out.os, HB5.out.tape, HB5.out.output, HB5.out.size, fun k hk => HB5.out.block k (show k < w3.heap.size by omega)⟩)) HKs.out (HS5.out.weak (fun g h1 h2 => by have h3 : w3.heap.size ≤ g := h1; omega)) HO6.out HG6.out HA6.out HNo.out (show w.heap.size + 1 + 1 + 1 < w0.heap.size by omega) hszr HO1.out)
                      clear HS5 HB5 f0 f1 f2 f3 f4 f5 HOw5 HNw hsz5 HBs HO15 HOl HNn HO6 HG6 HA6 HO16 f6 ff6 e0 e1 e2 e3 e4 e5 e6 e7 HB3 HBr3 HNo HC HBi hXO hXO' hTO hSO hSO' hw
                      go_wp2_with fail
                      obtain ⟨r1, r2, r3, r4, r5, r6, r7⟩ := hrs.out
                      have hkl2 := HKl2.out
                      refine ⟨⟨a.app (.cons y ky .nil), b, _, cs ++ tC zz (.slice pad kk.len pc), HSn.out, by rw [HDl.out]; go_num, hBr.trans (r7.mono (by omega)), by omega, (r4 _ (by omega) (by omega)).trans HT1.out, (r4 _ (by omega) (by omega)).trans HSb1.out, (r4 _ (by omega) (by omega)).trans HR1.out, r5, by rw [HSh.out]; exact r1, by rw [HDl.out]; exact r2, by rw [HDl.out]; exact r3⟩, by simp [intOf]; omega⟩
                    exact AllReadyH.nil
                  exact AllReadyH.nil
                exact AllReadyH.nil
              exact AllReadyH.nil
            exact AllReadyH.nil
          exact AllReadyH.nil
        refine AllReadyH.cons (o := _) rfl (fun K hK => ?_) ?_
        · go_simp
          go_at_call 80; (with_reducible refine Calls.mono (HBi.out _) ?_); rintro e w' ⟨rfl, rfl⟩
          go_wp2_with fail
          refine hK.out _ _ ?_ (fun hHeld => ?_)
          · (try dsimp only); go_keep
          clear hK K
          try simp only [Act.put, List.setIfInBounds_toArray, List.set_cons_zero, List.set_cons_succ]
          refine wpAnyH_take (i := 10) (oi := _) (v := ?_) rfl (by kernel_rfl) (by kernel_rfl) (by kernel_rfl) (fun _ _ _ h => h) (Or.inl ⟨by rfl, ?_⟩) (by assumption) ?_
          rotate_left
          · intro w hSw; (try dsimp only at hSw); go_simp; try with_reducible rfl
          try simp only [Act.put, List.setIfInBounds_toArray, List.set_cons_zero, List.set_cons_succ]
          refine wpAnyH_ready (rs := [1, 11]) (by kernel_rfl) (by simp) ?_
          refine AllReadyH.cons (o := _) rfl (fun K hK => ?_) ?_
          · go_simp
            refine hK.out _ _ ?_ (fun hHeld => ?_)
            · (try dsimp only); go_keep
            clear hK K
            try simp only [Act.put, List.setIfInBounds_toArray, List.set_cons_zero, List.set_cons_succ]
            refine wpAnyH_ready (rs := [11]) (by kernel_rfl) (by simp) ?_
            refine AllReadyH.cons (o := _) rfl (fun K hK => ?_) ?_
            · go_simp
              go_at_call 58; (with_reducible refine Calls.mono (HC.out _ HB3.out) ?_); rintro e w5 ⟨s5, rfl, hs5, hb5⟩; obtain ⟨pad, pc, rfl⟩ := hs5.form; have HS5 := hide hs5; have HB5 := hide hb5; clear hs5 hb5; have f0 := (HB5.out.cell (p := ⟨wr.heap.size, 0, none⟩) hsz3).trans e0; have f1 := (HB5.out.cell (p := ⟨wr.heap.size, 1, none⟩) hsz3).trans e1; have f2 := (HB5.out.cell (p := ⟨wr.heap.size, 2, none⟩) hsz3).trans e2; have f3 := (HB5.out.cell (p := ⟨w.heap.size, 0, none⟩) (show w.heap.size < w3.heap.size by omega)).trans e3; have f4 := (HB5.out.cell (p := ⟨w.heap.size + 1 + 1 + 1, 2, none⟩) (show w.heap.size + 1 + 1 + 1 < w3.heap.size by omega)).trans e4; have fs0 := (HB5.out.cell (p := ⟨w.heap.size + 1, 0, none⟩) (show w.heap.size + 1 < w3.heap.size by omega)).trans e5; have fs1 := (HB5.out.cell (p := ⟨w.heap.size + 1, 1, none⟩) (show w.heap.size + 1 < w3.heap.size by omega)).trans e6; have fs2 := (HB5.out.cell (p := ⟨w.heap.size + 1, 2, none⟩) (show w.heap.size + 1 < w3.heap.size by omega)).trans e7; have f5 : (w5.alloc (.cells #[.int .i64 zz.k, .int .i64 zz.n, .slice pad kk.len pc] 55)).cell? ⟨w.heap.size + 1 + 1 + 1, 2, none⟩ = some (.slice oad al oc) := (by rw [World.cell?_alloc_some _ _ _ (by rw [f4]; rfl)]; exact f4); have HOw5 : Hid ((w5.alloc (.cells #[.int .i64 zz.k, .int .i64 zz.n, .slice pad kk.len pc] 55)).ownsRow w0.heap.size 55 3 (.slice oad al oc) al cs) := hide ((tOwn_keep HOw.out (fun k _ hk => (HB5.out.block k (show k < w3.heap.size by omega)).trans (HBr3.out.block k hk))).alloc _); have HNw : Hid (∀ j u, (tC zz (.slice pad kk.len pc))[j]? = some u → (w5.alloc (.cells #[.int .i64 zz.k, .int .i64 zz.n, .slice pad kk.len pc] 55)).cell? ((⟨w5.heap.size, 0, none⟩ : Addr).add j) = some u) := hide (tC_cells (heap_alloc_new w5 _)); have hsz5 := HB5.out.size; have HBs : Hid (w0.heap.size ≤ (w5.alloc (.cells #[.int .i64 zz.k, .int .i64 zz.n, .slice pad kk.len pc] 55)).heap.size) := hide (by have h1 : w3.heap.size ≤ w5.heap.size := hsz5; simp; omega); have HO15 : Hid ((w5.alloc (.cells #[.int .i64 zz.k, .int .i64 zz.n, .slice pad kk.len pc] 55)).heap[w.heap.size + 1 + 1 + 1]? = some (.cells #[.int .i64 xk, .int .i64 xn, .slice oad al oc] 55 (0, 0))) := hide (by have h1 : w3.heap.size ≤ w5.heap.size := hsz5; rw [heap_alloc_old _ _ (by omega), HB5.out.block _ (show w.heap.size + 1 + 1 + 1 < w3.heap.size by omega)]; exact (HBr3.out.block _ (by omega)).trans HO1.out); have HOl : Hid (w.heap.size + 1 + 1 + 1 < (w5.alloc (.cells #[.int .i64 zz.k, .int .i64 zz.n, .slice pad kk.len pc] 55)).heap.size) := hide (Array.getElem?_eq_some_iff.1 HO15.out).1; have HNn : Hid (some (w.heap.size + 1 + 1 + 1) ≠ (Value.slice oad al oc).ownBlock) := hide (fun e => by have := (HNo.out _ e.symm).1; omega)
              go_wp2_with fail
              refine hK.out _ _ ?_ (fun hHeld => ?_)
              · (try dsimp only); go_keep
              clear hK K
              try simp only [Act.put, List.setIfInBounds_toArray, List.set_cons_zero, List.set_cons_succ]
              refine wpAnyH_ready (rs := [12]) (by kernel_rfl) (by simp) ?_
              refine AllReadyH.cons (o := _) rfl (fun K hK => ?_) ?_
              · go_simp
                refine hK.out _ _ ?_ (fun hHeld => ?_)
                · (try dsimp only); go_keep
                clear hK K
                try simp only [Act.put, List.setIfInBounds_toArray, List.set_cons_zero, List.set_cons_succ]
                refine wpAnyH_ready (rs := [13]) (by kernel_rfl) (by simp) ?_
                refine AllReadyH.cons (o := _) rfl (fun K hK => ?_) ?_
                · refine step_append_lies _ rfl _ _ 53 rfl w0.heap.size 55 i0 (.agg #[.int .i64 0, .int .i64 0, .slice none 0 0]) 3 40 Try.underlying53 Hi.out hz0 hz1 hz2 rfl (by decide) _ al cs rfl HOw5.out ⟨w5.heap.size, 0, none⟩ 1 1 (tC zz (.slice pad kk.len pc)) rfl rfl HNw.out (tC_one _ _ rfl) (by omega) M1.out (by omega) HBs.out _ rfl ?_; intro g6 cap6 w6 hown6 hgrow6 hat6 hlt6; have HO6 := hide hown6; have HG6 := hide hgrow6; have HA6 := hide hat6; have HO16 : Hid (w6.heap[w.heap.size + 1 + 1 + 1]? = some (.cells #[.int .i64 xk, .int .i64 xn, .slice oad al oc] 55 (0, 0))) := hide ((hgrow6.block _ HOl.out HNn.out).trans HO15.out); have f6 := (cell_of_blk HO16.out 2).trans rfl; have ff6 := unfrozen_of_blk HO16.out 2; clear hown6 hgrow6 hat6; have fw0 : w6.cell? ⟨wr.heap.size, 0, none⟩ = some (.int .i64 y.k) := HG6.out.cell (by rw [World.cell?_alloc_some _ _ _ (by rw [f0]; rfl)]; exact f0) (fun e => by have := HNo.out _ e.symm; simp at this; try omega); have fw1 : w6.cell? ⟨wr.heap.size, 1, none⟩ = some (.int .i64 y.n) := HG6.out.cell (by rw [World.cell?_alloc_some _ _ _ (by rw [f1]; rfl)]; exact f1) (fun e => by have := HNo.out _ e.symm; simp at this; try omega); have fw2 : w6.cell? ⟨wr.heap.size, 2, none⟩ = some (.slice yad kn yc) := HG6.out.cell (by rw [World.cell?_alloc_some _ _ _ (by rw [f2]; rfl)]; exact f2) (fun e => by have := HNo.out _ e.symm; simp at this; try omega); have fw3 : w6.cell? ⟨w.heap.size + 1, 0, none⟩ = some (.int .i64 sxk) := HG6.out.cell (by rw [World.cell?_alloc_some _ _ _ (by rw [fs0]; rfl)]; exact fs0) (fun e => by have := HNo.out _ e.symm; simp at this; try omega); have fw4 : w6.cell? ⟨w.heap.size + 1, 1, none⟩ = some (.int .i64 sxn) := HG6.out.cell (by rw [World.cell?_alloc_some _ _ _ (by rw [fs1]; rfl)]; exact fs1) (fun e => by have := HNo.out _ e.symm; simp at this; try omega); have fw5 : w6.cell? ⟨w.heap.size + 1, 2, none⟩ = some (.slice qad QL qc) := HG6.out.cell (by rw [World.cell?_alloc_some _ _ _ (by rw [fs2]; rfl)]; exact fs2) (fun e => by have := HNo.out _ e.symm; simp at this; try omega); have fw6 : w6.cell? ⟨w.heap.size, 0, none⟩ = some (.int .i64 xk) := HG6.out.cell (by rw [World.cell?_alloc_some _ _ _ (by rw [f3]; rfl)]; exact f3) (fun e => by have := HNo.out _ e.symm; simp at this; try omega)
                  refine hK.out _ _ ?_ (fun hHeld => ?_)
                  · (try dsimp only); go_keep
                  clear hK K
                  try simp only [Act.put, List.setIfInBounds_toArray, List.set_cons_zero, List.set_cons_succ]
                  refine wpAnyH_ready (rs := [14]) (by kernel_rfl) (by simp) ?_
                  refine AllReadyH.cons (o := _) rfl (fun K hK => ?_) ?_
                  · go_simp
                    refine hK.out _ _ ?_ (fun hHeld => ?_)
                    · (try dsimp only); go_keep
                    clear hK K
                    try simp only [Act.put, List.setIfInBounds_toArray, List.set_cons_zero, List.set_cons_succ]
                    refine wpAnyH_ready (rs := [15]) (by kernel_rfl) (by simp) ?_
                    refine AllReadyH.cons (o := _) rfl (fun K hK => ?_) ?_
                    · go_simp
                      refine hK.out _ _ ?_ (fun hHeld => ?_)
                      · (try dsimp only); refine ⟨?_, ?_, ?_, ?_, ?_, ?_, ?_⟩ <;> (rw [World.cell?_setCell_far _ _ _ _ (by dsimp only; omega)]; assumption)
                      clear hK K
                      try simp only [Act.put, List.setIfInBounds_toArray, List.set_cons_zero, List.set_cons_succ]
                      refine wpAnyH_done (by kernel_rfl) ?_ _
                      refine NoPanic.normal ?_
                      skip
                      have hrs := hide (row_step (F1 := sbf K ⟨sxk, sxn⟩ sk xk d 0 a) (HBr3.out.trans (show Below wr.heap.size w3 w5 from ⟨HB5.out.os, HB5.out.tape, HB5.out.output, HB5.out.size, fun k hk => HB5.out.block k (show k < w3.heap.size by omega)⟩)) HKs.out (HS5.out.weak (fun g h1 h2 => by have h3 : w3.heap.size ≤ g := h1; omega)) HO6.out HG6.out HA6.out HNo.out (show w.heap.size + 1 + 1 + 1 < w0.heap.size by omega) hszr HO1.out)
                      clear HS5 HB5 f0 f1 f2 f3 f4 f5 HOw5 HNw hsz5 HBs HO15 HOl HNn HO6 HG6 HA6 HO16 f6 ff6 e0 e1 e2 e3 e4 e5 e6 e7 HB3 HBr3 HNo HC HBi hXO hXO' hTO hSO hSO' hw
                      go_wp2_with fail
                      obtain ⟨r1, r2, r3, r4, r5, r6, r7⟩ := hrs.out
                      have hkl2 := HKl2.out
                      refine ⟨⟨a.app (.cons y ky .nil), b, _, cs ++ tC zz (.slice pad kk.len pc), HSn.out, by rw [HDl.out]; go_num, hBr.trans (r7.mono (by omega)), by omega, (r4 _ (by omega) (by omega)).trans HT1.out, (r4 _ (by omega) (by omega)).trans HSb1.out, (r4 _ (by omega) (by omega)).trans HR1.out, r5, by rw [HSh.out]; exact r1, by rw [HDl.out]; exact r2, by rw [HDl.out]; exact r3⟩, by simp [intOf]; omega⟩
                    exact AllReadyH.nil
                  exact AllReadyH.nil
                exact AllReadyH.nil
              exact AllReadyH.nil
            exact AllReadyH.nil
          refine AllReadyH.cons (o := _) rfl (fun K hK => ?_) ?_
          · go_simp
            go_at_call 58; (with_reducible refine Calls.mono (HC.out _ HB3.out) ?_); rintro e w5 ⟨s5, rfl, hs5, hb5⟩; obtain ⟨pad, pc, rfl⟩ := hs5.form; have HS5 := hide hs5; have HB5 := hide hb5; clear hs5 hb5; have f0 := (HB5.out.cell (p := ⟨wr.heap.size, 0, none⟩) hsz3).trans e0; have f1 := (HB5.out.cell (p := ⟨wr.heap.size, 1, none⟩) hsz3).trans e1; have f2 := (HB5.out.cell (p := ⟨wr.heap.size, 2, none⟩) hsz3).trans e2; have f3 := (HB5.out.cell (p := ⟨w.heap.size, 0, none⟩) (show w.heap.size < w3.heap.size by omega)).trans e3; have f4 := (HB5.out.cell (p := ⟨w.heap.size + 1 + 1 + 1, 2, none⟩) (show w.heap.size + 1 + 1 + 1 < w3.heap.size by omega)).trans e4; have fs0 := (HB5.out.cell (p := ⟨w.heap.size + 1, 0, none⟩) (show w.heap.size + 1 < w3.heap.size by omega)).trans e5; have fs1 := (HB5.out.cell (p := ⟨w.heap.size + 1, 1, none⟩) (show w.heap.size + 1 < w3.heap.size by omega)).trans e6; have fs2 := (HB5.out.cell (p := ⟨w.heap.size + 1, 2, none⟩) (show w.heap.size + 1 < w3.heap.size by omega)).trans e7; have f5 : (w5.alloc (.cells #[.int .i64 zz.k, .int .i64 zz.n, .slice pad kk.len pc] 55)).cell? ⟨w.heap.size + 1 + 1 + 1, 2, none⟩ = some (.slice oad al oc) := (by rw [World.cell?_alloc_some _ _ _ (by rw [f4]; rfl)]; exact f4); have HOw5 : Hid ((w5.alloc (.cells #[.int .i64 zz.k, .int .i64 zz.n, .slice pad kk.len pc] 55)).ownsRow w0.heap.size 55 3 (.slice oad al oc) al cs) := hide ((tOwn_keep HOw.out (fun k _ hk => (HB5.out.block k (show k < w3.heap.size by omega)).trans (HBr3.out.block k hk))).alloc _); have HNw : Hid (∀ j u, (tC zz (.slice pad kk.len pc))[j]? = some u → (w5.alloc (.cells #[.int .i64 zz.k, .int .i64 zz.n, .slice pad kk.len pc] 55)).cell? ((⟨w5.heap.size, 0, none⟩ : Addr).add j) = some u) := hide (tC_cells (heap_alloc_new w5 _)); have hsz5 := HB5.out.size; have HBs : Hid (w0.heap.size ≤ (w5.alloc (.cells #[.int .i64 zz.k, .int .i64 zz.n, .slice pad kk.len pc] 55)).heap.size) := hide (by have h1 : w3.heap.size ≤ w5.heap.size := hsz5; simp; omega); have HO15 : Hid ((w5.alloc (.cells #[.int .i64 zz.k, .int .i64 zz.n, .slice pad kk.len pc] 55)).heap[w.heap.size + 1 + 1 + 1]? = some (.cells #[.int .i64 xk, .int .i64 xn, .slice oad al oc] 55 (0, 0))) := hide (by have h1 : w3.heap.size ≤ w5.heap.size := hsz5; rw [heap_alloc_old _ _ (by omega), HB5.out.block _ (show w.heap.size + 1 + 1 + 1 < w3.heap.size by omega)]; exact (HBr3.out.block _ (by omega)).trans HO1.out); have HOl : Hid (w.heap.size + 1 + 1 + 1 < (w5.alloc (.cells #[.int .i64 zz.k, .int .i64 zz.n, .slice pad kk.len pc] 55)).heap.size) := hide (Array.getElem?_eq_some_iff.1 HO15.out).1; have HNn : Hid (some (w.heap.size + 1 + 1 + 1) ≠ (Value.slice oad al oc).ownBlock) := hide (fun e => by have := (HNo.out _ e.symm).1; omega)
            go_wp2_with fail
            refine hK.out _ _ ?_ (fun hHeld => ?_)
            · (try dsimp only); go_keep
            clear hK K
            try simp only [Act.put, List.setIfInBounds_toArray, List.set_cons_zero, List.set_cons_succ]
            refine wpAnyH_ready (rs := [1, 12]) (by kernel_rfl) (by simp) ?_
            refine AllReadyH.cons (o := _) rfl (fun K hK => ?_) ?_
            · go_simp
              refine hK.out _ _ ?_ (fun hHeld => ?_)
              · (try dsimp only); go_keep
              clear hK K
              try simp only [Act.put, List.setIfInBounds_toArray, List.set_cons_zero, List.set_cons_succ]
              refine wpAnyH_ready (rs := [12]) (by kernel_rfl) (by simp) ?_
              refine AllReadyH.cons (o := _) rfl (fun K hK => ?_) ?_
              · go_simp
                refine hK.out _ _ ?_ (fun hHeld => ?_)
                · (try dsimp only); go_keep
                clear hK K
                try simp only [Act.put, List.setIfInBounds_toArray, List.set_cons_zero, List.set_cons_succ]
                refine wpAnyH_ready (rs := [13]) (by kernel_rfl) (by simp) ?_
                refine AllReadyH.cons (o := _) rfl (fun K hK => ?_) ?_
                · refine step_append_lies _ rfl _ _ 53 rfl w0.heap.size 55 i0 (.agg #[.int .i64 0, .int .i64 0, .slice none 0 0]) 3 40 Try.underlying53 Hi.out hz0 hz1 hz2 rfl (by decide) _ al cs rfl HOw5.out ⟨w5.heap.size, 0, none⟩ 1 1 (tC zz (.slice pad kk.len pc)) rfl rfl HNw.out (tC_one _ _ rfl) (by omega) M1.out (by omega) HBs.out _ rfl ?_; intro g6 cap6 w6 hown6 hgrow6 hat6 hlt6; have HO6 := hide hown6; have HG6 := hide hgrow6; have HA6 := hide hat6; have HO16 : Hid (w6.heap[w.heap.size + 1 + 1 + 1]? = some (.cells #[.int .i64 xk, .int .i64 xn, .slice oad al oc] 55 (0, 0))) := hide ((hgrow6.block _ HOl.out HNn.out).trans HO15.out); have f6 := (cell_of_blk HO16.out 2).trans rfl; have ff6 := unfrozen_of_blk HO16.out 2; clear hown6 hgrow6 hat6; have fw0 : w6.cell? ⟨wr.heap.size, 0, none⟩ = some (.int .i64 y.k) := HG6.out.cell (by rw [World.cell?_alloc_some _ _ _ (by rw [f0]; rfl)]; exact f0) (fun e => by have := HNo.out _ e.symm; simp at this; try omega); have fw1 : w6.cell? ⟨wr.heap.size, 1, none⟩ = some (.int .i64 y.n) := HG6.out.cell (by rw [World.cell?_alloc_some _ _ _ (by rw [f1]; rfl)]; exact f1) (fun e => by have := HNo.out _ e.symm; simp at this; try omega); have fw2 : w6.cell? ⟨wr.heap.size, 2, none⟩ = some (.slice yad kn yc) := HG6.out.cell (by rw [World.cell?_alloc_some _ _ _ (by rw [f2]; rfl)]; exact f2) (fun e => by have := HNo.out _ e.symm; simp at this; try omega); have fw3 : w6.cell? ⟨w.heap.size + 1, 0, none⟩ = some (.int .i64 sxk) := HG6.out.cell (by rw [World.cell?_alloc_some _ _ _ (by rw [fs0]; rfl)]; exact fs0) (fun e => by have := HNo.out _ e.symm; simp at this; try omega); have fw4 : w6.cell? ⟨w.heap.size + 1, 1, none⟩ = some (.int .i64 sxn) := HG6.out.cell (by rw [World.cell?_alloc_some _ _ _ (by rw [fs1]; rfl)]; exact fs1) (fun e => by have := HNo.out _ e.symm; simp at this; try omega); have fw5 : w6.cell? ⟨w.heap.size + 1, 2, none⟩ = some (.slice qad QL qc) := HG6.out.cell (by rw [World.cell?_alloc_some _ _ _ (by rw [fs2]; rfl)]; exact fs2) (fun e => by have := HNo.out _ e.symm; simp at this; try omega); have fw6 : w6.cell? ⟨w.heap.size, 0, none⟩ = some (.int .i64 xk) := HG6.out.cell (by rw [World.cell?_alloc_some _ _ _ (by rw [f3]; rfl)]; exact f3) (fun e => by have := HNo.out _ e.symm; simp at this; try omega)
                  refine hK.out _ _ ?_ (fun hHeld => ?_)
                  · (try dsimp only); go_keep
                  clear hK K
                  try simp only [Act.put, List.setIfInBounds_toArray, List.set_cons_zero, List.set_cons_succ]
                  refine wpAnyH_ready (rs := [14]) (by kernel_rfl) (by simp) ?_
                  refine AllReadyH.cons (o := _) rfl (fun K hK => ?_) ?_
                  · go_simp
                    refine hK.out _ _ ?_ (fun hHeld => ?_)
                    · (try dsimp only); go_keep
                    clear hK K
                    try simp only [Act.put, List.setIfInBounds_toArray, List.set_cons_zero, List.set_cons_succ]
                    refine wpAnyH_ready (rs := [15]) (by kernel_rfl) (by simp) ?_
                    refine AllReadyH.cons (o := _) rfl (fun K hK => ?_) ?_
                    · go_simp
                      refine hK.out _ _ ?_ (fun hHeld => ?_)
                      · (try dsimp only); refine ⟨?_, ?_, ?_, ?_, ?_, ?_, ?_⟩ <;> (rw [World.cell?_setCell_far _ _ _ _ (by dsimp only; omega)]; assumption)
                      clear hK K
                      try simp only [Act.put, List.setIfInBounds_toArray, List.set_cons_zero, List.set_cons_succ]
                      refine wpAnyH_done (by kernel_rfl) ?_ _
                      refine NoPanic.normal ?_
                      skip
                      have hrs := hide (row_step (F1 := sbf K ⟨sxk, sxn⟩ sk xk d 0 a) (HBr3.out.trans (show Below wr.heap.size w3 w5 from ⟨HB5.out.os, HB5.out.tape, HB5.out.output, HB5.out.size, fun k hk => HB5.out.block k (show k < w3.heap.size by omega)⟩)) HKs.out (HS5.out.weak (fun g h1 h2 => by have h3 : w3.heap.size ≤ g := h1; omega)) HO6.out HG6.out HA6.out HNo.out (show w.heap.size + 1 + 1 + 1 < w0.heap.size by omega) hszr HO1.out)
                      clear HS5 HB5 f0 f1 f2 f3 f4 f5 HOw5 HNw hsz5 HBs HO15 HOl HNn HO6 HG6 HA6 HO16 f6 ff6 e0 e1 e2 e3 e4 e5 e6 e7 HB3 HBr3 HNo HC HBi hXO hXO' hTO hSO hSO' hw
                      go_wp2_with fail
                      obtain ⟨r1, r2, r3, r4, r5, r6, r7⟩ := hrs.out
                      have hkl2 := HKl2.out
                      refine ⟨⟨a.app (.cons y ky .nil), b, _, cs ++ tC zz (.slice pad kk.len pc), HSn.out, by rw [HDl.out]; go_num, hBr.trans (r7.mono (by omega)), by omega, (r4 _ (by omega) (by omega)).trans HT1.out, (r4 _ (by omega) (by omega)).trans HSb1.out, (r4 _ (by omega) (by omega)).trans HR1.out, r5, by rw [HSh.out]; exact r1, by rw [HDl.out]; exact r2, by rw [HDl.out]; exact r3⟩, by simp [intOf]; omega⟩
                    exact AllReadyH.nil
                  exact AllReadyH.nil
                exact AllReadyH.nil
              exact AllReadyH.nil
            refine AllReadyH.cons (o := _) rfl (fun K hK => ?_) ?_
            · go_simp
              refine hK.out _ _ ?_ (fun hHeld => ?_)
              · (try dsimp only); go_keep
              clear hK K
              try simp only [Act.put, List.setIfInBounds_toArray, List.set_cons_zero, List.set_cons_succ]
              refine wpAnyH_ready (rs := [1]) (by kernel_rfl) (by simp) ?_
              refine AllReadyH.cons (o := _) rfl (fun K hK => ?_) ?_
              · go_simp
                refine hK.out _ _ ?_ (fun hHeld => ?_)
                · (try dsimp only); go_keep
                clear hK K
                try simp only [Act.put, List.setIfInBounds_toArray, List.set_cons_zero, List.set_cons_succ]
                refine wpAnyH_ready (rs := [13]) (by kernel_rfl) (by simp) ?_
                refine AllReadyH.cons (o := _) rfl (fun K hK => ?_) ?_
                · refine step_append_lies _ rfl _ _ 53 rfl w0.heap.size 55 i0 (.agg #[.int .i64 0, .int .i64 0, .slice none 0 0]) 3 40 Try.underlying53 Hi.out hz0 hz1 hz2 rfl (by decide) _ al cs rfl HOw5.out ⟨w5.heap.size, 0, none⟩ 1 1 (tC zz (.slice pad kk.len pc)) rfl rfl HNw.out (tC_one _ _ rfl) (by omega) M1.out (by omega) HBs.out _ rfl ?_; intro g6 cap6 w6 hown6 hgrow6 hat6 hlt6; have HO6 := hide hown6; have HG6 := hide hgrow6; have HA6 := hide hat6; have HO16 : Hid (w6.heap[w.heap.size + 1 + 1 + 1]? = some (.cells #[.int .i64 xk, .int .i64 xn, .slice oad al oc] 55 (0, 0))) := hide ((hgrow6.block _ HOl.out HNn.out).trans HO15.out); have f6 := (cell_of_blk HO16.out 2).trans rfl; have ff6 := unfrozen_of_blk HO16.out 2; clear hown6 hgrow6 hat6; have fw0 : w6.cell? ⟨wr.heap.size, 0, none⟩ = some (.int .i64 y.k) := HG6.out.cell (by rw [World.cell?_alloc_some _ _ _ (by rw [f0]; rfl)]; exact f0) (fun e => by have := HNo.out _ e.symm; simp at this; try omega); have fw1 : w6.cell? ⟨wr.heap.size, 1, none⟩ = some (.int .i64 y.n) := HG6.out.cell (by rw [World.cell?_alloc_some _ _ _ (by rw [f1]; rfl)]; exact f1) (fun e => by have := HNo.out _ e.symm; simp at this; try omega); have fw2 : w6.cell? ⟨wr.heap.size, 2, none⟩ = some (.slice yad kn yc) := HG6.out.cell (by rw [World.cell?_alloc_some _ _ _ (by rw [f2]; rfl)]; exact f2) (fun e => by have := HNo.out _ e.symm; simp at this; try omega); have fw3 : w6.cell? ⟨w.heap.size + 1, 0, none⟩ = some (.int .i64 sxk) := HG6.out.cell (by rw [World.cell?_alloc_some _ _ _ (by rw [fs0]; rfl)]; exact fs0) (fun e => by have := HNo.out _ e.symm; simp at this; try omega); have fw4 : w6.cell? ⟨w.heap.size + 1, 1, none⟩ = some (.int .i64 sxn) := HG6.out.cell (by rw [World.cell?_alloc_some _ _ _ (by rw [fs1]; rfl)]; exact fs1) (fun e => by have := HNo.out _ e.symm; simp at this; try omega); have fw5 : w6.cell? ⟨w.heap.size + 1, 2, none⟩ = some (.slice qad QL qc) := HG6.out.cell (by rw [World.cell?_alloc_some _ _ _ (by rw [fs2]; rfl)]; exact fs2) (fun e => by have := HNo.out _ e.symm; simp at this; try omega); have fw6 : w6.cell? ⟨w.heap.size, 0, none⟩ = some (.int .i64 xk) := HG6.out.cell (by rw [World.cell?_alloc_some _ _ _ (by rw [f3]; rfl)]; exact f3) (fun e => by have := HNo.out _ e.symm; simp at this; try omega)
                  refine hK.out _ _ ?_ (fun hHeld => ?_)
                  · (try dsimp only); go_keep
                  clear hK K
                  try simp only [Act.put, List.setIfInBounds_toArray, List.set_cons_zero, List.set_cons_succ]
                  refine wpAnyH_ready (rs := [14]) (by kernel_rfl) (by simp) ?_
                  refine AllReadyH.cons (o := _) rfl (fun K hK => ?_) ?_
                  · go_simp
                    refine hK.out _ _ ?_ (fun hHeld => ?_)
                    · (try dsimp only); go_keep
                    clear hK K
                    try simp only [Act.put, List.setIfInBounds_toArray, List.set_cons_zero, List.set_cons_succ]
                    refine wpAnyH_ready (rs := [15]) (by kernel_rfl) (by simp) ?_
                    refine AllReadyH.cons (o := _) rfl (fun K hK => ?_) ?_
                    · go_simp
                      refine hK.out _ _ ?_ (fun hHeld => ?_)
                      · (try dsimp only); refine ⟨?_, ?_, ?_, ?_, ?_, ?_, ?_⟩ <;> (rw [World.cell?_setCell_far _ _ _ _ (by dsimp only; omega)]; assumption)
                      clear hK K
                      try simp only [Act.put, List.setIfInBounds_toArray, List.set_cons_zero, List.set_cons_succ]
                      refine wpAnyH_done (by kernel_rfl) ?_ _
                      refine NoPanic.normal ?_
                      skip
                      have hrs := hide (row_step (F1 := sbf K ⟨sxk, sxn⟩ sk xk d 0 a) (HBr3.out.trans (show Below wr.heap.size w3 w5 from ⟨HB5.out.os, HB5.out.tape, HB5.out.output, HB5.out.size, fun k hk => HB5.out.block k (show k < w3.heap.size by omega)⟩)) HKs.out (HS5.out.weak (fun g h1 h2 => by have h3 : w3.heap.size ≤ g := h1; omega)) HO6.out HG6.out HA6.out HNo.out (show w.heap.size + 1 + 1 + 1 < w0.heap.size by omega) hszr HO1.out)
                      clear HS5 HB5 f0 f1 f2 f3 f4 f5 HOw5 HNw hsz5 HBs HO15 HOl HNn HO6 HG6 HA6 HO16 f6 ff6 e0 e1 e2 e3 e4 e5 e6 e7 HB3 HBr3 HNo HC HBi hXO hXO' hTO hSO hSO' hw
                      go_wp2_with fail
                      obtain ⟨r1, r2, r3, r4, r5, r6, r7⟩ := hrs.out
                      have hkl2 := HKl2.out
                      refine ⟨⟨a.app (.cons y ky .nil), b, _, cs ++ tC zz (.slice pad kk.len pc), HSn.out, by rw [HDl.out]; go_num, hBr.trans (r7.mono (by omega)), by omega, (r4 _ (by omega) (by omega)).trans HT1.out, (r4 _ (by omega) (by omega)).trans HSb1.out, (r4 _ (by omega) (by omega)).trans HR1.out, r5, by rw [HSh.out]; exact r1, by rw [HDl.out]; exact r2, by rw [HDl.out]; exact r3⟩, by simp [intOf]; omega⟩
                    exact AllReadyH.nil
                  exact AllReadyH.nil
                exact AllReadyH.nil
              exact AllReadyH.nil
            exact AllReadyH.nil
          exact AllReadyH.nil
        exact AllReadyH.nil
end Go.Proofs.Ytjmgnljjeogdlaa.W

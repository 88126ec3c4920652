/-
  Some texts of this proof in one: WkTeN, WkTeU, HnK.
-/
import Derived.Test.YtnmkbpflbfhpnaaGreatJ07
import Derived.Test.YtnmkbpflbfhpnaaGreatJ08
import Derived.Test.YtnmkbpflbfhpnaaGreatJ09
import Derived.Test.YtnmkbpflbfhpnaaGreatJ06
import Derived.Deep.RegionLaw
/-
  TeN for terms whose variables may be up to 900000 (written by build/weak.py).
-/
namespace Go.Proofs.YtnmkbpflbfhpnaaGreat.V
open Go.Proofs.YtnmkbpflbfhpnaaGreat.W
open Go.ChangeShapes Go.WideShapes Go.ChangeAt Go.RowKit
set_option linter.unusedVariables false
end Go.Proofs.YtnmkbpflbfhpnaaGreat.V

/-
  TeU for terms whose variables may be up to 900000 (written by build/weak.py).
-/
namespace Go.Proofs.YtnmkbpflbfhpnaaGreat.V
open Go.Proofs.YtnmkbpflbfhpnaaGreat.W
open Go.ChangeShapes Go.WideShapes Go.ChangeAt Go.RowKit
set_option linter.unusedVariables false

def L3HGoal (k : F) : Prop := ∀ (x : Cc) (s : Value) (by_ : Int) (f : Nat) (P : Nat → Prop) (w : World), -1000000 ≤ x.n → x.n ≤ 1000000 → -1000 ≤ by_ → by_ ≤ 1000 → k.len = ar x.k → k.okw → f + k.flat.length ≤ 2000000 → KidT w P k s →
    Calls Tryz.prog 67 #[.agg #[.int .i64 x.k, .int .i64 x.n, s], .int .i64 by_, .int .i64 (f : Int)] w fun e w' => ∃ s', e = .returned (.agg #[.int .i64 (shc by_ f x).k, .int .i64 (shc by_ f x).n, s']) ∧ KidT w' (fun g => w.heap.size ≤ g) (shf by_ x.k f 0 k) s' ∧ Below w.heap.size w w'

set_option maxRecDepth 20000 in
set_option maxHeartbeats 8000000 in
theorem l3Shift_any : ∀ k, L3HGoal k := by
  apply F.rec_kids
  intro k ih x s by_ f P w hn1 hn2 hb1 hb2 hka hko hd hT
  have IH := hide ih
  have HT := hide hT
  have HKO := hide hko
  obtain ⟨sad, sc, rfl⟩ := hT.form
  clear ih hT hko
  obtain ⟨i0, hi0, hz0, hz1, hz2⟩ := infoPartsT infoT
  have Hi := hide hi0
  clear hi0
  have hkl := F.len_flat k
  obtain ⟨KL, hKL⟩ : ∃ KL, KL = k.len := ⟨_, rfl⟩
  rw [← hKL] at HT hkl ⊢
  have HKL := hide hKL
  clear hKL
  obtain ⟨xk, xn⟩ := x
  simp only at *
  obtain ⟨z, hz⟩ : ∃ z, z = shc by_ f ⟨xk, xn⟩ := ⟨_, rfl⟩
  rw [← hz]
  by_cases hx0 : xk = 1
  · subst hx0
    have hk0 : k = .nil := F.len_0 (by rw [hka]; rfl)
    subst hk0
    obtain rfl : KL = 0 := HKL.out
    clear HKL hka hkl IH
    by_cases hx1 : (f : Int) ≤ xn
    · have hz' : z = ⟨1, xn + by_⟩ := by rw [hz]; exact if_pos ⟨rfl, hx1⟩
      subst hz'
      clear hz
      go_enter Tryz.func67, Tryz.ntmps67
      go_wp2_with fail
      go_loopw [32] (fun i w' => i = .int .i64 0 ∧ w' = (((w.alloc (.cells #[.int .i64 1, .int .i64 xn, .slice sad 0 sc] 50)).alloc (.cells #[.int .i64 0, .int .i64 0, .slice none 0 0] 50)).alloc (.cells #[.int .i64 1, .int .i64 (xn + by_), .slice none 0 0] 50))) (fun _ _ => 0)
      case atStart => exact ⟨rfl, rfl⟩
      case round =>
        obtain ⟨rfl, rfl⟩ := hrel
        go_wp2_with fail
        exact bodyPost_ret (v := .agg #[.int .i64 1, .int .i64 (xn + by_), .slice none 0 0]) (by simp [results, Tryz.results67, go_sem]) rfl ⟨_, rfl, KidT.nil, (((Below.refl _ _).alloc (Nat.le_refl _) _).alloc (by simp) _).alloc (by simp; omega) _⟩
    · have hz' : z = ⟨1, xn⟩ := by rw [hz]; exact if_neg (fun h => hx1 h.2)
      subst hz'
      clear hz
      go_enter Tryz.func67, Tryz.ntmps67
      go_wp2_with fail
      go_loopw [32] (fun i w' => i = .int .i64 0 ∧ w' = (((w.alloc (.cells #[.int .i64 1, .int .i64 xn, .slice sad 0 sc] 50)).alloc (.cells #[.int .i64 0, .int .i64 0, .slice none 0 0] 50)).alloc (.cells #[.int .i64 1, .int .i64 (xn), .slice none 0 0] 50))) (fun _ _ => 0)
      case atStart => exact ⟨rfl, rfl⟩
      case round =>
        obtain ⟨rfl, rfl⟩ := hrel
        go_wp2_with fail
        exact bodyPost_ret (v := .agg #[.int .i64 1, .int .i64 (xn), .slice none 0 0]) (by simp [results, Tryz.results67, go_sem]) rfl ⟨_, rfl, KidT.nil, (((Below.refl _ _).alloc (Nat.le_refl _) _).alloc (by simp) _).alloc (by simp; omega) _⟩
  · have hz' : z = ⟨xk, xn⟩ := by rw [hz]; exact if_neg (fun h => hx0 h.1)
    subst hz'
    clear hz hka
    go_enter Tryz.func67, Tryz.ntmps67
    go_wp2_with fail
    obtain ⟨T0, hT0⟩ : ∃ T0, T0 = w.heap.size := ⟨_, rfl⟩
    obtain ⟨w0, hw0⟩ : ∃ w0, w0 = (((w.alloc (.cells #[.int .i64 xk, .int .i64 xn, .slice sad KL sc] 50)).alloc (.cells #[.int .i64 0, .int .i64 0, .slice none 0 0] 50)).alloc (.cells #[.int .i64 xk, .int .i64 xn, .slice none 0 0] 50)) := ⟨_, rfl⟩
    have hB0 : Below w.heap.size w w0 := by rw [hw0]; exact (((Below.refl _ _).alloc (Nat.le_refl _) _).alloc (by simp) _).alloc (by simp; omega) _
    have hbT : w0.heap[w.heap.size]? = some (.cells #[.int .i64 xk, .int .i64 xn, .slice sad KL sc] 50) := by rw [hw0, heap_alloc_old _ _ (by simp; omega), heap_alloc_old _ _ (by simp)]; exact heap_alloc_new _ _
    have hbR : w0.heap[w.heap.size + 1]? = some (.cells #[.int .i64 0, .int .i64 0, .slice none 0 0] 50) := by rw [hw0, heap_alloc_old _ _ (by simp)]; have := heap_alloc_new (w.alloc (.cells #[.int .i64 xk, .int .i64 xn, .slice sad KL sc] 50)) (.cells #[.int .i64 0, .int .i64 0, .slice none 0 0] 50); simpa using this
    have hbO : w0.heap[w.heap.size + 1 + 1]? = some (.cells #[.int .i64 xk, .int .i64 xn, .slice none 0 0] 50) := by rw [hw0]; have := heap_alloc_new ((w.alloc (.cells #[.int .i64 xk, .int .i64 xn, .slice sad KL sc] 50)).alloc (.cells #[.int .i64 0, .int .i64 0, .slice none 0 0] 50)) (.cells #[.int .i64 xk, .int .i64 xn, .slice none 0 0] 50); simpa using this
    have hsz0 : w0.heap.size = w.heap.size + 1 + 1 + 1 := by rw [hw0]; simp
    rw [← hw0]
    have HT0 := hide hbT
    have HR0 := hide hbR
    have HO0 := hide hbO
    have HSz0 := hide hsz0
    clear hw0 hbT hbR hbO hsz0 hT0
    go_loopw [32] (fun i w' => ∃ (a b : F) (s : Value) (cs : List Value), k = a.app b ∧ i = .int .i64 (a.len : Int) ∧ Below w.heap.size w w' ∧ w0.heap.size ≤ w'.heap.size ∧ w'.heap[w.heap.size]? = some (.cells #[.int .i64 xk, .int .i64 xn, .slice sad KL sc] 50 (0, 0)) ∧ w'.heap[w.heap.size + 1]? = some (.cells #[.int .i64 0, .int .i64 0, .slice none 0 0] 50 (0, 0)) ∧ w'.heap[w.heap.size + 1 + 1]? = some (.cells #[.int .i64 xk, .int .i64 xn, s] 50 (0, 0)) ∧
      KidsAt w' (fun g => w0.heap.size ≤ g ∧ s.ownBlock ≠ some g) (shf by_ xk f 0 a) cs ∧ w'.ownsRow w0.heap.size 50 3 s a.len cs ∧ Holds w' (fun g => w0.heap.size ≤ g) s a.len cs) (fun i _ => KL - (intOf i).toNat)
    case atStart => exact ⟨.nil, k, _, [], rfl, rfl, hB0, Nat.le_refl _, HT0.out, HR0.out, HO0.out, rfl, World.ownsRow_nil _ _ _ _, .inl ⟨rfl, rfl⟩⟩
    case round =>
      obtain ⟨a, b, so, cs, hk, rfl, hBr, hszr, hbT, hbR, hbO, hKs, hOw, hHo⟩ := hrel
      clear HT0 HR0 HO0 hB0
      have HT1 := hide hbT
      have HR1 := hide hbR
      have HO1 := hide hbO
      have HKs := hide hKs
      have HOw := hide hOw
      have HHo := hide hHo
      obtain ⟨oad, oc, hform⟩ := iOwn_form hOw
      subst hform
      clear hbT hbR hbO hKs hOw hHo
      cases b with
      | nil =>
        rw [F.app_nil] at hk
        subst hk
        have hKL := HKL.out
        rw [← hKL]
        rw [← hKL] at HO1 HHo
        clear hKL
        have z0 := cell_of_blk HR1.out 0
        have z1 := cell_of_blk HR1.out 1
        have z2 := cell_of_blk HR1.out 2
        have fz := unfrozen_of_blk HR1.out
        have y0 := cell_of_blk HO1.out 0
        have y1 := cell_of_blk HO1.out 1
        have y2 := cell_of_blk HO1.out 2
        simp only [List.getElem?_toArray, List.getElem?_cons_zero, List.getElem?_cons_succ] at z0 z1 z2 y0 y1 y2
        go_wp2_with fail
        refine bodyPost_ret (v := .agg #[.int .i64 xk, .int .i64 xn, .slice oad KL oc]) (by simp [results, Tryz.results67, go_sem, *]) rfl ⟨_, rfl, ?_, ((hBr.setCell (p := ⟨w.heap.size + 1, 0, none⟩) (by simp) _).setCell (p := ⟨w.heap.size + 1, 1, none⟩) (by simp) _).setCell (p := ⟨w.heap.size + 1, 2, none⟩) (by simp) _⟩
        have hsz := HSz0.out
        have hkk : KidT wr (fun g => w0.heap.size ≤ g) (shf by_ xk f 0 k) (.slice oad KL oc) := ⟨cs, HKs.out.keep (Nat.le_refl _) (fun g h1 _ => ⟨rfl, h1.1⟩), by rw [shf_len, ← HKL.out]; exact HHo.out⟩
        refine hkk.keep (by simp [World.setCell]) (fun g h1 h2 => ⟨?_, by omega⟩)
        have hkn : g ≠ w.heap.size + 1 := by omega
        rw [Below.heap_setCell _ _ _ _ hkn, Below.heap_setCell _ _ _ _ hkn, Below.heap_setCell _ _ _ _ hkn]
      | cons y ky b =>
        have hsz0 := HSz0.out
        have hkl2 : KL = a.len + (b.len + 1) := by rw [HKL.out, hk, F.app_len]; rfl
        have hlt' : (a.len : Int) < (KL : Int) := by omega
        have hfk : k.flat.length = a.flat.length + (1 + ky.flat.length + b.flat.length) := by rw [hk, F.app_flat]; simp [F.flat]; omega
        have hI := IH.out
        have hKO := HKO.out
        rw [hk] at hI hKO
        obtain ⟨g, cap, sy, he, hPg, hg, hTy, p0, p1, p2⟩ := KidT.kid (a := a) (k := ky) (r := b) (x := y) (s := .slice sad KL sc) (by rw [← hk]; exact HT.out)
        simp only [Value.slice.injEq] at he
        obtain ⟨rfl, -, rfl⟩ := he
        have q0 := (hBr.cell (p := ⟨g, a.len * 3, none⟩) hg).trans p0
        have q1 := (hBr.cell (p := ⟨g, a.len * 3 + 1, none⟩) hg).trans p1
        have q2 := (hBr.cell (p := ⟨g, a.len * 3 + 2, none⟩) hg).trans p2
        obtain ⟨g1, l1, o1, -⟩ := ok_cons ((F.app_okw _ _).1 hKO).2
        have hyn := good_n g1
        have hbl := binds_le xk a.len
        have HC := hide (fun (w' : World) (hw' : Below w.heap.size w w') => F.all_at hI y sy by_ (f + binds xk a.len) P w' hyn.1 hyn.2 hb1 hb2 l1 o1 (by omega) (hTy.keep hw'.size (fun k h1 h2 => ⟨hw'.block k h2, h1⟩)))
        obtain ⟨yad, yc, rfl⟩ := hTy.form
        have HSn := hide (hk.trans (F.app_snoc a ky b y))
        have HDl : Hid ((a.app (.cons y ky .nil)).len = a.len + 1) := hide (by rw [F.app_len]; rfl)
        have HSh : Hid (shf by_ xk f 0 (a.app (.cons y ky .nil)) = (shf by_ xk f 0 a).app (.cons (shc by_ (f + binds xk a.len) y) (shf by_ y.k (f + binds xk a.len) 0 ky) .nil)) := hide (by rw [shf_app, Nat.zero_add]; rfl)
        have HKl2 := hide hkl2
        have HBi := hide (l3Binds_any xk a.len)
        have hcsl := HOw.out.1
        clear p0 p1 p2 hTy hI hk hkl2 hfk hKO g1 l1 o1 hyn
        obtain ⟨al, hal⟩ : ∃ al, al = a.len := ⟨_, rfl⟩
        obtain ⟨kn, hkn⟩ : ∃ kn, kn = ky.len := ⟨_, rfl⟩
        obtain ⟨bi, hbi⟩ : ∃ bi, bi = binds xk a.len := ⟨_, rfl⟩
        obtain ⟨zz, hzz⟩ : ∃ zz, zz = shc by_ (f + binds xk a.len) y := ⟨_, rfl⟩
        obtain ⟨kk, hkk⟩ : ∃ kk, kk = shf by_ y.k (f + binds xk a.len) 0 ky := ⟨_, rfl⟩
        rw [← hzz, ← hkk] at HC HSh
        rw [← hbi] at HC HBi hbl
        rw [← hal] at hlt' q0 q1 q2 HDl HKl2 HBi HO1 HOw HHo HKs hcsl ⊢
        rw [← hkn] at HC q2
        rw [Int.natCast_add] at HC
        clear hal hkn hbi hzz hkk
        have c0 : wr.cell? ⟨w.heap.size, 0, none⟩ = some (.int .i64 xk) := (cell_of_blk HT1.out 0).trans rfl
        have c4 : wr.cell? ⟨w.heap.size + 1 + 1, 2, none⟩ = some (.slice oad al oc) := (cell_of_blk HO1.out 2).trans rfl
        have hw : IntKind.i64.wrap ((f : Int) + (bi : Int)) = (f : Int) + (bi : Int) := IntWalk.i64_in _ ⟨by omega, by omega⟩
        have hal3 : al < 2000001 := by omega
        go_wp2_with fail
        obtain ⟨w3, hw3⟩ : ∃ w3, w3 = wr.alloc (.cells #[.int .i64 y.k, .int .i64 y.n, .slice yad kn yc] 50) := ⟨_, rfl⟩
        rw [← hw3]
        have hb3 : w3.heap[wr.heap.size]? = some (.cells #[.int .i64 y.k, .int .i64 y.n, .slice yad kn yc] 50) := by rw [hw3]; exact heap_alloc_new _ _
        have hBr3 : Below wr.heap.size wr w3 := by rw [hw3]; exact (Below.refl _ _).alloc (Nat.le_refl _) _
        have hsz3 : wr.heap.size < w3.heap.size := (Array.getElem?_eq_some_iff.1 hb3).1
        have hB3 : Below w.heap.size w w3.drew := belowDrew (hBr.trans (hBr3.mono hBr.size))
        have e0 : w3.cell? ⟨wr.heap.size, 0, none⟩ = some (.int .i64 y.k) := (cell_of_blk hb3 0).trans rfl
        have e1 : w3.cell? ⟨wr.heap.size, 1, none⟩ = some (.int .i64 y.n) := (cell_of_blk hb3 1).trans rfl
        have e2 : w3.cell? ⟨wr.heap.size, 2, none⟩ = some (.slice yad kn yc) := (cell_of_blk hb3 2).trans rfl
        have e3 : w3.cell? ⟨w.heap.size, 0, none⟩ = some (.int .i64 xk) := (hBr3.cell (p := ⟨w.heap.size, 0, none⟩) (by show w.heap.size < _; omega)).trans c0
        have e4 : w3.cell? ⟨w.heap.size + 1 + 1, 2, none⟩ = some (.slice oad al oc) := (hBr3.cell (p := ⟨w.heap.size + 1 + 1, 2, none⟩) (by show w.heap.size + 1 + 1 < _; omega)).trans c4
        have HB3 := hide hB3
        have HBr3 := hide hBr3
        have hXO : ¬ wr.heap.size = w.heap.size + 1 + 1 := by omega
        have hXO' : ¬ w.heap.size + 1 + 1 = wr.heap.size := by omega
        have hTO : ¬ w.heap.size = w.heap.size + 1 + 1 := by omega
        have HNo : Hid (∀ k, (Value.slice oad al oc).ownBlock = some k → w0.heap.size ≤ k ∧ k < wr.heap.size) := hide (HOw.out.lt)
        have M1 : Hid (al + 1 ≤ maxLen) := hide (by unfold maxLen; omega)
        clear hw3 hb3 hBr3 q0 q1 q2 c0 c4 hB3
        go_region_law
          (first
            | (refine step_append_lies _ rfl _ _ 48 rfl w0.heap.size 50 i0 (.agg #[.int .i64 0, .int .i64 0, .slice none 0 0]) 3 40 Tryz.underlying48 Hi.out hz0 hz1 hz2 rfl (by decide) _ al cs rfl HOw5.out ⟨w5.heap.size, 0, none⟩ 1 1 (tC zz (.slice pad kk.len pc)) rfl rfl HNw.out (tC_one _ _ rfl) (by omega) M1.out (by omega) HBs.out _ rfl ?_; intro g6 cap6 w6 hown6 hgrow6 hat6 hlt6; have HO6 := hide hown6; have HG6 := hide hgrow6; have HA6 := hide hat6; have HO16 : Hid (w6.heap[w.heap.size + 1 + 1]? = some (.cells #[.int .i64 xk, .int .i64 xn, .slice oad al oc] 50 (0, 0))) := hide ((hgrow6.block _ HOl.out HNn.out).trans HO15.out); have f6 := (cell_of_blk HO16.out 2).trans rfl; have ff6 := unfrozen_of_blk HO16.out 2; clear hown6 hgrow6 hat6)
            | (go_simp; go_wp2_with (first | (go_at_call 66; refine (HBi.out _).mono ?_; rintro e w' ⟨rfl, rfl⟩) | (go_at_call 67; refine Calls.mono (HC.out _ HB3.out) ?_; rintro e w5 ⟨s5, rfl, hs5, hb5⟩; obtain ⟨pad, pc, rfl⟩ := hs5.form; have HS5 := hide hs5; have HB5 := hide hb5; clear hs5 hb5; have f0 := (HB5.out.cell (p := ⟨wr.heap.size, 0, none⟩) hsz3).trans e0; have f1 := (HB5.out.cell (p := ⟨wr.heap.size, 1, none⟩) hsz3).trans e1; have f2 := (HB5.out.cell (p := ⟨wr.heap.size, 2, none⟩) hsz3).trans e2; have f3 := (HB5.out.cell (p := ⟨w.heap.size, 0, none⟩) (show w.heap.size < w3.heap.size by omega)).trans e3; have f4 := (HB5.out.cell (p := ⟨w.heap.size + 1 + 1, 2, none⟩) (show w.heap.size + 1 + 1 < w3.heap.size by omega)).trans e4; have f5 : (w5.alloc (.cells #[.int .i64 zz.k, .int .i64 zz.n, .slice pad kk.len pc] 50)).cell? ⟨w.heap.size + 1 + 1, 2, none⟩ = some (.slice oad al oc) := (by rw [World.cell?_alloc_some _ _ _ (by rw [f4]; rfl)]; exact f4); have HOw5 : Hid ((w5.alloc (.cells #[.int .i64 zz.k, .int .i64 zz.n, .slice pad kk.len pc] 50)).ownsRow w0.heap.size 50 3 (.slice oad al oc) al cs) := hide ((tOwn_keep HOw.out (fun k _ hk => (HB5.out.block k (show k < w3.heap.size by omega)).trans (HBr3.out.block k hk))).alloc _); have HNw : Hid (∀ j u, (tC zz (.slice pad kk.len pc))[j]? = some u → (w5.alloc (.cells #[.int .i64 zz.k, .int .i64 zz.n, .slice pad kk.len pc] 50)).cell? ((⟨w5.heap.size, 0, none⟩ : Addr).add j) = some u) := hide (tC_cells (heap_alloc_new w5 _)); have hsz5 := HB5.out.size; have HBs : Hid (w0.heap.size ≤ (w5.alloc (.cells #[.int .i64 zz.k, .int .i64 zz.n, .slice pad kk.len pc] 50)).heap.size) := hide (by have h1 : w3.heap.size ≤ w5.heap.size := hsz5; simp; omega); have HO15 : Hid ((w5.alloc (.cells #[.int .i64 zz.k, .int .i64 zz.n, .slice pad kk.len pc] 50)).heap[w.heap.size + 1 + 1]? = some (.cells #[.int .i64 xk, .int .i64 xn, .slice oad al oc] 50 (0, 0))) := hide (by have h1 : w3.heap.size ≤ w5.heap.size := hsz5; rw [heap_alloc_old _ _ (by omega), HB5.out.block _ (show w.heap.size + 1 + 1 < w3.heap.size by omega)]; exact (HBr3.out.block _ (by omega)).trans HO1.out); have HOl : Hid (w.heap.size + 1 + 1 < (w5.alloc (.cells #[.int .i64 zz.k, .int .i64 zz.n, .slice pad kk.len pc] 50)).heap.size) := hide (Array.getElem?_eq_some_iff.1 HO15.out).1; have HNn : Hid (some (w.heap.size + 1 + 1) ≠ (Value.slice oad al oc).ownBlock) := hide (fun e => by have := (HNo.out _ e.symm).1; omega)))))
        all_goals
          have hrs := hide (row_step (F1 := shf by_ xk f 0 a) (HBr3.out.trans (show Below wr.heap.size w3 w5 from ⟨HB5.out.os, HB5.out.tape, HB5.out.output, HB5.out.size, fun k hk => HB5.out.block k (show k < w3.heap.size by omega)⟩)) HKs.out (HS5.out.weak (fun g h1 h2 => by have h3 : w3.heap.size ≤ g := h1; omega)) HO6.out HG6.out HA6.out HNo.out (show w.heap.size + 1 + 1 < w0.heap.size by omega) hszr HO1.out)
          clear HS5 HB5 f0 f1 f2 f3 f4 f5 HOw5 HNw hsz5 HBs HO15 HOl HNn HO6 HG6 HA6 HO16 f6 ff6 e0 e1 e2 e3 e4 HB3 HBr3 HNo HC HBi hXO hXO' hTO hw
          go_wp2_with fail
          obtain ⟨r1, r2, r3, r4, r5, r6, r7⟩ := hrs.out
          have hkl2 := HKl2.out
          refine ⟨⟨a.app (.cons y ky .nil), b, _, cs ++ tC zz (.slice pad kk.len pc), HSn.out, by rw [HDl.out]; go_num, hBr.trans (r7.mono (by omega)), by omega, (r4 _ (by omega) (by omega)).trans HT1.out, (r4 _ (by omega) (by omega)).trans HR1.out, r5, by rw [HSh.out]; exact r1, by rw [HDl.out]; exact r2, by rw [HDl.out]; exact r3⟩, by simp [intOf]; omega⟩
end Go.Proofs.YtnmkbpflbfhpnaaGreat.V

/-
  Terms that hand on: what is made by makings (each told how many are bound where it is put) and what is made by shifts are the same. No program here.
-/
namespace Go.Proofs.YtnmkbpflbfhpnaaGreat.W
set_option linter.unusedVariables false

def up1 (u : Int) : Int := IntKind.i64.wrap (u + 1)
def sub1 (a b : Int) : Int := IntKind.i64.wrap (IntKind.i64.wrap (a - b) - 1)
theorem up1_in {u : Int} (h0 : 0 ≤ u) (h : u ≤ 1000000) : up1 u = u + 1 := IntWalk.i64_in _ ⟨by omega, by omega⟩
theorem sub1_in {a b : Int} (h0 : 0 ≤ a) (h : a ≤ 1000000) (g0 : 0 ≤ b) (g : b ≤ 1000000) : sub1 a b = a - b - 1 := by
  unfold sub1
  rw [IntWalk.i64_in (a - b) ⟨by omega, by omega⟩]
  exact IntWalk.i64_in _ ⟨by omega, by omega⟩

/-- What a part is under so many bindings. -/
abbrev M := Int → F
def varT (n : Int) : F := .cons ⟨1, n⟩ .nil .nil
def lamT (a : F) : F := .cons ⟨3, 0⟩ a .nil
def appT (a b : F) : F := .cons ⟨4, 0⟩ (a.app b) .nil
def addT (a b : F) : F := .cons ⟨5, 0⟩ (a.app b) .nil
def ifT (a b c : F) : F := .cons ⟨6, 0⟩ (a.app (b.app c)) .nil
def bndM (u : Int) : M := fun v => varT (sub1 v u)
def lamM (b : M → M) : M := fun u => lamT (b (bndM u) (up1 u))
def appM (a b : M) : M := fun u => appT (a u) (b u)
def addM (a b : M) : M := fun u => addT (a u) (b u)
def ifM (a b c : M) : M := fun u => ifT (a u) (b u) (c u)
def valM (v : M) : M := lamM fun next => appM next v
def firstM (e : M) (t : M → M → M) : M := lamM fun next => appM e (lamM fun came => t came next)
def twoM (e f : M) (t : M → M → M → M) : M := firstM e (fun one next => appM f (lamM fun other => t one other next))
def extM (ρ : Int → M) (m : M) : Int → M := fun n => if n = 0 then m else ρ (n - 1)
/-- What the program makes of the term i of these. -/
def kM : F → Nat → (Int → M) → M
  | .nil, _, _ => fun _ => .nil
  | .cons x k _, 0, ρ =>
    if x.k = 1 then valM (ρ x.n)
    else if x.k = 3 then valM (lamM fun b => kM k 0 (extM ρ b))
    else if x.k = 4 then twoM (kM k 0 ρ) (kM k 1 ρ) (fun a b next => appM (appM a b) next)
    else if x.k = 5 then twoM (kM k 0 ρ) (kM k 1 ρ) (fun a b next => appM next (addM a b))
    else if x.k = 6 then firstM (kM k 0 ρ) (fun a next => ifM a (appM (kM k 1 ρ) next) (appM (kM k 2 ρ) next))
    else if x.k = 7 then firstM (kM k 0 ρ) (fun a next => appM (kM k 1 (extM ρ a)) next)
    else valM (fun _ => .cons x k .nil)
  | .cons _ _ r, i + 1, ρ => kM r i ρ

/-- The term i of these. -/
def nt : F → Nat → F
  | .nil, _ => .nil
  | .cons x k _, 0 => .cons x k .nil
  | .cons _ _ r, i + 1 => nt r i
theorem nt_len : ∀ (a : F) (i : Nat), i < a.len → (nt a i).len = 1
  | .nil, i, h => by simp [F.len] at h
  | .cons x k r, 0, h => rfl
  | .cons x k r, i + 1, h => nt_len r i (by simp [F.len] at h; omega)
theorem nt_flat : ∀ (a : F) (i : Nat), (nt a i).flat.length ≤ a.flat.length
  | .nil, i => by simp [nt]
  | .cons x k r, 0 => by simp [nt, F.flat]
  | .cons x k r, i + 1 => by have := nt_flat r i; simp [nt, F.flat]; omega
def sh (by_ : Int) (f : Nat) (a : F) : F := shf by_ 0 f 0 a
theorem sh_len (by_ : Int) (f : Nat) (a : F) : (sh by_ f a).len = a.len := shf_len _ _ _ _ _
theorem sh_flat (by_ : Int) (f : Nat) (a : F) : (sh by_ f a).flat.length = a.flat.length := shf_flat _ _ _ _ _
def two (kk d : F) : F := lamT (appT (sh 1 0 (nt kk 0)) (lamT (appT (sh 2 0 (nt kk 1)) (lamT d))))
/-- What the specification makes of a term: its first cell, what is behind it, what is made of that. -/
def hn1 (x : Cc) (k kk : F) : F :=
  if x.k = 1 then lamT (appT (varT 0) (varT (x.n + 1)))
  else if x.k = 3 then lamT (appT (varT 0) (lamT (sh 1 1 (nt kk 0))))
  else if x.k = 4 then two kk (appT (appT (varT 1) (varT 0)) (varT 2))
  else if x.k = 5 then two kk (appT (varT 2) (addT (varT 1) (varT 0)))
  else if x.k = 6 then lamT (appT (sh 1 0 (nt kk 0)) (lamT (ifT (varT 0) (appT (sh 2 0 (nt kk 1)) (varT 1)) (appT (sh 2 0 (nt kk 2)) (varT 1)))))
  else if x.k = 7 then lamT (appT (sh 1 0 (nt kk 0)) (lamT (appT (sh 1 1 (nt kk 1)) (varT 1))))
  else lamT (appT (varT 0) (.cons x k .nil))
def hn : F → F
  | .nil => .nil
  | .cons x k r => (hn1 x k (hn k)).app (hn r)
theorem hn1_lam (x : Cc) (k kk : F) : ∃ q, hn1 x k kk = lamT q ∧ q.len = 1 := by
  unfold hn1 two
  repeat' split
  all_goals exact ⟨_, rfl, rfl⟩
theorem hn1_len (x : Cc) (k kk : F) : (hn1 x k kk).len = 1 := by
  obtain ⟨q, e, -⟩ := hn1_lam x k kk
  rw [e]; rfl
theorem hn_len : ∀ a : F, (hn a).len = a.len
  | .nil => rfl
  | .cons x k r => by rw [hn, F.app_len, hn1_len, hn_len r, F.len]; omega
theorem nt_app_0 {a b : F} (h : a.len = 1) : nt (a.app b) 0 = a := by
  obtain ⟨x, k, rfl⟩ := F.len_1 h
  rfl
theorem nt_app_s {a b : F} (h : a.len = 1) (i : Nat) : nt (a.app b) (i + 1) = nt b i := by
  obtain ⟨x, k, rfl⟩ := F.len_1 h
  rfl
theorem nt_hn_0 (x : Cc) (k r : F) : nt (hn (.cons x k r)) 0 = hn1 x k (hn k) := by rw [hn, nt_app_0 (hn1_len _ _ _)]
theorem nt_hn_s (x : Cc) (k r : F) (i : Nat) : nt (hn (.cons x k r)) (i + 1) = nt (hn r) i := by rw [hn, nt_app_s (hn1_len _ _ _)]

theorem hn1_flat (x : Cc) (k kk : F) : (hn1 x k kk).flat.length ≤ 12 + k.flat.length + 3 * kk.flat.length := by
  have h0 := nt_flat kk 0
  have h1 := nt_flat kk 1
  have h2 := nt_flat kk 2
  unfold hn1 two
  repeat' split
  all_goals (simp only [lamT, appT, varT, addT, ifT, F.app_flat, F.flat, List.length_cons, List.length_append, List.length_nil, List.append_nil, sh_flat]; omega)

/-! Renaming: what stands free is told anew. -/
def rnc (σ : Int → Int) (d : Nat) (x : Cc) : Cc := if x.k = 1 ∧ (d : Int) ≤ x.n then ⟨x.k, σ (x.n - d) + d⟩ else x
def rn (σ : Int → Int) (pk : Int) (f : Nat) : Nat → F → F
  | _, .nil => .nil
  | i, .cons x k r => .cons (rnc σ (f + binds pk i) x) (rn σ x.k (f + binds pk i) 0 k) (rn σ pk f (i + 1) r)
theorem rnc_id (d : Nat) (x : Cc) : rnc (fun n => n) d x = x := by
  unfold rnc
  split
  · obtain ⟨k, n⟩ := x; simp
  · rfl
theorem rn_id : ∀ (a : F) (pk : Int) (f i : Nat), rn (fun n => n) pk f i a = a
  | .nil, _, _, _ => rfl
  | .cons x k r, pk, f, i => by rw [rn, rnc_id, rn_id k, rn_id r]
theorem rn_len (σ : Int → Int) : ∀ (a : F) (pk : Int) (f i : Nat), (rn σ pk f i a).len = a.len
  | .nil, _, _, _ => rfl
  | .cons x k r, pk, f, i => by rw [rn, F.len, rn_len σ r, F.len]
def rn1 (σ : Int → Int) (d : Nat) (a : F) : F := rn σ 0 d 0 a
theorem rn1_len (σ : Int → Int) (d : Nat) (a : F) : (rn1 σ d a).len = a.len := rn_len _ _ _ _ _
theorem rn_one {a : F} (h : a.len = 1) (σ : Int → Int) (pk : Int) (d i : Nat) : rn σ pk d i a = rn1 σ (d + binds pk i) a := by
  obtain ⟨x, k, rfl⟩ := F.len_1 h
  simp [rn, rn1, binds_0]
theorem rn_apps (σ : Int → Int) (pk : Int) (f : Nat) : ∀ (a b : F) (i : Nat), rn σ pk f i (a.app b) = (rn σ pk f i a).app (rn σ pk f (i + a.len) b)
  | .nil, b, i => rfl
  | .cons x k r, b, i => by
    simp only [F.app, rn, rn_apps σ pk f r b, F.len]
    rw [show i + 1 + r.len = i + (r.len + 1) by omega]
theorem rn1_lam {a : F} (h : a.len = 1) (σ : Int → Int) (d : Nat) : rn1 σ d (lamT a) = lamT (rn1 σ (d + 1) a) := by
  simp only [rn1, lamT, rn, rnc, binds_0, Nat.add_zero]
  rw [if_neg (by simp)]
  simp only [F.cons.injEq, true_and, and_true]
  rw [rn_one h]
  simp [rn1, binds]
theorem rn1_two {a b : F} (k : Int) (hk : k ≠ 1) (hb : ∀ i, binds k i = 0) (ha : a.len = 1) (hb1 : b.len = 1) (σ : Int → Int) (d : Nat) : rn1 σ d (.cons ⟨k, 0⟩ (a.app b) .nil) = .cons ⟨k, 0⟩ ((rn1 σ d a).app (rn1 σ d b)) .nil := by
  simp only [rn1, rn, rnc, binds_0, Nat.add_zero]
  rw [if_neg (by simp [hk]), rn_apps, rn_one ha, rn_one hb1, hb, hb]
  rfl
theorem b4 (i : Nat) : binds 4 i = 0 := by simp [binds]
theorem b5 (i : Nat) : binds 5 i = 0 := by simp [binds]
theorem b6 (i : Nat) : binds 6 i = 0 := by simp [binds]
theorem rn1_app {a b : F} (ha : a.len = 1) (hb : b.len = 1) (σ : Int → Int) (d : Nat) : rn1 σ d (appT a b) = appT (rn1 σ d a) (rn1 σ d b) := rn1_two 4 (by decide) b4 ha hb σ d
theorem rn1_add {a b : F} (ha : a.len = 1) (hb : b.len = 1) (σ : Int → Int) (d : Nat) : rn1 σ d (addT a b) = addT (rn1 σ d a) (rn1 σ d b) := rn1_two 5 (by decide) b5 ha hb σ d
theorem rn1_if {a b c : F} (ha : a.len = 1) (hb : b.len = 1) (hc : c.len = 1) (σ : Int → Int) (d : Nat) : rn1 σ d (ifT a b c) = ifT (rn1 σ d a) (rn1 σ d b) (rn1 σ d c) := by
  simp only [rn1, ifT, rn, rnc, binds_0, Nat.add_zero]
  rw [if_neg (by simp), rn_apps, rn_apps, rn_one ha, rn_one hb, rn_one hc, b6, b6, b6]
  rfl
theorem rn1_var (σ : Int → Int) (d : Nat) (n : Int) : rn1 σ d (varT n) = varT (if (d : Int) ≤ n then σ (n - d) + d else n) := by
  simp only [rn1, varT, rn, rnc, binds_0, Nat.add_zero, true_and]
  split <;> rfl
/-- A renaming behind a shift is a renaming. -/
theorem rn_shf {σ τ : Int → Int} {by_ : Int} {c g : Nat} (hs : ∀ m : Int, 0 ≤ m → (if (c : Int) ≤ (if (g : Int) ≤ m then m + by_ else m) then σ ((if (g : Int) ≤ m then m + by_ else m) - c) + c else (if (g : Int) ≤ m then m + by_ else m)) = τ m) :
    ∀ (a : F) (pk : Int) (d i : Nat), rn σ pk (c + d) i (shf by_ pk (g + d) i a) = rn τ pk d i a
  | .nil, _, _, _ => rfl
  | .cons x k r, pk, d, i => by
    have hk := rn_shf hs k x.k (d + binds pk i) 0
    have hr := rn_shf hs r pk d (i + 1)
    rw [shf, rn, rn, hr]
    have hx : (shc by_ (g + d + binds pk i) x).k = x.k := by unfold shc; split <;> rfl
    rw [hx]
    rw [show c + d + binds pk i = c + (d + binds pk i) by omega, show g + d + binds pk i = g + (d + binds pk i) by omega, hk]
    congr 1
    obtain ⟨xk, xn⟩ := x
    generalize d + binds pk i = e
    by_cases h1 : xk = 1
    · subst h1
      have e1 : shc by_ (g + e) ⟨1, xn⟩ = ⟨1, if ((g + e : Nat) : Int) ≤ xn then xn + by_ else xn⟩ := by
        unfold shc
        by_cases h : ((g + e : Nat) : Int) ≤ xn
        · rw [if_pos ⟨rfl, h⟩, if_pos h]
        · rw [if_neg (fun q => h q.2), if_neg h]
      have e2 : ∀ (σ : Int → Int) (d : Nat) (n : Int), rnc σ d ⟨1, n⟩ = ⟨1, if (d : Int) ≤ n then σ (n - d) + d else n⟩ := by
        intro σ d n
        unfold rnc
        by_cases h : (d : Int) ≤ n
        · rw [if_pos ⟨rfl, h⟩, if_pos h]
        · rw [if_neg (fun q => h q.2), if_neg h]
      rw [e1, e2, e2]
      simp only [Cc.mk.injEq, true_and]
      by_cases he : (e : Int) ≤ xn
      · have hm := hs (xn - e) (by omega)
        rw [if_pos he, ← hm]
        by_cases hg : (g : Int) ≤ xn - e
        · rw [if_pos hg, if_pos (show ((g + e : Nat) : Int) ≤ xn by omega)]
          by_cases hc : (c : Int) ≤ xn - e + by_
          · rw [if_pos hc, if_pos (show ((c + e : Nat) : Int) ≤ xn + by_ by omega), show xn + by_ - ((c + e : Nat) : Int) = xn - e + by_ - c by omega]
            omega
          · rw [if_neg hc, if_neg (show ¬ ((c + e : Nat) : Int) ≤ xn + by_ by omega)]
            omega
        · rw [if_neg hg, if_neg (show ¬ ((g + e : Nat) : Int) ≤ xn by omega)]
          by_cases hc : (c : Int) ≤ xn - e
          · rw [if_pos hc, if_pos (show ((c + e : Nat) : Int) ≤ xn by omega), show xn - ((c + e : Nat) : Int) = xn - e - c by omega]
            omega
          · rw [if_neg hc, if_neg (show ¬ ((c + e : Nat) : Int) ≤ xn by omega)]
            omega
      · rw [if_neg he, if_neg (show ¬ ((g + e : Nat) : Int) ≤ xn by omega), if_neg (show ¬ ((c + e : Nat) : Int) ≤ xn by omega)]
    · have e1 : shc by_ (g + e) ⟨xk, xn⟩ = ⟨xk, xn⟩ := if_neg (fun h => h1 h.1)
      have e2 : ∀ (σ : Int → Int) (d : Nat), rnc σ d ⟨xk, xn⟩ = ⟨xk, xn⟩ := fun σ d => if_neg (fun h => h1 h.1)
      rw [e1, e2, e2]
theorem rn1_sh {σ τ : Int → Int} {by_ : Int} {c g : Nat} (hs : ∀ m : Int, 0 ≤ m → (if (c : Int) ≤ (if (g : Int) ≤ m then m + by_ else m) then σ ((if (g : Int) ≤ m then m + by_ else m) - c) + c else (if (g : Int) ≤ m then m + by_ else m)) = τ m) (a : F) : rn1 σ c (sh by_ g a) = rn1 τ 0 a := rn_shf hs a 0 0 0

/-- How the variables of an environment are told, where so many are bound. -/
def EnvL (ρ : Int → M) (lv : Int → Int) : Prop := ∀ n : Int, 0 ≤ n → ∀ u : Int, 0 ≤ u → u ≤ 1000000 → ρ n u = varT (u - lv n - 1)
def lvE (lv : Int → Int) (v : Int) : Int → Int := fun n => if n = 0 then v else lv (n - 1)
theorem EnvL.ext {ρ : Int → M} {lv : Int → Int} {v : Int} (h : EnvL ρ lv) (h0 : 0 ≤ v) (h1 : v ≤ 1000000) : EnvL (extM ρ (bndM v)) (lvE lv v) := by
  intro n hn u hu hu2
  unfold extM lvE
  by_cases h2 : n = 0
  · rw [if_pos h2, if_pos h2, bndM, sub1_in hu hu2 h0 h1]
  · rw [if_neg h2, if_neg h2]
    exact h (n - 1) (by omega) u hu hu2
theorem bnd_in {v u : Int} (h0 : 0 ≤ v) (h1 : v ≤ 1000000) (hu : 0 ≤ u) (hu2 : u ≤ 1000000) : bndM v u = varT (u - v - 1) := by rw [bndM, sub1_in hu hu2 h0 h1]

theorem sh10 (σ : Int → Int) (a : F) : rn1 σ 1 (sh 1 0 a) = rn1 (fun n => σ n + 1) 0 a := rn1_sh (fun m hm => by
  rw [if_pos (show ((0 : Nat) : Int) ≤ m by omega), if_pos (show ((1 : Nat) : Int) ≤ m + 1 by omega), show m + 1 - ((1 : Nat) : Int) = m by omega]; rfl) a
theorem sh20 (σ : Int → Int) (a : F) : rn1 σ 2 (sh 2 0 a) = rn1 (fun n => σ n + 2) 0 a := rn1_sh (fun m hm => by
  rw [if_pos (show ((0 : Nat) : Int) ≤ m by omega), if_pos (show ((2 : Nat) : Int) ≤ m + 2 by omega), show m + 2 - ((2 : Nat) : Int) = m by omega]; rfl) a
theorem sh11 (σ : Int → Int) (a : F) : rn1 σ 2 (sh 1 1 a) = rn1 (fun n => if n = 0 then 0 else σ (n - 1) + 2) 0 a := rn1_sh (fun m hm => by
  by_cases h : m = 0
  · subst h; rfl
  · rw [if_pos (show ((1 : Nat) : Int) ≤ m by omega), if_pos (show ((2 : Nat) : Int) ≤ m + 1 by omega), if_neg h, show m + 1 - ((2 : Nat) : Int) = m - 1 by omega]; rfl) a
theorem lvE_at (lv : Int → Int) (u : Int) : (fun n => u + 1 + 1 - lvE lv (u + 1) n - 1) = fun n => if n = 0 then 0 else (u - lv (n - 1) - 1) + 2 := by
  funext n
  unfold lvE
  split <;> omega

theorem F.kids_2 {k : F} (h : k.len = 2) : 0 < k.len ∧ 1 < k.len := by omega

set_option maxHeartbeats 1000000 in
theorem kM_hn : ∀ (a : F) (ρ : Int → M) (lv : Int → Int) (u : Int) (i : Nat), a.ok → EnvL ρ lv → 0 ≤ u → u + 4 * a.flat.length ≤ 999990 → i < a.len → kM a i ρ u = rn1 (fun n => u - lv n - 1) 0 (nt (hn a) i)
  | .nil, ρ, lv, u, i, _, _, _, _, h => by simp [F.len] at h
  | .cons x k r, ρ, lv, u, i + 1, ho, he, h0, hu, hi => by
    rw [nt_hn_s, kM]
    exact kM_hn r ρ lv u i ho.2.2.2 he h0 (by simp [F.flat] at hu; omega) (by simp [F.len] at hi; omega)
  | .cons x k r, ρ, lv, u, 0, ⟨hg, hk, hko, _⟩, he, h0, hu, hi => by
    have hu' : u + 4 + 4 * k.flat.length ≤ 999990 := by simp [F.flat] at hu; omega
    have e1 : up1 u = u + 1 := up1_in h0 (by omega)
    have e2 : up1 (u + 1) = u + 1 + 1 := up1_in (by omega) (by omega)
    have e3 : up1 (u + 1 + 1) = u + 1 + 1 + 1 := up1_in (by omega) (by omega)
    have n0 : ∀ i, i < k.len → (nt (hn k) i).len = 1 := fun i hi => nt_len _ _ (by rw [hn_len]; exact hi)
    rw [nt_hn_0, kM]
    unfold hn1
    by_cases c1 : x.k = 1
    · rw [if_pos c1, if_pos c1]
      have hn0 : 0 ≤ x.n := by unfold goodC at hg; rw [if_pos c1] at hg; unfold inB at hg; simp at hg; omega
      simp only [valM, lamM, appM, e1]
      rw [bnd_in h0 (by omega) (by omega) (by omega), he x.n hn0 (u + 1) (by omega) (by omega), rn1_lam rfl, rn1_app rfl rfl, rn1_var, rn1_var]
      rw [if_neg (by omega), if_pos (by omega)]
      congr 3
      · congr 1; omega
      · congr 1
        rw [show x.n + 1 - ((0 + 1 : Nat) : Int) = x.n by omega]
        omega
    · rw [if_neg c1, if_neg c1]
      by_cases c3 : x.k = 3
      · rw [if_pos c3, if_pos c3]
        have hk1 : 0 < k.len := by rw [hk, c3]; decide
        simp only [valM, lamM, appM, e1, e2]
        rw [bnd_in h0 (by omega) (by omega) (by omega), kM_hn k _ _ (u + 1 + 1) 0 hko (he.ext (by omega) (by omega)) (by omega) (by omega) hk1, lvE_at]
        rw [rn1_lam rfl, rn1_app rfl rfl, rn1_var, if_neg (by omega), rn1_lam (by rw [sh_len]; exact n0 0 hk1), sh11]
        congr 2
        congr 1; omega
      · rw [if_neg c3, if_neg c3]
        by_cases c4 : x.k = 4
        · rw [if_pos c4, if_pos c4]
          have hk2 : k.len = 2 := by rw [hk, c4]; decide
          simp only [twoM, firstM, lamM, appM, e1, e2, e3]
          rw [bnd_in (v := u) h0 (by omega) (by omega) (by omega), bnd_in (v := u + 1) (by omega) (by omega) (by omega) (by omega), bnd_in (v := u + 1 + 1) (by omega) (by omega) (by omega) (by omega),
            kM_hn k ρ lv (u + 1) 0 hko he (by omega) (by omega) (by omega), kM_hn k ρ lv (u + 1 + 1) 1 hko he (by omega) (by omega) (by omega)]
          unfold two
          rw [show u + 1 + 1 + 1 - u - 1 = 2 by omega, show u + 1 + 1 + 1 - (u + 1) - 1 = 1 by omega, show u + 1 + 1 + 1 - (u + 1 + 1) - 1 = 0 by omega, rn1_lam rfl, rn1_app (by rw [sh_len]; exact n0 0 (by omega)) rfl, rn1_lam rfl, rn1_app (by rw [sh_len]; exact n0 1 (by omega)) rfl, rn1_lam rfl, rn1_app rfl rfl, rn1_app rfl rfl, rn1_var, rn1_var, rn1_var, if_neg (by omega), if_neg (by omega), if_neg (by omega), sh10, sh20]
          congr 3
          · congr 1; funext n; omega
          · congr 2
            congr 1; funext n; omega
        · rw [if_neg c4, if_neg c4]
          by_cases c5 : x.k = 5
          · rw [if_pos c5, if_pos c5]
            have hk2 : k.len = 2 := by rw [hk, c5]; decide
            simp only [twoM, firstM, lamM, appM, addM, e1, e2, e3]
            rw [bnd_in (v := u) h0 (by omega) (by omega) (by omega), bnd_in (v := u + 1) (by omega) (by omega) (by omega) (by omega), bnd_in (v := u + 1 + 1) (by omega) (by omega) (by omega) (by omega),
              kM_hn k ρ lv (u + 1) 0 hko he (by omega) (by omega) (by omega), kM_hn k ρ lv (u + 1 + 1) 1 hko he (by omega) (by omega) (by omega)]
            unfold two
            rw [show u + 1 + 1 + 1 - u - 1 = 2 by omega, show u + 1 + 1 + 1 - (u + 1) - 1 = 1 by omega, show u + 1 + 1 + 1 - (u + 1 + 1) - 1 = 0 by omega, rn1_lam rfl, rn1_app (by rw [sh_len]; exact n0 0 (by omega)) rfl, rn1_lam rfl, rn1_app (by rw [sh_len]; exact n0 1 (by omega)) rfl, rn1_lam rfl, rn1_app rfl rfl, rn1_add rfl rfl, rn1_var, rn1_var, rn1_var, if_neg (by omega), if_neg (by omega), if_neg (by omega), sh10, sh20]
            congr 3
            · congr 1; funext n; omega
            · congr 2
              congr 1; funext n; omega
          · rw [if_neg c5, if_neg c5]
            by_cases c6 : x.k = 6
            · rw [if_pos c6, if_pos c6]
              have hk3 : k.len = 3 := by rw [hk, c6]; decide
              simp only [firstM, lamM, appM, ifM, e1, e2]
              rw [bnd_in (v := u) h0 (by omega) (by omega) (by omega), bnd_in (v := u + 1) (by omega) (by omega) (by omega) (by omega),
                kM_hn k ρ lv (u + 1) 0 hko he (by omega) (by omega) (by omega), kM_hn k ρ lv (u + 1 + 1) 1 hko he (by omega) (by omega) (by omega), kM_hn k ρ lv (u + 1 + 1) 2 hko he (by omega) (by omega) (by omega)]
              rw [rn1_lam rfl, rn1_app (by rw [sh_len]; exact n0 0 (by omega)) rfl, rn1_lam rfl, rn1_if rfl rfl rfl, rn1_app (by rw [sh_len]; exact n0 1 (by omega)) rfl, rn1_app (by rw [sh_len]; exact n0 2 (by omega)) rfl, rn1_var, rn1_var, if_neg (by omega), if_neg (by omega), sh10, sh20, sh20]
              congr 3
              · congr 1; funext n; omega
              · congr 1
                · congr 1; omega
                · congr 2
                  · congr 1; funext n; omega
                  · congr 1; omega
                · congr 2
                  · congr 1; funext n; omega
                  · congr 1; omega
            · rw [if_neg c6, if_neg c6]
              by_cases c7 : x.k = 7
              · rw [if_pos c7, if_pos c7]
                have hk2 : k.len = 2 := by rw [hk, c7]; decide
                simp only [firstM, lamM, appM, e1, e2]
                rw [bnd_in (v := u) h0 (by omega) (by omega) (by omega),
                  kM_hn k ρ lv (u + 1) 0 hko he (by omega) (by omega) (by omega), kM_hn k _ _ (u + 1 + 1) 1 hko (he.ext (v := u + 1) (by omega) (by omega)) (by omega) (by omega) (by omega), lvE_at]
                rw [rn1_lam rfl, rn1_app (by rw [sh_len]; exact n0 0 (by omega)) rfl, rn1_lam rfl, rn1_app (by rw [sh_len]; exact n0 1 (by omega)) rfl, rn1_var, if_neg (by omega), sh10, sh11]
                congr 3
                · congr 1; funext n; omega
                · congr 2
                  congr 1; omega
              · rw [if_neg c7, if_neg c7]
                have c2 : x.k = 2 := by
                  have := good_ar hg
                  unfold inB at this; simp at this; omega
                have hk0 : k = .nil := F.len_0 (by rw [hk, c2]; decide)
                subst hk0
                simp only [valM, lamM, appM, e1]
                rw [bnd_in h0 (by omega) (by omega) (by omega), rn1_lam rfl, rn1_app rfl rfl, rn1_var, if_neg (by omega)]
                have hr : ∀ d, rn1 (fun n => u - lv n - 1) d (.cons x .nil .nil) = .cons x .nil .nil := by
                  intro d
                  simp only [rn1, rn, rnc]
                  rw [if_neg (by simp [c2])]
                rw [hr]
                congr 3
                congr 1; omega
/-- What the program makes of a whole term is what the specification makes. -/
theorem kM_top {a : F} (h : a.ok) (h1 : a.len = 1) (hl : a.flat.length ≤ 1000) : kM a 0 (fun n u => varT (u + n)) 0 = hn a := by
  have := kM_hn a (fun n u => varT (u + n)) (fun n => -1 - n) 0 0 h (fun n hn u h0 h1 => by show varT (u + n) = _; rw [show u - (-1 - n) - 1 = u + n by omega]) (by omega) (by omega) (by omega)
  rw [this]
  have e : (fun n : Int => (0 : Int) - (-1 - n) - 1) = fun n => n := by funext n; omega
  rw [e, rn1, rn_id]
  obtain ⟨x, k, rfl⟩ := F.len_1 h1
  rw [nt_hn_0, hn, show hn .nil = .nil from rfl, F.app_nil]
end Go.Proofs.YtnmkbpflbfhpnaaGreat.W

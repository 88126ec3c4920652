/-
  The variables that are bound nowhere, by the specification: contracts of l3Free and FreeIn. Conditions: at most 1048576 cells.
-/
import Derived.Test.YtnmkbpflbfhpnaaTeF
namespace Go.Proofs.Ytnmkbpflbfhpnaa.W
open Go.ChangeShapes Go.WideShapes Go.ChangeAt Go.RowKit
set_option linter.unusedVariables false

theorem belowDrew {B : Nat} {x y : World} (h : Below B x y) : Below B x y.drew := ⟨h.os, h.tape, h.output, h.size, h.block⟩
theorem put_len (l : List Int) (n : Int) : (put l n).length ≤ l.length + 1 := by
  unfold put
  split
  · omega
  · simp; omega
/-- The variables of terms that are bound nowhere, put into a list. -/
def fre (pk : Int) (d : Nat) : Nat → F → List Int → List Int
  | _, .nil, o => o
  | i, .cons x k r, o => fre pk d (i + 1) r (if x.k = 1 ∧ ((d + binds pk i : Nat) : Int) ≤ x.n then put o (x.n - ((d + binds pk i : Nat) : Int)) else fre x.k (d + binds pk i) 0 k o)
def fr1 (d : Nat) (x : Cc) (k : F) (o : List Int) : List Int := if x.k = 1 ∧ (d : Int) ≤ x.n then put o (x.n - (d : Int)) else fre x.k d 0 k o
theorem fre_cons (pk : Int) (d i : Nat) (x : Cc) (k r : F) (o : List Int) : fre pk d i (.cons x k r) o = fre pk d (i + 1) r (fr1 (d + binds pk i) x k o) := rfl
theorem fre_app (pk : Int) (d : Nat) : ∀ (a b : F) (i : Nat) (o : List Int), fre pk d i (a.app b) o = fre pk d (i + a.len) b (fre pk d i a o)
  | .nil, b, i, o => rfl
  | .cons x k r, b, i, o => by
    simp only [F.app, fre_cons, fre_app pk d r b, F.len]
    congr 1
    omega
theorem fre_len : ∀ (a : F) (pk : Int) (d i : Nat) (o : List Int), (fre pk d i a o).length ≤ o.length + a.flat.length
  | .nil, _, _, _, o => by simp [fre]
  | .cons x k r, pk, d, i, o => by
    rw [fre]
    refine Nat.le_trans (fre_len r _ _ _ _) ?_
    simp only [F.flat, List.length_cons, List.length_append]
    split
    · have := put_len o (x.n - ((d + binds pk i : Nat) : Int)); omega
    · have := fre_len k x.k (d + binds pk i) 0 o; omega

def L3FGoal (k : F) : Prop := ∀ (x : Cc) (s so : Value) (d : Nat) (o : List Int) (P : Nat → Prop) (w : World), -1000000 ≤ x.n → x.n ≤ 1000000 → k.len = ar x.k → k.ok → d + k.flat.length ≤ 1048576 → o.length + k.flat.length ≤ 1048575 → KidT w P k s → IS w so o →
    Calls Try.prog 30 #[.agg #[.int .i64 x.k, .int .i64 x.n, s], .int .i64 (d : Int), so] w fun e w' => ∃ s', e = .returned s' ∧ IS w' s' (fr1 d x k o) ∧ Below w.heap.size w w'

theorem good_n {x : Cc} (h : goodC x = true) : -1000000 ≤ x.n ∧ x.n ≤ 1000000 := by
  unfold goodC at h
  unfold inB at h
  split at h
  · simp at h; omega
  · split at h
    · simp at h; omega
    · simp at h; omega

set_option maxRecDepth 20000 in
set_option maxHeartbeats 2000000 in
theorem l3Free_any : ∀ k, L3FGoal k := by
  apply F.rec_kids
  intro k ih x s so d o P w hn1 hn2 hka hko hd hol hT hS
  have IH := hide ih
  have HT := hide hT
  have HS := hide hS
  have HKO := hide hko
  obtain ⟨sad, sc, rfl⟩ := hT.form
  obtain ⟨oad, oc, rfl⟩ := hS.form
  clear ih hT hS hko
  by_cases hv : x.k = 1 ∧ (d : Int) ≤ x.n
  · have hf : fr1 d x k o = put o (x.n - (d : Int)) := if_pos hv
    rw [hf]
    obtain ⟨xk, xn⟩ := x
    obtain ⟨rfl, hv2⟩ := hv
    simp only at *
    obtain ⟨KL, hKL⟩ : ∃ KL, KL = k.len := ⟨_, rfl⟩
    rw [← hKL] at HT ⊢
    obtain ⟨OL, hOL⟩ : ∃ OL, OL = o.length := ⟨_, rfl⟩
    rw [← hOL] at HS ⊢
    have HOL := hide hOL
    clear hKL hf hOL
    go_enter Try.func30, Try.ntmps30
    go_wp2_with fail
    refine (l1Put_any o _ _ _ (by omega) (HS.out.below ((Below.refl _ _).alloc (Nat.le_refl _) _))).mono ?_
    rintro e w1 ⟨s', rfl, hs', hb1⟩
    have hB1 : Below w.heap.size w w1 := ((Below.refl _ _).alloc (Nat.le_refl _) _).trans (hb1.mono (by simp))
    have HS' := hide hs'
    obtain ⟨pad, pc, rfl⟩ := hs'.form
    clear hb1 hs'
    go_wp2_with fail
    go_ret
    exact ⟨_, rfl, HS'.out, hB1⟩
  · have hf : fr1 d x k o = fre x.k d 0 k o := if_neg hv
    rw [hf]
    obtain ⟨xk, xn⟩ := x
    simp only at *
    obtain ⟨KL, hKL⟩ : ∃ KL, KL = k.len := ⟨_, rfl⟩
    rw [← hKL] at HT ⊢
    have HKL := hide hKL
    obtain ⟨OL, hOL⟩ : ∃ OL, OL = o.length := ⟨_, rfl⟩
    rw [← hOL] at HS ⊢
    have HOL := hide hOL
    have hkl := F.len_flat k
    rw [← hKL] at hkl
    clear hKL hf hOL
    have hv' : xk = 1 → ¬ (d : Int) ≤ xn := fun h1 h2 => hv ⟨h1, h2⟩
    clear hv
    by_cases hx1 : xk = 1
    · subst hx1
      have hv2 : ¬ (d : Int) ≤ xn := hv' rfl
      have hk0 : k = .nil := F.len_0 (by rw [hka]; rfl)
      subst hk0
      obtain rfl : KL = 0 := HKL.out
      clear hv' hka HKL
      go_enter Try.func30, Try.ntmps30
      go_wp2_with fail
      go_loopw [2, 27] (fun o2 i w' => o2 = .slice oad OL oc ∧ i = .int .i64 0 ∧ w' = w.alloc (.cells #[.int .i64 1, .int .i64 xn, .slice sad 0 sc] 37)) (fun _ _ _ => 0)
      case atStart => exact ⟨rfl, rfl, rfl⟩
      case round =>
        obtain ⟨rfl, rfl, rfl⟩ := hrel
        go_wp2_with fail
        go_ret
        exact ⟨_, rfl, HS.out.below ((Below.refl _ _).alloc (Nat.le_refl _) _), (Below.refl _ _).alloc (Nat.le_refl _) _⟩
    · clear hv' hka
      go_enter Try.func30, Try.ntmps30
      go_wp2_with fail
      obtain ⟨w0, hw0⟩ : ∃ w0, w0 = w.alloc (.cells #[.int .i64 xk, .int .i64 xn, .slice sad KL sc] 37) := ⟨_, rfl⟩
      rw [← hw0]
      have hB0 : Below w.heap.size w w0 := by rw [hw0]; exact (Below.refl _ _).alloc (Nat.le_refl _) _
      have hb0 : w0.heap[w.heap.size]? = some (.cells #[.int .i64 xk, .int .i64 xn, .slice sad KL sc] 37) := by rw [hw0]; exact heap_alloc_new _ _
      have HB0 := hide hb0
      have hsz0 : w.heap.size < w0.heap.size := (Array.getElem?_eq_some_iff.1 hb0).1
      have HT0 := hide (HT.out.below hB0)
      have HS0 := hide (HS.out.below hB0)
      clear hw0 hb0
      go_loopw [2, 27] (fun o2 i w' => ∃ a b : F, k = a.app b ∧ i = .int .i64 (a.len : Int) ∧ IS w' o2 (fre xk d 0 a o) ∧ Below w0.heap.size w0 w') (fun _ i _ => KL - (intOf i).toNat)
      case atStart => exact ⟨.nil, k, rfl, rfl, HS0.out, Below.refl _ _⟩
      case round =>
        obtain ⟨a, b, hk, rfl, hIS, hBr⟩ := hrel
        have hBw : Below w.heap.size w wr := hB0.trans (hBr.mono hB0.size)
        have HIS := hide hIS
        obtain ⟨rad, rc, hform⟩ := hIS.form
        subst hform
        clear hIS
        cases b with
        | nil =>
          rw [F.app_nil] at hk
          subst hk
          have hKL := HKL.out
          rw [← hKL]
          clear hKL
          go_wp2_with fail
          go_ret
          exact ⟨_, rfl, HIS.out, hBw⟩
        | cons y ky b =>
          have hkl2 : KL = a.len + (b.len + 1) := by rw [HKL.out, hk, F.app_len]; rfl
          have hlt' : (a.len : Int) < (KL : Int) := by omega
          have hfk : k.flat.length = a.flat.length + (1 + ky.flat.length + b.flat.length) := by rw [hk, F.app_flat]; simp [F.flat]; omega
          have hK := HT0.out
          have hI := IH.out
          have hKO := HKO.out
          rw [hk] at hI hKO
          obtain ⟨g, cap, sy, he, hP, hg, hTy, p0, p1, p2⟩ := KidT.kid (a := a) (k := ky) (r := b) (x := y) (s := .slice sad KL sc) (by rw [← hk]; exact hK)
          simp only [Value.slice.injEq] at he
          obtain ⟨rfl, -, rfl⟩ := he
          have q0 := (hBr.cell (p := ⟨g, a.len * 3, none⟩) hg).trans p0
          have q1 := (hBr.cell (p := ⟨g, a.len * 3 + 1, none⟩) hg).trans p1
          have q2 := (hBr.cell (p := ⟨g, a.len * 3 + 2, none⟩) hg).trans p2
          obtain ⟨g1, l1, o1, -⟩ := ok_cons ((F.app_ok _ _).1 hKO).2
          have hyn := good_n g1
          have hbl := binds_le xk a.len
          have hfl := fre_len a xk d 0 o
          obtain ⟨fo, hfo⟩ : ∃ fo, fo = fre xk d 0 a o := ⟨_, rfl⟩
          rw [← hfo] at HIS hfl ⊢
          have HFo := hide hfo
          have HC := hide (fun (w' : World) (hw' : Below w0.heap.size w0 w') (hs' : IS w' (.slice rad fo.length rc) fo) => F.all_at hI y sy (.slice rad fo.length rc) (d + binds xk a.len) fo P w' hyn.1 hyn.2 l1 o1 (by omega) (by omega) (hTy.below hw') hs')
          obtain ⟨yad, yc, rfl⟩ := hTy.form
          have HSn := hide (hk.trans (F.app_snoc a ky b y))
          have HDl : Hid ((a.app (.cons y ky .nil)).len = a.len + 1) := hide (by rw [F.app_len]; rfl)
          have HFr : Hid (fre xk d 0 (a.app (.cons y ky .nil)) o = fr1 (d + binds xk a.len) y ky fo) := hide (by rw [fre_app, HFo.out, Nat.zero_add]; rfl)
          have HKl2 := hide hkl2
          have HBi := hide (l3Binds_any xk a.len)
          clear p0 p1 p2 hTy hK hI hk hkl2 hfk hfl hfo hKO g1 l1 o1 hyn
          obtain ⟨al, hal⟩ : ∃ al, al = a.len := ⟨_, rfl⟩
          obtain ⟨kn, hkn⟩ : ∃ kn, kn = ky.len := ⟨_, rfl⟩
          obtain ⟨bi, hbi⟩ : ∃ bi, bi = binds xk a.len := ⟨_, rfl⟩
          obtain ⟨FL, hFL⟩ : ∃ FL, FL = fo.length := ⟨_, rfl⟩
          rw [← hbi] at HC HBi HFr hbl
          rw [← hal] at hlt' q0 q1 q2 HDl HKl2 HBi ⊢
          rw [← hkn] at HC q2
          rw [← hFL] at HC HIS ⊢
          clear hal hkn hbi hFL
          have c0 : wr.cell? ⟨w.heap.size, 0, none⟩ = some (.int .i64 xk) := (hBr.cell (p := ⟨w.heap.size, 0, none⟩) hsz0).trans ((cell_of_blk HB0.out 0).trans rfl)
          have hw : IntKind.i64.wrap ((d : Int) + (bi : Int)) = ((d + bi : Nat) : Int) := by rw [IntWalk.i64_in _ ⟨by omega, by omega⟩]; omega
          go_wp2_with fail
          obtain ⟨w3, hw3⟩ : ∃ w3, w3 = wr.alloc (.cells #[.int .i64 y.k, .int .i64 y.n, .slice yad kn yc] 37) := ⟨_, rfl⟩
          rw [← hw3]
          have hb3 : w3.heap[wr.heap.size]? = some (.cells #[.int .i64 y.k, .int .i64 y.n, .slice yad kn yc] 37) := by rw [hw3]; exact heap_alloc_new _ _
          have hBr3 : Below wr.heap.size wr w3 := by rw [hw3]; exact (Below.refl _ _).alloc (Nat.le_refl _) _
          have hsz3 : wr.heap.size < w3.heap.size := (Array.getElem?_eq_some_iff.1 hb3).1
          have hszr : w0.heap.size ≤ wr.heap.size := hBr.size
          have e0 : w3.cell? ⟨wr.heap.size, 0, none⟩ = some (.int .i64 y.k) := (cell_of_blk hb3 0).trans rfl
          have e1 : w3.cell? ⟨wr.heap.size, 1, none⟩ = some (.int .i64 y.n) := (cell_of_blk hb3 1).trans rfl
          have e2 : w3.cell? ⟨wr.heap.size, 2, none⟩ = some (.slice yad kn yc) := (cell_of_blk hb3 2).trans rfl
          have e3 : w3.cell? ⟨w.heap.size, 0, none⟩ = some (.int .i64 xk) := (hBr3.cell (p := ⟨w.heap.size, 0, none⟩) (by show w.heap.size < _; omega)).trans c0
          have hB3 : Below w0.heap.size w0 w3.drew := belowDrew (hBr.trans (hBr3.mono hBr.size))
          have HI3 : Hid (IS w3.drew (.slice rad FL rc) fo) := hide (HIS.out.below (belowDrew hBr3))
          have HB3 := hide hB3
          clear hw3 hb3 hBr3 q0 q1 q2 c0 hB3
          go_region_held3 (fun w' => w'.cell? ⟨wr.heap.size, 0, none⟩ = some (.int .i64 y.k) ∧ w'.cell? ⟨wr.heap.size, 1, none⟩ = some (.int .i64 y.n) ∧ w'.cell? ⟨wr.heap.size, 2, none⟩ = some (.slice yad kn yc) ∧ w'.cell? ⟨w.heap.size, 0, none⟩ = some (.int .i64 xk)) (go_keep)
            (first
              | (go_at_call 55; refine (HBi.out _).mono ?_; rintro e w' ⟨rfl, rfl⟩)
              | (go_at_call 30; refine Calls.mono (HC.out _ HB3.out HI3.out) ?_; rintro e w5 ⟨s5, rfl, hs5, hb5⟩; obtain ⟨pad, pc, rfl⟩ := hs5.form; have HS5 := hide hs5; have HB5 := hide hb5; clear hs5 hb5; have f0 := (HB5.out.cell (p := ⟨wr.heap.size, 0, none⟩) hsz3).trans e0; have f1 := (HB5.out.cell (p := ⟨wr.heap.size, 1, none⟩) hsz3).trans e1; have f2 := (HB5.out.cell (p := ⟨wr.heap.size, 2, none⟩) hsz3).trans e2; have f3 := (HB5.out.cell (p := ⟨w.heap.size, 0, none⟩) (show w.heap.size < w3.heap.size by omega)).trans e3))
          have hB5 : Below w0.heap.size w0 w5 := HB3.out.trans (HB5.out.mono HB3.out.size)
          clear f0 f1 f2 f3 e0 e1 e2 e3
          have hkl2 := HKl2.out
          go_wp2_with fail
          exact ⟨⟨a.app (.cons y ky .nil), b, HSn.out, by rw [HDl.out]; go_num, by rw [HFr.out]; exact HS5.out, hB5⟩, by simp [intOf]; omega⟩

/-- The variables that are bound nowhere. -/
def freT : F → List Int
  | .nil => []
  | .cons x k _ => fr1 0 x k []
end Go.Proofs.Ytnmkbpflbfhpnaa.W

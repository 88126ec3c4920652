/-
  Some texts of this proof in one: TeE, TeT, TeU.
-/
import Derived.Test.YtnmkbpflbfhpnaaGreatTeF
import Derived.Test.YtnmkbpflbfhpnaaGreatJ05
import Derived.Deep.RegionLaw
/-
  The variables that are bound nowhere, by the specification: contracts of l3Free and FreeIn. Conditions: at most 1048576 cells.
-/
namespace Go.Proofs.YtnmkbpflbfhpnaaGreat.W
open Go.ChangeShapes Go.WideShapes Go.ChangeAt Go.RowKit
set_option linter.unusedVariables false

theorem belowDrew {B : Nat} {x y : World} (h : Below B x y) : Below B x y.drew := ⟨h.os, h.tape, h.output, h.size, h.block⟩
theorem put_len (l : List Int) (n : Int) : (put l n).length ≤ l.length + 1 := by
  unfold put
  split
  · omega
  · simp; omega
/-- The variables of terms that are bound nowhere, put into a list. -/
def fre (pk : Int) (d : Nat) : Nat → F → List Int → List Int
  | _, .nil, o => o
  | i, .cons x k r, o => fre pk d (i + 1) r (if x.k = 1 ∧ ((d + binds pk i : Nat) : Int) ≤ x.n then put o (x.n - ((d + binds pk i : Nat) : Int)) else fre x.k (d + binds pk i) 0 k o)
def fr1 (d : Nat) (x : Cc) (k : F) (o : List Int) : List Int := if x.k = 1 ∧ (d : Int) ≤ x.n then put o (x.n - (d : Int)) else fre x.k d 0 k o
theorem fre_cons (pk : Int) (d i : Nat) (x : Cc) (k r : F) (o : List Int) : fre pk d i (.cons x k r) o = fre pk d (i + 1) r (fr1 (d + binds pk i) x k o) := rfl
theorem fre_app (pk : Int) (d : Nat) : ∀ (a b : F) (i : Nat) (o : List Int), fre pk d i (a.app b) o = fre pk d (i + a.len) b (fre pk d i a o)
  | .nil, b, i, o => rfl
  | .cons x k r, b, i, o => by
    simp only [F.app, fre_cons, fre_app pk d r b, F.len]
    congr 1
    omega
theorem fre_len : ∀ (a : F) (pk : Int) (d i : Nat) (o : List Int), (fre pk d i a o).length ≤ o.length + a.flat.length
  | .nil, _, _, _, o => by simp [fre]
  | .cons x k r, pk, d, i, o => by
    rw [fre]
    refine Nat.le_trans (fre_len r _ _ _ _) ?_
    simp only [F.flat, List.length_cons, List.length_append]
    split
    · have := put_len o (x.n - ((d + binds pk i : Nat) : Int)); omega
    · have := fre_len k x.k (d + binds pk i) 0 o; omega

def L3FGoal (k : F) : Prop := ∀ (x : Cc) (s so : Value) (d : Nat) (o : List Int) (P : Nat → Prop) (w : World), -1000000 ≤ x.n → x.n ≤ 1000000 → k.len = ar x.k → k.ok → d + k.flat.length ≤ 1048576 → o.length + k.flat.length ≤ 1048575 → KidT w P k s → IS w so o →
    Calls Tryz.prog 38 #[.agg #[.int .i64 x.k, .int .i64 x.n, s], .int .i64 (d : Int), so] w fun e w' => ∃ s', e = .returned s' ∧ IS w' s' (fr1 d x k o) ∧ Below w.heap.size w w'

theorem good_n {x : Cc} (h : goodC x = true) : -1000000 ≤ x.n ∧ x.n ≤ 1000000 := by
  unfold goodC at h
  unfold inB at h
  split at h
  · simp at h; omega
  · split at h
    · simp at h; omega
    · simp at h; omega

set_option maxRecDepth 20000 in
set_option maxHeartbeats 2000000 in
theorem l3Free_any : ∀ k, L3FGoal k := by
  apply F.rec_kids
  intro k ih x s so d o P w hn1 hn2 hka hko hd hol hT hS
  have IH := hide ih
  have HT := hide hT
  have HS := hide hS
  have HKO := hide hko
  obtain ⟨sad, sc, rfl⟩ := hT.form
  obtain ⟨oad, oc, rfl⟩ := hS.form
  clear ih hT hS hko
  by_cases hv : x.k = 1 ∧ (d : Int) ≤ x.n
  · have hf : fr1 d x k o = put o (x.n - (d : Int)) := if_pos hv
    rw [hf]
    obtain ⟨xk, xn⟩ := x
    obtain ⟨rfl, hv2⟩ := hv
    simp only at *
    obtain ⟨KL, hKL⟩ : ∃ KL, KL = k.len := ⟨_, rfl⟩
    rw [← hKL] at HT ⊢
    obtain ⟨OL, hOL⟩ : ∃ OL, OL = o.length := ⟨_, rfl⟩
    rw [← hOL] at HS ⊢
    have HOL := hide hOL
    clear hKL hf hOL
    go_enter Tryz.func38, Tryz.ntmps38
    go_wp2_with fail
    refine (l1Put_any o _ _ _ (by omega) (HS.out.below ((Below.refl _ _).alloc (Nat.le_refl _) _))).mono ?_
    rintro e w1 ⟨s', rfl, hs', hb1⟩
    have hB1 : Below w.heap.size w w1 := ((Below.refl _ _).alloc (Nat.le_refl _) _).trans (hb1.mono (by simp))
    have HS' := hide hs'
    obtain ⟨pad, pc, rfl⟩ := hs'.form
    clear hb1 hs'
    go_wp2_with fail
    go_ret
    exact ⟨_, rfl, HS'.out, hB1⟩
  · have hf : fr1 d x k o = fre x.k d 0 k o := if_neg hv
    rw [hf]
    obtain ⟨xk, xn⟩ := x
    simp only at *
    obtain ⟨KL, hKL⟩ : ∃ KL, KL = k.len := ⟨_, rfl⟩
    rw [← hKL] at HT ⊢
    have HKL := hide hKL
    obtain ⟨OL, hOL⟩ : ∃ OL, OL = o.length := ⟨_, rfl⟩
    rw [← hOL] at HS ⊢
    have HOL := hide hOL
    have hkl := F.len_flat k
    rw [← hKL] at hkl
    clear hKL hf hOL
    have hv' : xk = 1 → ¬ (d : Int) ≤ xn := fun h1 h2 => hv ⟨h1, h2⟩
    clear hv
    by_cases hx1 : xk = 1
    · subst hx1
      have hv2 : ¬ (d : Int) ≤ xn := hv' rfl
      have hk0 : k = .nil := F.len_0 (by rw [hka]; rfl)
      subst hk0
      obtain rfl : KL = 0 := HKL.out
      clear hv' hka HKL
      go_enter Tryz.func38, Tryz.ntmps38
      go_wp2_with fail
      go_loopw [2, 27] (fun o2 i w' => o2 = .slice oad OL oc ∧ i = .int .i64 0 ∧ w' = w.alloc (.cells #[.int .i64 1, .int .i64 xn, .slice sad 0 sc] 50)) (fun _ _ _ => 0)
      case atStart => exact ⟨rfl, rfl, rfl⟩
      case round =>
        obtain ⟨rfl, rfl, rfl⟩ := hrel
        go_wp2_with fail
        go_ret
        exact ⟨_, rfl, HS.out.below ((Below.refl _ _).alloc (Nat.le_refl _) _), (Below.refl _ _).alloc (Nat.le_refl _) _⟩
    · clear hv' hka
      go_enter Tryz.func38, Tryz.ntmps38
      go_wp2_with fail
      obtain ⟨w0, hw0⟩ : ∃ w0, w0 = w.alloc (.cells #[.int .i64 xk, .int .i64 xn, .slice sad KL sc] 50) := ⟨_, rfl⟩
      rw [← hw0]
      have hB0 : Below w.heap.size w w0 := by rw [hw0]; exact (Below.refl _ _).alloc (Nat.le_refl _) _
      have hb0 : w0.heap[w.heap.size]? = some (.cells #[.int .i64 xk, .int .i64 xn, .slice sad KL sc] 50) := by rw [hw0]; exact heap_alloc_new _ _
      have HB0 := hide hb0
      have hsz0 : w.heap.size < w0.heap.size := (Array.getElem?_eq_some_iff.1 hb0).1
      have HT0 := hide (HT.out.below hB0)
      have HS0 := hide (HS.out.below hB0)
      clear hw0 hb0
      go_loopw [2, 27] (fun o2 i w' => ∃ a b : F, k = a.app b ∧ i = .int .i64 (a.len : Int) ∧ IS w' o2 (fre xk d 0 a o) ∧ Below w0.heap.size w0 w') (fun _ i _ => KL - (intOf i).toNat)
      case atStart => exact ⟨.nil, k, rfl, rfl, HS0.out, Below.refl _ _⟩
      case round =>
        obtain ⟨a, b, hk, rfl, hIS, hBr⟩ := hrel
        have hBw : Below w.heap.size w wr := hB0.trans (hBr.mono hB0.size)
        have HIS := hide hIS
        obtain ⟨rad, rc, hform⟩ := hIS.form
        subst hform
        clear hIS
        cases b with
        | nil =>
          rw [F.app_nil] at hk
          subst hk
          have hKL := HKL.out
          rw [← hKL]
          clear hKL
          go_wp2_with fail
          go_ret
          exact ⟨_, rfl, HIS.out, hBw⟩
        | cons y ky b =>
          have hkl2 : KL = a.len + (b.len + 1) := by rw [HKL.out, hk, F.app_len]; rfl
          have hlt' : (a.len : Int) < (KL : Int) := by omega
          have hfk : k.flat.length = a.flat.length + (1 + ky.flat.length + b.flat.length) := by rw [hk, F.app_flat]; simp [F.flat]; omega
          have hK := HT0.out
          have hI := IH.out
          have hKO := HKO.out
          rw [hk] at hI hKO
          obtain ⟨g, cap, sy, he, hP, hg, hTy, p0, p1, p2⟩ := KidT.kid (a := a) (k := ky) (r := b) (x := y) (s := .slice sad KL sc) (by rw [← hk]; exact hK)
          simp only [Value.slice.injEq] at he
          obtain ⟨rfl, -, rfl⟩ := he
          have q0 := (hBr.cell (p := ⟨g, a.len * 3, none⟩) hg).trans p0
          have q1 := (hBr.cell (p := ⟨g, a.len * 3 + 1, none⟩) hg).trans p1
          have q2 := (hBr.cell (p := ⟨g, a.len * 3 + 2, none⟩) hg).trans p2
          obtain ⟨g1, l1, o1, -⟩ := ok_cons ((F.app_ok _ _).1 hKO).2
          have hyn := good_n g1
          have hbl := binds_le xk a.len
          have hfl := fre_len a xk d 0 o
          obtain ⟨fo, hfo⟩ : ∃ fo, fo = fre xk d 0 a o := ⟨_, rfl⟩
          rw [← hfo] at HIS hfl ⊢
          have HFo := hide hfo
          have HC := hide (fun (w' : World) (hw' : Below w0.heap.size w0 w') (hs' : IS w' (.slice rad fo.length rc) fo) => F.all_at hI y sy (.slice rad fo.length rc) (d + binds xk a.len) fo P w' hyn.1 hyn.2 l1 o1 (by omega) (by omega) (hTy.below hw') hs')
          obtain ⟨yad, yc, rfl⟩ := hTy.form
          have HSn := hide (hk.trans (F.app_snoc a ky b y))
          have HDl : Hid ((a.app (.cons y ky .nil)).len = a.len + 1) := hide (by rw [F.app_len]; rfl)
          have HFr : Hid (fre xk d 0 (a.app (.cons y ky .nil)) o = fr1 (d + binds xk a.len) y ky fo) := hide (by rw [fre_app, HFo.out, Nat.zero_add]; rfl)
          have HKl2 := hide hkl2
          have HBi := hide (l3Binds_any xk a.len)
          clear p0 p1 p2 hTy hK hI hk hkl2 hfk hfl hfo hKO g1 l1 o1 hyn
          obtain ⟨al, hal⟩ : ∃ al, al = a.len := ⟨_, rfl⟩
          obtain ⟨kn, hkn⟩ : ∃ kn, kn = ky.len := ⟨_, rfl⟩
          obtain ⟨bi, hbi⟩ : ∃ bi, bi = binds xk a.len := ⟨_, rfl⟩
          obtain ⟨FL, hFL⟩ : ∃ FL, FL = fo.length := ⟨_, rfl⟩
          rw [← hbi] at HC HBi HFr hbl
          rw [← hal] at hlt' q0 q1 q2 HDl HKl2 HBi ⊢
          rw [← hkn] at HC q2
          rw [← hFL] at HC HIS ⊢
          clear hal hkn hbi hFL
          have c0 : wr.cell? ⟨w.heap.size, 0, none⟩ = some (.int .i64 xk) := (hBr.cell (p := ⟨w.heap.size, 0, none⟩) hsz0).trans ((cell_of_blk HB0.out 0).trans rfl)
          have hw : IntKind.i64.wrap ((d : Int) + (bi : Int)) = ((d + bi : Nat) : Int) := by rw [IntWalk.i64_in _ ⟨by omega, by omega⟩]; omega
          go_wp2_with fail
          obtain ⟨w3, hw3⟩ : ∃ w3, w3 = wr.alloc (.cells #[.int .i64 y.k, .int .i64 y.n, .slice yad kn yc] 50) := ⟨_, rfl⟩
          rw [← hw3]
          have hb3 : w3.heap[wr.heap.size]? = some (.cells #[.int .i64 y.k, .int .i64 y.n, .slice yad kn yc] 50) := by rw [hw3]; exact heap_alloc_new _ _
          have hBr3 : Below wr.heap.size wr w3 := by rw [hw3]; exact (Below.refl _ _).alloc (Nat.le_refl _) _
          have hsz3 : wr.heap.size < w3.heap.size := (Array.getElem?_eq_some_iff.1 hb3).1
          have hszr : w0.heap.size ≤ wr.heap.size := hBr.size
          have e0 : w3.cell? ⟨wr.heap.size, 0, none⟩ = some (.int .i64 y.k) := (cell_of_blk hb3 0).trans rfl
          have e1 : w3.cell? ⟨wr.heap.size, 1, none⟩ = some (.int .i64 y.n) := (cell_of_blk hb3 1).trans rfl
          have e2 : w3.cell? ⟨wr.heap.size, 2, none⟩ = some (.slice yad kn yc) := (cell_of_blk hb3 2).trans rfl
          have e3 : w3.cell? ⟨w.heap.size, 0, none⟩ = some (.int .i64 xk) := (hBr3.cell (p := ⟨w.heap.size, 0, none⟩) (by show w.heap.size < _; omega)).trans c0
          have hB3 : Below w0.heap.size w0 w3.drew := belowDrew (hBr.trans (hBr3.mono hBr.size))
          have HI3 : Hid (IS w3.drew (.slice rad FL rc) fo) := hide (HIS.out.below (belowDrew hBr3))
          have HB3 := hide hB3
          clear hw3 hb3 hBr3 q0 q1 q2 c0 hB3
          go_region_held3 (fun w' => w'.cell? ⟨wr.heap.size, 0, none⟩ = some (.int .i64 y.k) ∧ w'.cell? ⟨wr.heap.size, 1, none⟩ = some (.int .i64 y.n) ∧ w'.cell? ⟨wr.heap.size, 2, none⟩ = some (.slice yad kn yc) ∧ w'.cell? ⟨w.heap.size, 0, none⟩ = some (.int .i64 xk)) (go_keep)
            (first
              | (go_at_call 66; refine (HBi.out _).mono ?_; rintro e w' ⟨rfl, rfl⟩)
              | (go_at_call 38; refine Calls.mono (HC.out _ HB3.out HI3.out) ?_; rintro e w5 ⟨s5, rfl, hs5, hb5⟩; obtain ⟨pad, pc, rfl⟩ := hs5.form; have HS5 := hide hs5; have HB5 := hide hb5; clear hs5 hb5; have f0 := (HB5.out.cell (p := ⟨wr.heap.size, 0, none⟩) hsz3).trans e0; have f1 := (HB5.out.cell (p := ⟨wr.heap.size, 1, none⟩) hsz3).trans e1; have f2 := (HB5.out.cell (p := ⟨wr.heap.size, 2, none⟩) hsz3).trans e2; have f3 := (HB5.out.cell (p := ⟨w.heap.size, 0, none⟩) (show w.heap.size < w3.heap.size by omega)).trans e3))
          have hB5 : Below w0.heap.size w0 w5 := HB3.out.trans (HB5.out.mono HB3.out.size)
          clear f0 f1 f2 f3 e0 e1 e2 e3
          have hkl2 := HKl2.out
          go_wp2_with fail
          exact ⟨⟨a.app (.cons y ky .nil), b, HSn.out, by rw [HDl.out]; go_num, by rw [HFr.out]; exact HS5.out, hB5⟩, by simp [intOf]; omega⟩

/-- The variables that are bound nowhere. -/
def freT : F → List Int
  | .nil => []
  | .cons x k _ => fr1 0 x k []
end Go.Proofs.YtnmkbpflbfhpnaaGreat.W

/-
  Trees told as cells by the specification: contracts of l3Flat and l3Tell. Conditions: at most 1048576 cells.
-/
namespace Go.Proofs.YtnmkbpflbfhpnaaGreat.W
open Go.ChangeShapes Go.WideShapes Go.ChangeAt Go.RowKit
set_option linter.unusedVariables false

def L3TGoal (k : F) : Prop := ∀ (x : Cc) (s v : Value) (base n : Nat) (xs : List Value) (P : Nat → Prop) (w : World), (∀ g, P g → g < w.heap.size → v.ownBlock ≠ some g) → n + (k.flat.length + 1) ≤ 1048576 → base ≤ w.heap.size → KidT w P k s → w.ownsRow base 46 2 v n xs →
    Calls Tryz.prog 18 #[.agg #[.int .i64 x.k, .int .i64 x.n, s], v] w fun e w' => ∃ v', e = .returned v' ∧ w'.ownsRow base 46 2 v' (n + (k.flat.length + 1)) (xs ++ cv (x :: k.flat)) ∧ w.grownBy w' v.ownBlock ∧ Apart w v v'

set_option maxRecDepth 20000 in
set_option maxHeartbeats 2000000 in
theorem l3Flat_any : ∀ k, L3TGoal k := by
  apply F.rec_kids
  intro k ih x s v base n xs P w hsep hn hb hT hown
  have IH := hide ih
  have HT := hide hT
  have HO := hide hown
  have HSep := hide hsep
  obtain ⟨sad, sc, rfl⟩ := hT.form
  obtain ⟨ad, c, rfl⟩ := iOwn_form hown
  obtain ⟨i0, hi0, hz0, hz1, hz2⟩ := infoPartsT infoCe
  have Hi := hide hi0
  have M1 : Hid (n + 1 ≤ maxLen) := hide (by unfold maxLen; omega)
  clear ih hT hown hsep hi0
  have hkl := F.len_flat k
  obtain ⟨KL, hKL⟩ : ∃ KL, KL = k.len := ⟨_, rfl⟩
  rw [← hKL] at HT hkl ⊢
  have HKL := hide hKL
  clear hKL
  obtain ⟨xk, xn⟩ := x
  simp only
  go_enter Tryz.func18, Tryz.ntmps18
  go_wp2_with (at_builtin; refine wpList_append_sep rfl _ _ 23 rfl base 46 i0 (.agg #[.int .i64 0, .int .i64 0]) 2 16 Tryz.underlying23 Hi.out hz0 hz1 hz2 rfl (by decide) _ n xs rfl ((HO.out.alloc _).alloc _) ⟨w.heap.size + 1, 0, none⟩ 1 1 [.int .i64 xk, .int .i64 xn] rfl rfl (c2_news (by have := heap_alloc_new (w.alloc (.cells #[.int .i64 xk, .int .i64 xn, .slice sad KL sc] 50)) (.cells #[.int .i64 xk, .int .i64 xn] 46); simpa using this)) (c2_one _ _) M1.out (by omega) (by simp; omega) ?_)
  intro v1 w1 hown1 hgrow1 hap1
  obtain ⟨ad1, c1, rfl⟩ := iOwn_form hown1
  have hol : ∀ k, (Value.slice ad n c).ownBlock = some k → k < w.heap.size := fun k hk => (HO.out.lt k hk).2
  have HO1 := hide hown1
  have g1 : w.grownBy w1 (Value.slice ad n c).ownBlock := grownT (grownA w (.cells #[.int .i64 xk, .int .i64 xn, .slice sad KL sc] 50) _) (grownT (grownA _ (.cells #[.int .i64 xk, .int .i64 xn] 46) _) hgrow1 (fun k hk => .inl hk)) (fun k hk => .inl hk)
  have HG1 := hide g1
  have HA1 : Hid (Apart w (.slice ad n c) (.slice ad1 (n + 1) c1)) := hide (fun g hg => by
    rcases hap1 g hg with h | h
    · exact .inl h
    · right; simp at h; omega)
  have y2 : w1.cell? ⟨w.heap.size, 2, none⟩ = some (.slice sad KL sc) := hgrow1.cell (a := ⟨w.heap.size, 2, none⟩) (by simp) (fun e => by have := hol w.heap.size e.symm; omega)
  have HP : Hid (KidT w (fun g => P g ∧ g < w.heap.size) k (.slice sad KL sc)) := hide (HT.out.weak (fun g h1 h2 => ⟨h1, h2⟩))
  clear hown1 hgrow1 hap1 g1
  go_wp2_with fail
  clear y2
  go_loopw [1, 18] (fun v1 i w' => ∃ a b : F, k = a.app b ∧ i = .int .i64 (a.len : Int) ∧ w'.ownsRow base 46 2 v1 (n + (a.flat.length + 1)) (xs ++ cv (⟨xk, xn⟩ :: a.flat)) ∧ w.grownBy w' (Value.slice ad n c).ownBlock ∧ Apart w (.slice ad n c) v1) (fun _ i _ => KL - (intOf i).toNat)
  case atStart => exact ⟨.nil, k, rfl, rfl, HO1.out, HG1.out, HA1.out⟩
  case round =>
    obtain ⟨a, b, hk, rfl, hown, hg, hap⟩ := hrel
    obtain ⟨rad, rc, hform⟩ := iOwn_form hown
    subst hform
    have HOr := hide hown
    have HGr := hide hg
    have HAr := hide hap
    clear hown hg hap HO1 HG1 HA1
    cases b with
    | nil =>
      rw [F.app_nil] at hk
      subst hk
      have hKL := HKL.out
      rw [← hKL]
      clear hKL
      go_wp2_with fail
      go_ret
      exact ⟨_, rfl, HOr.out, HGr.out, HAr.out⟩
    | cons y ky b =>
      have hkl2 : KL = a.len + (b.len + 1) := by rw [HKL.out, hk, F.app_len]; rfl
      have hlt' : (a.len : Int) < (KL : Int) := by omega
      have hfk : k.flat.length = a.flat.length + (1 + ky.flat.length + b.flat.length) := by rw [hk, F.app_flat]; simp [F.flat]; omega
      have hI := IH.out
      rw [hk] at hI
      obtain ⟨g, cap, sy, he, hPg, hg, hTy, p0, p1, p2⟩ := KidT.kid (a := a) (k := ky) (r := b) (x := y) (s := .slice sad KL sc) (by rw [← hk]; exact HP.out)
      simp only [Value.slice.injEq] at he
      obtain ⟨rfl, -, rfl⟩ := he
      have hng : (Value.slice ad n c).ownBlock ≠ some g := HSep.out g hPg.1 hPg.2
      have q0 := HGr.out.cell p0 (fun e => hng e.symm)
      have q1 := HGr.out.cell p1 (fun e => hng e.symm)
      have q2 := HGr.out.cell p2 (fun e => hng e.symm)
      have hszr := HGr.out.size
      have hkeep : ∀ g, (P g ∧ g < w.heap.size) → g < w.heap.size → wr.heap[g]? = w.heap[g]? ∧ (P g ∧ g < w.heap.size) := fun g h1 h2 => ⟨HGr.out.block g h2 (fun e => HSep.out g h1.1 h1.2 e.symm), h1⟩
      have hTr : KidT wr (fun g => P g ∧ g < w.heap.size) ky sy := hTy.keep hszr hkeep
      have hse : ∀ g, (P g ∧ g < w.heap.size) → (Value.slice rad (n + (a.flat.length + 1)) rc).ownBlock ≠ some g := fun g h1 e => by
        rcases HAr.out g e with h | h
        · exact HSep.out g h1.1 h1.2 h
        · omega
      have HC := hide (F.all_at hI y sy (.slice rad (n + (a.flat.length + 1)) rc) base (n + (a.flat.length + 1)) (xs ++ cv (⟨xk, xn⟩ :: a.flat)) (fun g => P g ∧ g < w.heap.size) (wr.alloc (.cells #[.int .i64 y.k, .int .i64 y.n, sy] 50)) (fun g h1 _ => hse g h1) (by omega) (by simp; omega) (hTr.below ((Below.refl _ _).alloc (Nat.le_refl _) _)) (HOr.out.alloc _))
      obtain ⟨yad, yc, rfl⟩ := hTy.form
      have HSn := hide (hk.trans (F.app_snoc a ky b y))
      have HDl : Hid ((a.app (.cons y ky .nil)).len = a.len + 1) := hide (by rw [F.app_len]; rfl)
      have HDf : Hid ((a.app (.cons y ky .nil)).flat = a.flat ++ (y :: ky.flat)) := hide (by rw [F.app_flat]; simp [F.flat])
      have HKl2 := hide hkl2
      clear p0 p1 p2 hTy hTr hI hk hkl2 hfk hkeep hse
      obtain ⟨al, hal⟩ : ∃ al, al = a.len := ⟨_, rfl⟩
      obtain ⟨kn, hkn⟩ : ∃ kn, kn = ky.len := ⟨_, rfl⟩
      obtain ⟨NN, hNN⟩ : ∃ NN, NN = n + (a.flat.length + 1) := ⟨_, rfl⟩
      rw [← hal] at hlt' q0 q1 q2 HDl HKl2 ⊢
      rw [← hkn] at HC q2
      rw [← hNN] at HC HOr HAr ⊢
      have HNN := hide hNN
      clear hal hkn hNN
      go_wp2_with fail
      refine Calls.mono HC.out ?_
      rintro e w2 ⟨v2, rfl, ho2, hg2, ha2⟩
      obtain ⟨ad2, c2, rfl⟩ := iOwn_form ho2
      have HO2 := hide ho2
      have HG2 : Hid (w.grownBy w2 (Value.slice ad n c).ownBlock) := hide (grownT (grownT HGr.out (grownA wr _ _) (fun k hk => .inl hk)) hg2 (fun k hk => HAr.out k hk))
      have HA2 : Hid (Apart w (.slice ad n c) (.slice ad2 (NN + (ky.flat.length + 1)) c2)) := hide (apartT HAr.out ha2 (by simp; omega))
      clear ho2 hg2 ha2 HC q0 q1 q2
      go_wp2_with fail
      have hkl2 := HKl2.out
      refine ⟨⟨a.app (.cons y ky .nil), b, HSn.out, by rw [HDl.out]; go_num, ?_, HG2.out, HA2.out⟩, by simp [intOf]; omega⟩
      have h3 := HO2.out
      rw [HDf.out]
      have e1 : n + ((a.flat ++ (y :: ky.flat)).length + 1) = NN + (ky.flat.length + 1) := by rw [HNN.out]; simp; omega
      have e2 : xs ++ cv (⟨xk, xn⟩ :: (a.flat ++ (y :: ky.flat))) = xs ++ cv (⟨xk, xn⟩ :: a.flat) ++ cv (y :: ky.flat) := by rw [← List.cons_append, cv_app, List.append_assoc]
      rw [e1, e2]
      exact h3

set_option maxRecDepth 20000 in
set_option maxHeartbeats 1000000 in
theorem l3Tell_any (x : Cc) (k : F) (s : Value) (P : Nat → Prop) (w : World) (hl : k.flat.length + 1 ≤ 1048576) (hT : KidT w P k s) :
    Calls Tryz.prog 40 #[.agg #[.int .i64 x.k, .int .i64 x.n, s]] w fun e w' => ∃ s', e = .returned (.tuple #[s', .bool (goodT (x :: k.flat))]) ∧ w'.ownsRow w.heap.size 46 2 s' (gd (x :: k.flat)).length (cv (gd (x :: k.flat))) ∧ Below w.heap.size w w' := by
  obtain ⟨sad, sc, rfl⟩ := hT.form
  have HT := hide hT
  obtain ⟨cs, hcs⟩ : ∃ cs, cs = x :: k.flat := ⟨_, rfl⟩
  have hlc : cs.length ≤ 1048576 := by rw [hcs]; simpa using hl
  have HC := hide (fun (w' : World) (hw : Below w.heap.size w w') => l3Flat_any k x (.slice sad k.len sc) (.slice none 0 0) w.heap.size 0 [] P w' (fun g _ _ => by simp [Value.ownBlock]) (by omega) hw.size (HT.out.below hw) (World.ownsRow_nil _ _ _ _))
  have hlen : 0 + (k.flat.length + 1) = cs.length := by rw [hcs]; simp
  rw [hlen, List.nil_append, ← hcs] at HC
  rw [← hcs]
  have HG := hide (fun (ad : Option Addr) (c : Nat) (w : World) (h : CRow w ad cs) => specGoodT_any ad c cs w hlc h)
  obtain ⟨KL, hKL⟩ : ∃ KL, KL = k.len := ⟨_, rfl⟩
  rw [← hKL] at HT HC ⊢
  clear hT hcs hlen hKL
  by_cases hgd : goodT cs = true
  · have e1 : gd cs = cs := if_pos hgd
    rw [e1, hgd]
    rw [hgd] at HG
    clear hgd e1
    go_enter Tryz.func40, Tryz.ntmps40
    go_wp2_with fail
    refine Calls.mono (HC.out _ ((Below.refl _ _).alloc (Nat.le_refl _) _)) ?_
    rintro e w1 ⟨v1, rfl, ho1, hg1, -⟩
    obtain ⟨ad, c, rfl, hlc2, hR⟩ := cOwn_row ho1
    have HO := hide ho1
    have HR := hide hR
    have hB1 : Below w.heap.size w w1 := ((Below.refl _ _).alloc (Nat.le_refl _) _).trans ⟨hg1.os, hg1.tape, hg1.output, hg1.size, fun k hk => hg1.block k (by simp; omega) (by simp [Value.ownBlock])⟩
    clear ho1 hR hg1
    go_wp2_with fail
    refine (HG.out _ _ _ HR.out).mono ?_
    rintro e w2 ⟨rfl, hb2⟩
    have hB2 : Below w.heap.size w w2 := hB1.trans (hb2.mono hB1.size)
    have HO2 := hide (tOwn_keep HO.out (fun k _ hk => hb2.block k hk))
    clear hb2
    go_wp2_with fail
    exact bodyPost_ret (v := .tuple #[.slice ad cs.length c, .bool true]) (by simp [results, Tryz.results40, go_sem]) rfl ⟨_, rfl, HO2.out, hB2⟩
  · have e1 : gd cs = [] := if_neg hgd
    rw [Bool.not_eq_true] at hgd
    rw [e1, hgd]
    rw [hgd] at HG
    clear hgd e1
    go_enter Tryz.func40, Tryz.ntmps40
    go_wp2_with fail
    refine Calls.mono (HC.out _ ((Below.refl _ _).alloc (Nat.le_refl _) _)) ?_
    rintro e w1 ⟨v1, rfl, ho1, hg1, -⟩
    obtain ⟨ad, c, rfl, hlc2, hR⟩ := cOwn_row ho1
    have HO := hide ho1
    have HR := hide hR
    have hB1 : Below w.heap.size w w1 := ((Below.refl _ _).alloc (Nat.le_refl _) _).trans ⟨hg1.os, hg1.tape, hg1.output, hg1.size, fun k hk => hg1.block k (by simp; omega) (by simp [Value.ownBlock])⟩
    clear ho1 hR hg1
    go_wp2_with fail
    refine (HG.out _ _ _ HR.out).mono ?_
    rintro e w2 ⟨rfl, hb2⟩
    have hB2 : Below w.heap.size w w2 := hB1.trans (hb2.mono hB1.size)
    have HO2 := hide (tOwn_keep HO.out (fun k _ hk => hb2.block k hk))
    clear hb2
    go_wp2_with fail
    exact bodyPost_ret (v := .tuple #[.slice none 0 0, .bool false]) (by simp [results, Tryz.results40, go_sem]) rfl ⟨_, rfl, World.ownsRow_nil _ _ _ _, hB2⟩
end Go.Proofs.YtnmkbpflbfhpnaaGreat.W

/-
  Terms shifted by the specification: a contract of l3Shift. Conditions: as the theorem states.
-/
namespace Go.Proofs.YtnmkbpflbfhpnaaGreat.W
open Go.ChangeShapes Go.WideShapes Go.ChangeAt Go.RowKit
set_option linter.unusedVariables false

def shc (by_ : Int) (f : Nat) (x : Cc) : Cc := if x.k = 1 ∧ (f : Int) ≤ x.n then ⟨x.k, x.n + by_⟩ else x
/-- Terms shifted: the kids from i on of a term of kind pk. -/
def shf (by_ : Int) (pk : Int) (f : Nat) : Nat → F → F
  | _, .nil => .nil
  | i, .cons x k r => .cons (shc by_ (f + binds pk i) x) (shf by_ x.k (f + binds pk i) 0 k) (shf by_ pk f (i + 1) r)
theorem shf_app (by_ pk : Int) (f : Nat) : ∀ (a b : F) (i : Nat), shf by_ pk f i (a.app b) = (shf by_ pk f i a).app (shf by_ pk f (i + a.len) b)
  | .nil, b, i => rfl
  | .cons x k r, b, i => by
    simp only [F.app, shf, shf_app by_ pk f r b, F.len]
    rw [show i + 1 + r.len = i + (r.len + 1) by omega]
theorem shf_len (by_ pk : Int) (f : Nat) : ∀ (a : F) (i : Nat), (shf by_ pk f i a).len = a.len
  | .nil, _ => rfl
  | .cons x k r, i => by simp [shf, F.len, shf_len by_ pk f r]
theorem shf_flat (by_ : Int) : ∀ (a : F) (pk : Int) (f i : Nat), (shf by_ pk f i a).flat.length = a.flat.length
  | .nil, _, _, _ => rfl
  | .cons x k r, pk, f, i => by simp [shf, F.flat, shf_flat by_ k, shf_flat by_ r]

def L3HGoal (k : F) : Prop := ∀ (x : Cc) (s : Value) (by_ : Int) (f : Nat) (P : Nat → Prop) (w : World), -1000000 ≤ x.n → x.n ≤ 1000000 → -1000 ≤ by_ → by_ ≤ 1000 → k.len = ar x.k → k.ok → f + k.flat.length ≤ 2000000 → KidT w P k s →
    Calls Tryz.prog 67 #[.agg #[.int .i64 x.k, .int .i64 x.n, s], .int .i64 by_, .int .i64 (f : Int)] w fun e w' => ∃ s', e = .returned (.agg #[.int .i64 (shc by_ f x).k, .int .i64 (shc by_ f x).n, s']) ∧ KidT w' (fun g => w.heap.size ≤ g) (shf by_ x.k f 0 k) s' ∧ Below w.heap.size w w'

/-- A kid more behind a tree's kids. -/
theorem row_step {wr w5 w6 : World} {B : Obj} {b0 O al g6 cap6 : Nat} {own : Option Nat} {F1 kk : F} {cs : List Value} {zz : Cc} {s5 : Value} {T : TypeId} {x0 x1 sO : Value}
    (h5 : Below wr.heap.size wr w5) (hK : KidsAt wr (fun g => b0 ≤ g ∧ own ≠ some g) F1 cs) (hT : KidT w5 (fun g => wr.heap.size ≤ g) kk s5)
    (ho : w6.ownsRow b0 T 3 (.slice (some ⟨g6, 0, none⟩) (al + 1) cap6) (al + 1) (cs ++ tC zz s5)) (hg : (w5.alloc B).grownBy w6 own) (hat : own = some g6 ∨ g6 = (w5.alloc B).heap.size)
    (hl : ∀ k, own = some k → b0 ≤ k ∧ k < wr.heap.size) (hO : O < b0) (hb : b0 ≤ wr.heap.size) (hOc : wr.heap[O]? = some (.cells #[x0, x1, sO] T (0, 0))) :
    KidsAt (w6.setCell ⟨O, 2, none⟩ (.slice (some ⟨g6, 0, none⟩) (al + 1) cap6)) (fun g => b0 ≤ g ∧ (Value.slice (some ⟨g6, 0, none⟩) (al + 1) cap6).ownBlock ≠ some g) (F1.app (.cons zz kk .nil)) (cs ++ tC zz s5) ∧
    (w6.setCell ⟨O, 2, none⟩ (.slice (some ⟨g6, 0, none⟩) (al + 1) cap6)).ownsRow b0 T 3 (.slice (some ⟨g6, 0, none⟩) (al + 1) cap6) (al + 1) (cs ++ tC zz s5) ∧
    Holds (w6.setCell ⟨O, 2, none⟩ (.slice (some ⟨g6, 0, none⟩) (al + 1) cap6)) (fun g => b0 ≤ g) (.slice (some ⟨g6, 0, none⟩) (al + 1) cap6) (al + 1) (cs ++ tC zz s5) ∧
    (∀ k, k < b0 → k ≠ O → (w6.setCell ⟨O, 2, none⟩ (.slice (some ⟨g6, 0, none⟩) (al + 1) cap6)).heap[k]? = wr.heap[k]?) ∧
    (w6.setCell ⟨O, 2, none⟩ (.slice (some ⟨g6, 0, none⟩) (al + 1) cap6)).heap[O]? = some (.cells #[x0, x1, .slice (some ⟨g6, 0, none⟩) (al + 1) cap6] T (0, 0)) ∧
    wr.heap.size ≤ (w6.setCell ⟨O, 2, none⟩ (.slice (some ⟨g6, 0, none⟩) (al + 1) cap6)).heap.size ∧ Below O wr (w6.setCell ⟨O, 2, none⟩ (.slice (some ⟨g6, 0, none⟩) (al + 1) cap6)) := by
  have hs5 := h5.size
  have hs6 : w5.heap.size + 1 ≤ w6.heap.size := by have := hg.size; simpa using this
  have hbf : ∀ k, k ≠ O → (w6.setCell ⟨O, 2, none⟩ (.slice (some ⟨g6, 0, none⟩) (al + 1) cap6)).heap[k]? = w6.heap[k]? := fun k hk => Below.heap_setCell _ _ _ _ hk
  have hss : (w6.setCell ⟨O, 2, none⟩ (.slice (some ⟨g6, 0, none⟩) (al + 1) cap6)).heap.size = w6.heap.size := by simp [World.setCell]
  have hk6 : ∀ k, own ≠ some k → k < w5.heap.size → w6.heap[k]? = w5.heap[k]? := fun k hn hlt => by
    rw [hg.block k (by simp; omega) (fun e => hn e.symm), heap_alloc_old _ _ hlt]
  have hg6 : ∀ k, k < w5.heap.size → own ≠ some k → (Value.slice (some ⟨g6, 0, none⟩) (al + 1) cap6).ownBlock ≠ some k := fun k hlt hn e => by
    simp only [Value.ownBlock, Option.some.injEq] at e
    subst e
    rcases hat with h | h
    · exact hn h
    · simp at h; omega
  have hgl : b0 ≤ g6 ∧ g6 < w6.heap.size := ho.lt g6 rfl
  have k1 : KidsAt (w6.setCell ⟨O, 2, none⟩ (.slice (some ⟨g6, 0, none⟩) (al + 1) cap6)) (fun g => b0 ≤ g ∧ (Value.slice (some ⟨g6, 0, none⟩) (al + 1) cap6).ownBlock ≠ some g) F1 cs := by
    refine hK.keep (by rw [hss]; omega) (fun k hk1 hk2 => ⟨?_, hk1.1, hg6 k (by omega) hk1.2⟩)
    rw [hbf k (by omega), hk6 k hk1.2 (by omega), h5.block k hk2]
  have hown : ∀ k, wr.heap.size ≤ k → own ≠ some k := fun k hk e => by have := (hl k e).2; omega
  have k2 : KidT (w6.setCell ⟨O, 2, none⟩ (.slice (some ⟨g6, 0, none⟩) (al + 1) cap6)) (fun g => b0 ≤ g ∧ (Value.slice (some ⟨g6, 0, none⟩) (al + 1) cap6).ownBlock ≠ some g) kk s5 := by
    refine hT.keep (by rw [hss]; omega) (fun k hk1 hk2 => ⟨?_, by omega, hg6 k hk2 (hown k hk1)⟩)
    rw [hbf k (by omega), hk6 k (hown k hk1) hk2]
  have hall : ∀ k, k < b0 → k ≠ O → (w6.setCell ⟨O, 2, none⟩ (.slice (some ⟨g6, 0, none⟩) (al + 1) cap6)).heap[k]? = wr.heap[k]? := fun k hk1 hk2 => by
    rw [hbf k hk2, hk6 k (fun e => by have := (hl k e).1; omega) (by omega), h5.block k (by omega)]
  have hO6 : w6.heap[O]? = some (.cells #[x0, x1, sO] T (0, 0)) := by
    rw [hk6 O (fun e => by have := (hl O e).1; omega) (by omega), h5.block O (by omega)]; exact hOc
  refine ⟨KidsAt.app k1 ⟨s5, [], (List.append_nil _).symm, k2, rfl⟩, tOwn_keep ho (fun k hk1 hk2 => hbf k (by omega)), ?_, hall, ?_, by rw [hss]; omega, ?_⟩
  · obtain ⟨g, cap, he, hgb, hgs, hgc⟩ := tOwn_lies ho (by omega)
    simp only [Value.slice.injEq, Option.some.injEq, Addr.mk.injEq, and_true, true_and] at he
    obtain ⟨rfl, rfl⟩ := he
    refine .inr ⟨by omega, _, _, rfl, hgb, by rw [hss]; exact hgs, fun j v hj => ?_⟩
    rw [World.cell?_of_block (w := w6) (hbf _ (by dsimp only; omega))]
    exact hgc j v hj
  · rw [blk_setCell hO6]; rfl
  · refine ⟨?_, ?_, ?_, by rw [hss]; omega, fun k hk => hall k (by omega) (by omega)⟩
    · exact hg.os.trans h5.os
    · exact hg.tape.trans h5.tape
    · exact hg.output.trans h5.output

set_option maxRecDepth 20000 in
set_option maxHeartbeats 8000000 in
theorem l3Shift_any : ∀ k, L3HGoal k := by
  apply F.rec_kids
  intro k ih x s by_ f P w hn1 hn2 hb1 hb2 hka hko hd hT
  have IH := hide ih
  have HT := hide hT
  have HKO := hide hko
  obtain ⟨sad, sc, rfl⟩ := hT.form
  clear ih hT hko
  obtain ⟨i0, hi0, hz0, hz1, hz2⟩ := infoPartsT infoT
  have Hi := hide hi0
  clear hi0
  have hkl := F.len_flat k
  obtain ⟨KL, hKL⟩ : ∃ KL, KL = k.len := ⟨_, rfl⟩
  rw [← hKL] at HT hkl ⊢
  have HKL := hide hKL
  clear hKL
  obtain ⟨xk, xn⟩ := x
  simp only at *
  obtain ⟨z, hz⟩ : ∃ z, z = shc by_ f ⟨xk, xn⟩ := ⟨_, rfl⟩
  rw [← hz]
  by_cases hx0 : xk = 1
  · subst hx0
    have hk0 : k = .nil := F.len_0 (by rw [hka]; rfl)
    subst hk0
    obtain rfl : KL = 0 := HKL.out
    clear HKL hka hkl IH
    by_cases hx1 : (f : Int) ≤ xn
    · have hz' : z = ⟨1, xn + by_⟩ := by rw [hz]; exact if_pos ⟨rfl, hx1⟩
      subst hz'
      clear hz
      go_enter Tryz.func67, Tryz.ntmps67
      go_wp2_with fail
      go_loopw [32] (fun i w' => i = .int .i64 0 ∧ w' = (((w.alloc (.cells #[.int .i64 1, .int .i64 xn, .slice sad 0 sc] 50)).alloc (.cells #[.int .i64 0, .int .i64 0, .slice none 0 0] 50)).alloc (.cells #[.int .i64 1, .int .i64 (xn + by_), .slice none 0 0] 50))) (fun _ _ => 0)
      case atStart => exact ⟨rfl, rfl⟩
      case round =>
        obtain ⟨rfl, rfl⟩ := hrel
        go_wp2_with fail
        exact bodyPost_ret (v := .agg #[.int .i64 1, .int .i64 (xn + by_), .slice none 0 0]) (by simp [results, Tryz.results67, go_sem]) rfl ⟨_, rfl, KidT.nil, (((Below.refl _ _).alloc (Nat.le_refl _) _).alloc (by simp) _).alloc (by simp; omega) _⟩
    · have hz' : z = ⟨1, xn⟩ := by rw [hz]; exact if_neg (fun h => hx1 h.2)
      subst hz'
      clear hz
      go_enter Tryz.func67, Tryz.ntmps67
      go_wp2_with fail
      go_loopw [32] (fun i w' => i = .int .i64 0 ∧ w' = (((w.alloc (.cells #[.int .i64 1, .int .i64 xn, .slice sad 0 sc] 50)).alloc (.cells #[.int .i64 0, .int .i64 0, .slice none 0 0] 50)).alloc (.cells #[.int .i64 1, .int .i64 (xn), .slice none 0 0] 50))) (fun _ _ => 0)
      case atStart => exact ⟨rfl, rfl⟩
      case round =>
        obtain ⟨rfl, rfl⟩ := hrel
        go_wp2_with fail
        exact bodyPost_ret (v := .agg #[.int .i64 1, .int .i64 (xn), .slice none 0 0]) (by simp [results, Tryz.results67, go_sem]) rfl ⟨_, rfl, KidT.nil, (((Below.refl _ _).alloc (Nat.le_refl _) _).alloc (by simp) _).alloc (by simp; omega) _⟩
  · have hz' : z = ⟨xk, xn⟩ := by rw [hz]; exact if_neg (fun h => hx0 h.1)
    subst hz'
    clear hz hka
    go_enter Tryz.func67, Tryz.ntmps67
    go_wp2_with fail
    obtain ⟨T0, hT0⟩ : ∃ T0, T0 = w.heap.size := ⟨_, rfl⟩
    obtain ⟨w0, hw0⟩ : ∃ w0, w0 = (((w.alloc (.cells #[.int .i64 xk, .int .i64 xn, .slice sad KL sc] 50)).alloc (.cells #[.int .i64 0, .int .i64 0, .slice none 0 0] 50)).alloc (.cells #[.int .i64 xk, .int .i64 xn, .slice none 0 0] 50)) := ⟨_, rfl⟩
    have hB0 : Below w.heap.size w w0 := by rw [hw0]; exact (((Below.refl _ _).alloc (Nat.le_refl _) _).alloc (by simp) _).alloc (by simp; omega) _
    have hbT : w0.heap[w.heap.size]? = some (.cells #[.int .i64 xk, .int .i64 xn, .slice sad KL sc] 50) := by rw [hw0, heap_alloc_old _ _ (by simp; omega), heap_alloc_old _ _ (by simp)]; exact heap_alloc_new _ _
    have hbR : w0.heap[w.heap.size + 1]? = some (.cells #[.int .i64 0, .int .i64 0, .slice none 0 0] 50) := by rw [hw0, heap_alloc_old _ _ (by simp)]; have := heap_alloc_new (w.alloc (.cells #[.int .i64 xk, .int .i64 xn, .slice sad KL sc] 50)) (.cells #[.int .i64 0, .int .i64 0, .slice none 0 0] 50); simpa using this
    have hbO : w0.heap[w.heap.size + 1 + 1]? = some (.cells #[.int .i64 xk, .int .i64 xn, .slice none 0 0] 50) := by rw [hw0]; have := heap_alloc_new ((w.alloc (.cells #[.int .i64 xk, .int .i64 xn, .slice sad KL sc] 50)).alloc (.cells #[.int .i64 0, .int .i64 0, .slice none 0 0] 50)) (.cells #[.int .i64 xk, .int .i64 xn, .slice none 0 0] 50); simpa using this
    have hsz0 : w0.heap.size = w.heap.size + 1 + 1 + 1 := by rw [hw0]; simp
    rw [← hw0]
    have HT0 := hide hbT
    have HR0 := hide hbR
    have HO0 := hide hbO
    have HSz0 := hide hsz0
    clear hw0 hbT hbR hbO hsz0 hT0
    go_loopw [32] (fun i w' => ∃ (a b : F) (s : Value) (cs : List Value), k = a.app b ∧ i = .int .i64 (a.len : Int) ∧ Below w.heap.size w w' ∧ w0.heap.size ≤ w'.heap.size ∧ w'.heap[w.heap.size]? = some (.cells #[.int .i64 xk, .int .i64 xn, .slice sad KL sc] 50 (0, 0)) ∧ w'.heap[w.heap.size + 1]? = some (.cells #[.int .i64 0, .int .i64 0, .slice none 0 0] 50 (0, 0)) ∧ w'.heap[w.heap.size + 1 + 1]? = some (.cells #[.int .i64 xk, .int .i64 xn, s] 50 (0, 0)) ∧
      KidsAt w' (fun g => w0.heap.size ≤ g ∧ s.ownBlock ≠ some g) (shf by_ xk f 0 a) cs ∧ w'.ownsRow w0.heap.size 50 3 s a.len cs ∧ Holds w' (fun g => w0.heap.size ≤ g) s a.len cs) (fun i _ => KL - (intOf i).toNat)
    case atStart => exact ⟨.nil, k, _, [], rfl, rfl, hB0, Nat.le_refl _, HT0.out, HR0.out, HO0.out, rfl, World.ownsRow_nil _ _ _ _, .inl ⟨rfl, rfl⟩⟩
    case round =>
      obtain ⟨a, b, so, cs, hk, rfl, hBr, hszr, hbT, hbR, hbO, hKs, hOw, hHo⟩ := hrel
      clear HT0 HR0 HO0 hB0
      have HT1 := hide hbT
      have HR1 := hide hbR
      have HO1 := hide hbO
      have HKs := hide hKs
      have HOw := hide hOw
      have HHo := hide hHo
      obtain ⟨oad, oc, hform⟩ := iOwn_form hOw
      subst hform
      clear hbT hbR hbO hKs hOw hHo
      cases b with
      | nil =>
        rw [F.app_nil] at hk
        subst hk
        have hKL := HKL.out
        rw [← hKL]
        rw [← hKL] at HO1 HHo
        clear hKL
        have z0 := cell_of_blk HR1.out 0
        have z1 := cell_of_blk HR1.out 1
        have z2 := cell_of_blk HR1.out 2
        have fz := unfrozen_of_blk HR1.out
        have y0 := cell_of_blk HO1.out 0
        have y1 := cell_of_blk HO1.out 1
        have y2 := cell_of_blk HO1.out 2
        simp only [List.getElem?_toArray, List.getElem?_cons_zero, List.getElem?_cons_succ] at z0 z1 z2 y0 y1 y2
        go_wp2_with fail
        refine bodyPost_ret (v := .agg #[.int .i64 xk, .int .i64 xn, .slice oad KL oc]) (by simp [results, Tryz.results67, go_sem, *]) rfl ⟨_, rfl, ?_, ((hBr.setCell (p := ⟨w.heap.size + 1, 0, none⟩) (by simp) _).setCell (p := ⟨w.heap.size + 1, 1, none⟩) (by simp) _).setCell (p := ⟨w.heap.size + 1, 2, none⟩) (by simp) _⟩
        have hsz := HSz0.out
        have hkk : KidT wr (fun g => w0.heap.size ≤ g) (shf by_ xk f 0 k) (.slice oad KL oc) := ⟨cs, HKs.out.keep (Nat.le_refl _) (fun g h1 _ => ⟨rfl, h1.1⟩), by rw [shf_len, ← HKL.out]; exact HHo.out⟩
        refine hkk.keep (by simp [World.setCell]) (fun g h1 h2 => ⟨?_, by omega⟩)
        have hkn : g ≠ w.heap.size + 1 := by omega
        rw [Below.heap_setCell _ _ _ _ hkn, Below.heap_setCell _ _ _ _ hkn, Below.heap_setCell _ _ _ _ hkn]
      | cons y ky b =>
        have hsz0 := HSz0.out
        have hkl2 : KL = a.len + (b.len + 1) := by rw [HKL.out, hk, F.app_len]; rfl
        have hlt' : (a.len : Int) < (KL : Int) := by omega
        have hfk : k.flat.length = a.flat.length + (1 + ky.flat.length + b.flat.length) := by rw [hk, F.app_flat]; simp [F.flat]; omega
        have hI := IH.out
        have hKO := HKO.out
        rw [hk] at hI hKO
        obtain ⟨g, cap, sy, he, hPg, hg, hTy, p0, p1, p2⟩ := KidT.kid (a := a) (k := ky) (r := b) (x := y) (s := .slice sad KL sc) (by rw [← hk]; exact HT.out)
        simp only [Value.slice.injEq] at he
        obtain ⟨rfl, -, rfl⟩ := he
        have q0 := (hBr.cell (p := ⟨g, a.len * 3, none⟩) hg).trans p0
        have q1 := (hBr.cell (p := ⟨g, a.len * 3 + 1, none⟩) hg).trans p1
        have q2 := (hBr.cell (p := ⟨g, a.len * 3 + 2, none⟩) hg).trans p2
        obtain ⟨g1, l1, o1, -⟩ := ok_cons ((F.app_ok _ _).1 hKO).2
        have hyn := good_n g1
        have hbl := binds_le xk a.len
        have HC := hide (fun (w' : World) (hw' : Below w.heap.size w w') => F.all_at hI y sy by_ (f + binds xk a.len) P w' hyn.1 hyn.2 hb1 hb2 l1 o1 (by omega) (hTy.keep hw'.size (fun k h1 h2 => ⟨hw'.block k h2, h1⟩)))
        obtain ⟨yad, yc, rfl⟩ := hTy.form
        have HSn := hide (hk.trans (F.app_snoc a ky b y))
        have HDl : Hid ((a.app (.cons y ky .nil)).len = a.len + 1) := hide (by rw [F.app_len]; rfl)
        have HSh : Hid (shf by_ xk f 0 (a.app (.cons y ky .nil)) = (shf by_ xk f 0 a).app (.cons (shc by_ (f + binds xk a.len) y) (shf by_ y.k (f + binds xk a.len) 0 ky) .nil)) := hide (by rw [shf_app, Nat.zero_add]; rfl)
        have HKl2 := hide hkl2
        have HBi := hide (l3Binds_any xk a.len)
        have hcsl := HOw.out.1
        clear p0 p1 p2 hTy hI hk hkl2 hfk hKO g1 l1 o1 hyn
        obtain ⟨al, hal⟩ : ∃ al, al = a.len := ⟨_, rfl⟩
        obtain ⟨kn, hkn⟩ : ∃ kn, kn = ky.len := ⟨_, rfl⟩
        obtain ⟨bi, hbi⟩ : ∃ bi, bi = binds xk a.len := ⟨_, rfl⟩
        obtain ⟨zz, hzz⟩ : ∃ zz, zz = shc by_ (f + binds xk a.len) y := ⟨_, rfl⟩
        obtain ⟨kk, hkk⟩ : ∃ kk, kk = shf by_ y.k (f + binds xk a.len) 0 ky := ⟨_, rfl⟩
        rw [← hzz, ← hkk] at HC HSh
        rw [← hbi] at HC HBi hbl
        rw [← hal] at hlt' q0 q1 q2 HDl HKl2 HBi HO1 HOw HHo HKs hcsl ⊢
        rw [← hkn] at HC q2
        rw [Int.natCast_add] at HC
        clear hal hkn hbi hzz hkk
        have c0 : wr.cell? ⟨w.heap.size, 0, none⟩ = some (.int .i64 xk) := (cell_of_blk HT1.out 0).trans rfl
        have c4 : wr.cell? ⟨w.heap.size + 1 + 1, 2, none⟩ = some (.slice oad al oc) := (cell_of_blk HO1.out 2).trans rfl
        have hw : IntKind.i64.wrap ((f : Int) + (bi : Int)) = (f : Int) + (bi : Int) := IntWalk.i64_in _ ⟨by omega, by omega⟩
        have hal3 : al < 2000001 := by omega
        go_wp2_with fail
        obtain ⟨w3, hw3⟩ : ∃ w3, w3 = wr.alloc (.cells #[.int .i64 y.k, .int .i64 y.n, .slice yad kn yc] 50) := ⟨_, rfl⟩
        rw [← hw3]
        have hb3 : w3.heap[wr.heap.size]? = some (.cells #[.int .i64 y.k, .int .i64 y.n, .slice yad kn yc] 50) := by rw [hw3]; exact heap_alloc_new _ _
        have hBr3 : Below wr.heap.size wr w3 := by rw [hw3]; exact (Below.refl _ _).alloc (Nat.le_refl _) _
        have hsz3 : wr.heap.size < w3.heap.size := (Array.getElem?_eq_some_iff.1 hb3).1
        have hB3 : Below w.heap.size w w3.drew := belowDrew (hBr.trans (hBr3.mono hBr.size))
        have e0 : w3.cell? ⟨wr.heap.size, 0, none⟩ = some (.int .i64 y.k) := (cell_of_blk hb3 0).trans rfl
        have e1 : w3.cell? ⟨wr.heap.size, 1, none⟩ = some (.int .i64 y.n) := (cell_of_blk hb3 1).trans rfl
        have e2 : w3.cell? ⟨wr.heap.size, 2, none⟩ = some (.slice yad kn yc) := (cell_of_blk hb3 2).trans rfl
        have e3 : w3.cell? ⟨w.heap.size, 0, none⟩ = some (.int .i64 xk) := (hBr3.cell (p := ⟨w.heap.size, 0, none⟩) (by show w.heap.size < _; omega)).trans c0
        have e4 : w3.cell? ⟨w.heap.size + 1 + 1, 2, none⟩ = some (.slice oad al oc) := (hBr3.cell (p := ⟨w.heap.size + 1 + 1, 2, none⟩) (by show w.heap.size + 1 + 1 < _; omega)).trans c4
        have HB3 := hide hB3
        have HBr3 := hide hBr3
        have hXO : ¬ wr.heap.size = w.heap.size + 1 + 1 := by omega
        have hXO' : ¬ w.heap.size + 1 + 1 = wr.heap.size := by omega
        have hTO : ¬ w.heap.size = w.heap.size + 1 + 1 := by omega
        have HNo : Hid (∀ k, (Value.slice oad al oc).ownBlock = some k → w0.heap.size ≤ k ∧ k < wr.heap.size) := hide (HOw.out.lt)
        have M1 : Hid (al + 1 ≤ maxLen) := hide (by unfold maxLen; omega)
        clear hw3 hb3 hBr3 q0 q1 q2 c0 c4 hB3
        go_region_law
          (first
            | (refine step_append_lies _ rfl _ _ 48 rfl w0.heap.size 50 i0 (.agg #[.int .i64 0, .int .i64 0, .slice none 0 0]) 3 40 Tryz.underlying48 Hi.out hz0 hz1 hz2 rfl (by decide) _ al cs rfl HOw5.out ⟨w5.heap.size, 0, none⟩ 1 1 (tC zz (.slice pad kk.len pc)) rfl rfl HNw.out (tC_one _ _ rfl) (by omega) M1.out (by omega) HBs.out _ rfl ?_; intro g6 cap6 w6 hown6 hgrow6 hat6 hlt6; have HO6 := hide hown6; have HG6 := hide hgrow6; have HA6 := hide hat6; have HO16 : Hid (w6.heap[w.heap.size + 1 + 1]? = some (.cells #[.int .i64 xk, .int .i64 xn, .slice oad al oc] 50 (0, 0))) := hide ((hgrow6.block _ HOl.out HNn.out).trans HO15.out); have f6 := (cell_of_blk HO16.out 2).trans rfl; have ff6 := unfrozen_of_blk HO16.out 2; clear hown6 hgrow6 hat6)
            | (go_simp; go_wp2_with (first | (go_at_call 66; refine (HBi.out _).mono ?_; rintro e w' ⟨rfl, rfl⟩) | (go_at_call 67; refine Calls.mono (HC.out _ HB3.out) ?_; rintro e w5 ⟨s5, rfl, hs5, hb5⟩; obtain ⟨pad, pc, rfl⟩ := hs5.form; have HS5 := hide hs5; have HB5 := hide hb5; clear hs5 hb5; have f0 := (HB5.out.cell (p := ⟨wr.heap.size, 0, none⟩) hsz3).trans e0; have f1 := (HB5.out.cell (p := ⟨wr.heap.size, 1, none⟩) hsz3).trans e1; have f2 := (HB5.out.cell (p := ⟨wr.heap.size, 2, none⟩) hsz3).trans e2; have f3 := (HB5.out.cell (p := ⟨w.heap.size, 0, none⟩) (show w.heap.size < w3.heap.size by omega)).trans e3; have f4 := (HB5.out.cell (p := ⟨w.heap.size + 1 + 1, 2, none⟩) (show w.heap.size + 1 + 1 < w3.heap.size by omega)).trans e4; have f5 : (w5.alloc (.cells #[.int .i64 zz.k, .int .i64 zz.n, .slice pad kk.len pc] 50)).cell? ⟨w.heap.size + 1 + 1, 2, none⟩ = some (.slice oad al oc) := (by rw [World.cell?_alloc_some _ _ _ (by rw [f4]; rfl)]; exact f4); have HOw5 : Hid ((w5.alloc (.cells #[.int .i64 zz.k, .int .i64 zz.n, .slice pad kk.len pc] 50)).ownsRow w0.heap.size 50 3 (.slice oad al oc) al cs) := hide ((tOwn_keep HOw.out (fun k _ hk => (HB5.out.block k (show k < w3.heap.size by omega)).trans (HBr3.out.block k hk))).alloc _); have HNw : Hid (∀ j u, (tC zz (.slice pad kk.len pc))[j]? = some u → (w5.alloc (.cells #[.int .i64 zz.k, .int .i64 zz.n, .slice pad kk.len pc] 50)).cell? ((⟨w5.heap.size, 0, none⟩ : Addr).add j) = some u) := hide (tC_cells (heap_alloc_new w5 _)); have hsz5 := HB5.out.size; have HBs : Hid (w0.heap.size ≤ (w5.alloc (.cells #[.int .i64 zz.k, .int .i64 zz.n, .slice pad kk.len pc] 50)).heap.size) := hide (by have h1 : w3.heap.size ≤ w5.heap.size := hsz5; simp; omega); have HO15 : Hid ((w5.alloc (.cells #[.int .i64 zz.k, .int .i64 zz.n, .slice pad kk.len pc] 50)).heap[w.heap.size + 1 + 1]? = some (.cells #[.int .i64 xk, .int .i64 xn, .slice oad al oc] 50 (0, 0))) := hide (by have h1 : w3.heap.size ≤ w5.heap.size := hsz5; rw [heap_alloc_old _ _ (by omega), HB5.out.block _ (show w.heap.size + 1 + 1 < w3.heap.size by omega)]; exact (HBr3.out.block _ (by omega)).trans HO1.out); have HOl : Hid (w.heap.size + 1 + 1 < (w5.alloc (.cells #[.int .i64 zz.k, .int .i64 zz.n, .slice pad kk.len pc] 50)).heap.size) := hide (Array.getElem?_eq_some_iff.1 HO15.out).1; have HNn : Hid (some (w.heap.size + 1 + 1) ≠ (Value.slice oad al oc).ownBlock) := hide (fun e => by have := (HNo.out _ e.symm).1; omega)))))
        all_goals
          have hrs := hide (row_step (F1 := shf by_ xk f 0 a) (HBr3.out.trans (show Below wr.heap.size w3 w5 from ⟨HB5.out.os, HB5.out.tape, HB5.out.output, HB5.out.size, fun k hk => HB5.out.block k (show k < w3.heap.size by omega)⟩)) HKs.out (HS5.out.weak (fun g h1 h2 => by have h3 : w3.heap.size ≤ g := h1; omega)) HO6.out HG6.out HA6.out HNo.out (show w.heap.size + 1 + 1 < w0.heap.size by omega) hszr HO1.out)
          clear HS5 HB5 f0 f1 f2 f3 f4 f5 HOw5 HNw hsz5 HBs HO15 HOl HNn HO6 HG6 HA6 HO16 f6 ff6 e0 e1 e2 e3 e4 HB3 HBr3 HNo HC HBi hXO hXO' hTO hw
          go_wp2_with fail
          obtain ⟨r1, r2, r3, r4, r5, r6, r7⟩ := hrs.out
          have hkl2 := HKl2.out
          refine ⟨⟨a.app (.cons y ky .nil), b, _, cs ++ tC zz (.slice pad kk.len pc), HSn.out, by rw [HDl.out]; go_num, hBr.trans (r7.mono (by omega)), by omega, (r4 _ (by omega) (by omega)).trans HT1.out, (r4 _ (by omega) (by omega)).trans HR1.out, r5, by rw [HSh.out]; exact r1, by rw [HDl.out]; exact r2, by rw [HDl.out]; exact r3⟩, by simp [intOf]; omega⟩
end Go.Proofs.YtnmkbpflbfhpnaaGreat.W

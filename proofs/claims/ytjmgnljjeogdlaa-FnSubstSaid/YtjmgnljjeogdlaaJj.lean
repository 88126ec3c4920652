/-
  Some texts of this proof in one: TeN, TeQm.
-/
import Derived.Test.YtjmgnljjeogdlaaJg
import Derived.Test.YtjmgnljjeogdlaaJi
/-
  Sizes and uses as the specification counts them: contracts of l3Size and l3Uses. Conditions: as the theorems state.
-/
namespace Go.Proofs.Ytjmgnljjeogdlaa.W
open Go.ChangeShapes Go.WideShapes Go.ChangeAt Go.RowKit
set_option linter.unusedVariables false

/-- How often the kids from i on of a term of kind pk use what is meant by K around it. -/
def usf (K : Nat) (pk : Int) : Nat → F → Nat
  | _, .nil => 0
  | i, .cons x k r => (if x.k = 1 ∧ x.n = ((K + binds pk i : Nat) : Int) then 1 else usf (K + binds pk i) x.k 0 k) + usf K pk (i + 1) r
def us1 (K : Nat) (x : Cc) (k : F) : Nat := if x.k = 1 ∧ x.n = (K : Int) then 1 else usf K x.k 0 k
theorem usf_cons (K : Nat) (pk : Int) (i : Nat) (x : Cc) (k r : F) : usf K pk i (.cons x k r) = us1 (K + binds pk i) x k + usf K pk (i + 1) r := rfl
theorem usf_app (pk : Int) (K : Nat) : ∀ (a b : F) (i : Nat), usf K pk i (a.app b) = usf K pk i a + usf K pk (i + a.len) b
  | .nil, b, i => by simp [F.app, usf, F.len]
  | .cons x k r, b, i => by
    simp only [F.app, usf, usf_app pk K r b, F.len]
    rw [show i + 1 + r.len = i + (r.len + 1) by omega]
    omega
theorem usf_le : ∀ (a : F) (pk : Int) (K i : Nat), usf K pk i a ≤ a.flat.length
  | .nil, _, _, _ => Nat.le_refl _
  | .cons x k r, pk, K, i => by
    have h1 := usf_le r pk K (i + 1)
    have h2 := usf_le k x.k (K + binds pk i) 0
    simp only [usf, F.flat, List.length_cons, List.length_append]
    split <;> omega
theorem us1_le (K : Nat) (x : Cc) (k : F) : us1 K x k ≤ k.flat.length + 1 := by
  have := usf_le k x.k K 0
  unfold us1
  split <;> omega

def L3UGoal (k : F) : Prop := ∀ (x : Cc) (s : Value) (K : Nat) (P : Nat → Prop) (w : World), -1000000 ≤ x.n → x.n ≤ 1000000 → k.len = ar x.k → k.ok → K + k.flat.length ≤ 1048576 → KidT w P k s →
    Calls Try.prog 57 #[.agg #[.int .i64 x.k, .int .i64 x.n, s], .int .i64 (K : Int)] w fun e w' => e = .returned (.int .i64 (us1 K x k : Int)) ∧ Below w.heap.size w w'

set_option maxRecDepth 20000 in
set_option maxHeartbeats 2000000 in
theorem l3Uses_any : ∀ k, L3UGoal k := by
  apply F.rec_kids
  intro k ih x s d P w hn1 hn2 hka hko hd hT
  have IH := hide ih
  have HT := hide hT
  have HKO := hide hko
  obtain ⟨sad, sc, rfl⟩ := hT.form
  clear ih hT hko
  by_cases hv : x.k = 1 ∧ x.n = (d : Int)
  · have hf : us1 d x k = 1 := if_pos hv
    rw [hf]
    obtain ⟨xk, xn⟩ := x
    obtain ⟨rfl, rfl⟩ := hv
    simp only at *
    obtain ⟨KL, hKL⟩ : ∃ KL, KL = k.len := ⟨_, rfl⟩
    rw [← hKL] at HT ⊢
    clear hKL hf
    go_enter Try.func57, Try.ntmps57
    go_wp2_with fail
    go_ret
    exact ⟨rfl, (Below.refl _ _).alloc (Nat.le_refl _) _⟩
  · have hf : us1 d x k = usf d x.k 0 k := if_neg hv
    rw [hf]
    obtain ⟨xk, xn⟩ := x
    simp only at *
    obtain ⟨KL, hKL⟩ : ∃ KL, KL = k.len := ⟨_, rfl⟩
    rw [← hKL] at HT ⊢
    have HKL := hide hKL
    have hkl := F.len_flat k
    rw [← hKL] at hkl
    clear hKL hf
    have hv' : xk = 1 → ¬ xn = (d : Int) := fun h1 h2 => hv ⟨h1, h2⟩
    clear hv
    by_cases hx1 : xk = 1
    · subst hx1
      have hv2 : ¬ xn = (d : Int) := hv' rfl
      have hk0 : k = .nil := F.len_0 (by rw [hka]; rfl)
      subst hk0
      obtain rfl : KL = 0 := HKL.out
      clear hv' hka HKL
      go_enter Try.func57, Try.ntmps57
      go_wp2_with fail
      go_loopw [5, 20] (fun o2 i w' => o2 = .int .i64 0 ∧ i = .int .i64 0 ∧ w' = w.alloc (.cells #[.int .i64 1, .int .i64 xn, .slice sad 0 sc] 55)) (fun _ _ _ => 0)
      case atStart => exact ⟨rfl, rfl, rfl⟩
      case round =>
        obtain ⟨rfl, rfl, rfl⟩ := hrel
        go_wp2_with fail
        go_ret
        exact ⟨rfl, (Below.refl _ _).alloc (Nat.le_refl _) _⟩
    · clear hv' hka
      go_enter Try.func57, Try.ntmps57
      go_wp2_with fail
      obtain ⟨w0, hw0⟩ : ∃ w0, w0 = w.alloc (.cells #[.int .i64 xk, .int .i64 xn, .slice sad KL sc] 55) := ⟨_, rfl⟩
      rw [← hw0]
      have hB0 : Below w.heap.size w w0 := by rw [hw0]; exact (Below.refl _ _).alloc (Nat.le_refl _) _
      have hb0 : w0.heap[w.heap.size]? = some (.cells #[.int .i64 xk, .int .i64 xn, .slice sad KL sc] 55) := by rw [hw0]; exact heap_alloc_new _ _
      have HB0 := hide hb0
      have hsz0 : w.heap.size < w0.heap.size := (Array.getElem?_eq_some_iff.1 hb0).1
      have HT0 := hide (HT.out.below hB0)
      clear hw0 hb0
      go_loopw [5, 20] (fun o2 i w' => ∃ a b : F, k = a.app b ∧ i = .int .i64 (a.len : Int) ∧ o2 = .int .i64 (usf d xk 0 a : Int) ∧ Below w0.heap.size w0 w') (fun _ i _ => KL - (intOf i).toNat)
      case atStart => exact ⟨.nil, k, rfl, rfl, rfl, Below.refl _ _⟩
      case round =>
        obtain ⟨a, b, hk, rfl, rfl, hBr⟩ := hrel
        have hBw : Below w.heap.size w wr := hB0.trans (hBr.mono hB0.size)
        cases b with
        | nil =>
          rw [F.app_nil] at hk
          subst hk
          have hKL := HKL.out
          rw [← hKL]
          clear hKL
          go_wp2_with fail
          go_ret
          exact ⟨rfl, hBw⟩
        | cons y ky b =>
          have hkl2 : KL = a.len + (b.len + 1) := by rw [HKL.out, hk, F.app_len]; rfl
          have hlt' : (a.len : Int) < (KL : Int) := by omega
          have hfk : k.flat.length = a.flat.length + (1 + ky.flat.length + b.flat.length) := by rw [hk, F.app_flat]; simp [F.flat]; omega
          have hK := HT0.out
          have hI := IH.out
          have hKO := HKO.out
          rw [hk] at hI hKO
          obtain ⟨g, cap, sy, he, hP, hg, hTy, p0, p1, p2⟩ := KidT.kid (a := a) (k := ky) (r := b) (x := y) (s := .slice sad KL sc) (by rw [← hk]; exact hK)
          simp only [Value.slice.injEq] at he
          obtain ⟨rfl, -, rfl⟩ := he
          have q0 := (hBr.cell (p := ⟨g, a.len * 3, none⟩) hg).trans p0
          have q1 := (hBr.cell (p := ⟨g, a.len * 3 + 1, none⟩) hg).trans p1
          have q2 := (hBr.cell (p := ⟨g, a.len * 3 + 2, none⟩) hg).trans p2
          obtain ⟨g1, l1, o1, -⟩ := ok_cons ((F.app_ok _ _).1 hKO).2
          have hyn := good_n g1
          have hbl := binds_le xk a.len
          have hfl := usf_le a xk d 0
          have hul := us1_le (d + binds xk a.len) y ky
          have HC := hide (fun (w' : World) (hw' : Below w0.heap.size w0 w') => F.all_at hI y sy (d + binds xk a.len) P w' hyn.1 hyn.2 l1 o1 (by omega) (hTy.below hw'))
          obtain ⟨yad, yc, rfl⟩ := hTy.form
          have HSn := hide (hk.trans (F.app_snoc a ky b y))
          have HDl : Hid ((a.app (.cons y ky .nil)).len = a.len + 1) := hide (by rw [F.app_len]; rfl)
          have HFr : Hid (usf d xk 0 (a.app (.cons y ky .nil)) = usf d xk 0 a + us1 (d + binds xk a.len) y ky) := hide (by rw [usf_app, Nat.zero_add, usf_cons]; rfl)
          have HKl2 := hide hkl2
          have HBi := hide (l3Binds_any xk a.len)
          obtain ⟨U0, hU0⟩ : ∃ U0, U0 = usf d xk 0 a := ⟨_, rfl⟩
          obtain ⟨U1, hU1⟩ : ∃ U1, U1 = us1 (d + binds xk a.len) y ky := ⟨_, rfl⟩
          rw [← hU0] at hfl HFr ⊢
          rw [← hU1] at hul HC HFr
          have hU0b : U0 ≤ 1048576 := by omega
          have hU1b : U1 ≤ 1048577 := by omega
          clear p0 p1 p2 hTy hK hI hk hkl2 hfk hfl hul hKO g1 l1 o1 hyn hU0 hU1
          obtain ⟨al, hal⟩ : ∃ al, al = a.len := ⟨_, rfl⟩
          obtain ⟨kn, hkn⟩ : ∃ kn, kn = ky.len := ⟨_, rfl⟩
          obtain ⟨bi, hbi⟩ : ∃ bi, bi = binds xk a.len := ⟨_, rfl⟩
          rw [← hbi] at HC HBi hbl
          rw [← hal] at hlt' q0 q1 q2 HDl HKl2 HBi ⊢
          rw [← hkn] at HC q2
          clear hal hkn hbi
          have c0 : wr.cell? ⟨w.heap.size, 0, none⟩ = some (.int .i64 xk) := (hBr.cell (p := ⟨w.heap.size, 0, none⟩) hsz0).trans ((cell_of_blk HB0.out 0).trans rfl)
          have hw : IntKind.i64.wrap ((d : Int) + (bi : Int)) = ((d + bi : Nat) : Int) := by rw [IntWalk.i64_in _ ⟨by omega, by omega⟩]; omega
          go_wp2_with fail
          obtain ⟨w3, hw3⟩ : ∃ w3, w3 = wr.alloc (.cells #[.int .i64 y.k, .int .i64 y.n, .slice yad kn yc] 55) := ⟨_, rfl⟩
          rw [← hw3]
          have hb3 : w3.heap[wr.heap.size]? = some (.cells #[.int .i64 y.k, .int .i64 y.n, .slice yad kn yc] 55) := by rw [hw3]; exact heap_alloc_new _ _
          have hBr3 : Below wr.heap.size wr w3 := by rw [hw3]; exact (Below.refl _ _).alloc (Nat.le_refl _) _
          have hsz3 : wr.heap.size < w3.heap.size := (Array.getElem?_eq_some_iff.1 hb3).1
          have hszr : w0.heap.size ≤ wr.heap.size := hBr.size
          have e0 : w3.cell? ⟨wr.heap.size, 0, none⟩ = some (.int .i64 y.k) := (cell_of_blk hb3 0).trans rfl
          have e1 : w3.cell? ⟨wr.heap.size, 1, none⟩ = some (.int .i64 y.n) := (cell_of_blk hb3 1).trans rfl
          have e2 : w3.cell? ⟨wr.heap.size, 2, none⟩ = some (.slice yad kn yc) := (cell_of_blk hb3 2).trans rfl
          have e3 : w3.cell? ⟨w.heap.size, 0, none⟩ = some (.int .i64 xk) := (hBr3.cell (p := ⟨w.heap.size, 0, none⟩) (by show w.heap.size < _; omega)).trans c0
          have hB3 : Below w0.heap.size w0 w3.drew := belowDrew (hBr.trans (hBr3.mono hBr.size))
          have HB3 := hide hB3
          clear hw3 hb3 hBr3 q0 q1 q2 c0 hB3
          go_region_held3 (fun w' => w'.cell? ⟨wr.heap.size, 0, none⟩ = some (.int .i64 y.k) ∧ w'.cell? ⟨wr.heap.size, 1, none⟩ = some (.int .i64 y.n) ∧ w'.cell? ⟨wr.heap.size, 2, none⟩ = some (.slice yad kn yc) ∧ w'.cell? ⟨w.heap.size, 0, none⟩ = some (.int .i64 xk)) (go_keep)
            (first
              | (go_at_call 80; refine (HBi.out _).mono ?_; rintro e w' ⟨rfl, rfl⟩)
              | (go_at_call 57; refine Calls.mono (HC.out _ HB3.out) ?_; rintro e w5 ⟨rfl, hb5⟩; have HB5 := hide hb5; clear hb5; have f0 := (HB5.out.cell (p := ⟨wr.heap.size, 0, none⟩) hsz3).trans e0; have f1 := (HB5.out.cell (p := ⟨wr.heap.size, 1, none⟩) hsz3).trans e1; have f2 := (HB5.out.cell (p := ⟨wr.heap.size, 2, none⟩) hsz3).trans e2; have f3 := (HB5.out.cell (p := ⟨w.heap.size, 0, none⟩) (show w.heap.size < w3.heap.size by omega)).trans e3))
          have hB5 : Below w0.heap.size w0 w5 := HB3.out.trans (HB5.out.mono HB3.out.size)
          clear f0 f1 f2 f3 e0 e1 e2 e3
          have hkl2 := HKl2.out
          go_wp2_with fail
          exact ⟨⟨a.app (.cons y ky .nil), b, HSn.out, by rw [HDl.out]; go_num, by rw [HFr.out, IntWalk.i64_in ((U0 : Int) + (U1 : Int)) ⟨by omega, by omega⟩]; rfl, hB5⟩, by simp [intOf]; omega⟩
end Go.Proofs.Ytjmgnljjeogdlaa.W

/-
  Terms put in the place of variables: the model. No conditions.
-/
namespace Go.Proofs.Ytjmgnljjeogdlaa.W
open Go.ChangeShapes Go.WideShapes Go.ChangeAt Go.RowKit
set_option linter.unusedVariables false

/-- What is put in the place of a term's first cell. -/
def sbr (K : Nat) (sx : Cc) (d : Nat) (x : Cc) : Cc := if x.k = 1 then (if x.n = (K : Int) + (d : Int) then shc (d : Int) 0 sx else if (K : Int) + (d : Int) < x.n then ⟨1, x.n - 1⟩ else x) else x
/-- The kids from i on of a term of kind pk, with a term in the place of K. -/
def sbf (K : Nat) (sx : Cc) (sk : F) (pk : Int) (d : Nat) : Nat → F → F
  | _, .nil => .nil
  | i, .cons x k r => .cons (sbr K sx (d + binds pk i) x) (if x.k = 1 then (if x.n = (K : Int) + ((d + binds pk i : Nat) : Int) then shf ((d + binds pk i : Nat) : Int) sx.k 0 0 sk else .nil) else sbf K sx sk x.k (d + binds pk i) 0 k) (sbf K sx sk pk d (i + 1) r)
def sbk (K : Nat) (sx : Cc) (sk : F) (d : Nat) (x : Cc) (k : F) : F := if x.k = 1 then (if x.n = (K : Int) + (d : Int) then shf (d : Int) sx.k 0 0 sk else .nil) else sbf K sx sk x.k d 0 k
theorem sbf_cons (K : Nat) (sx : Cc) (sk : F) (pk : Int) (d i : Nat) (x : Cc) (k r : F) : sbf K sx sk pk d i (.cons x k r) = .cons (sbr K sx (d + binds pk i) x) (sbk K sx sk (d + binds pk i) x k) (sbf K sx sk pk d (i + 1) r) := rfl
theorem sbf_app (K : Nat) (sx : Cc) (sk : F) (pk : Int) (d : Nat) : ∀ (a b : F) (i : Nat), sbf K sx sk pk d i (a.app b) = (sbf K sx sk pk d i a).app (sbf K sx sk pk d (i + a.len) b)
  | .nil, b, i => rfl
  | .cons x k r, b, i => by
    simp only [F.app, sbf_cons, sbf_app K sx sk pk d r b, F.len]
    rw [show i + 1 + r.len = i + (r.len + 1) by omega]
theorem sbf_len (K : Nat) (sx : Cc) (sk : F) (pk : Int) (d : Nat) : ∀ (a : F) (i : Nat), (sbf K sx sk pk d i a).len = a.len
  | .nil, _ => rfl
  | .cons x k r, i => by simp [sbf_cons, F.len, sbf_len K sx sk pk d r]

def L3PGoal (k : F) : Prop := ∀ (x sx : Cc) (sk : F) (s ss : Value) (K d : Nat) (P Q : Nat → Prop) (w : World), -1000000 ≤ x.n → x.n ≤ 1000000 → -1000000 ≤ sx.n → sx.n ≤ 1000000 → K ≤ 99 → k.len = ar x.k → k.ok → sk.len = ar sx.k → sk.ok → sk.flat.length ≤ 600 → d + k.flat.length ≤ 1000 → KidT w P k s → KidT w Q sk ss →
    Calls Try.prog 58 #[.agg #[.int .i64 x.k, .int .i64 x.n, s], .int .i64 (K : Int), .agg #[.int .i64 sx.k, .int .i64 sx.n, ss], .int .i64 (d : Int)] w fun e w' => ∃ s', e = .returned (.agg #[.int .i64 (sbr K sx d x).k, .int .i64 (sbr K sx d x).n, s']) ∧ KidT w' (fun g => w.heap.size ≤ g) (sbk K sx sk d x k) s' ∧ Below w.heap.size w w'
end Go.Proofs.Ytjmgnljjeogdlaa.W

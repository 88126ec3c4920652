/-
  Trees told as cells by the specification: the contract of l3Flat. Conditions: at most 1048576 cells. Written by wip/build/mk_rdd.py.
-/
import Derived.Test.YthnkdlhkldcaoaaDoorRdK
import Derived.Deep.AppendLies
namespace Go.Proofs.YthnkdlhkldcaoaaDoor.W
open Go.ChangeShapes Go.WideShapes Go.ChangeAt Go.RowKit
set_option linter.unusedVariables false
set_option linter.unusedSimpArgs false

theorem c2_news {w : World} {g : Nat} {k n : Int} {t : TypeId} (h : w.heap[g]? = some (.cells #[.int .i64 k, .int .i64 n] t (0, 0))) : ∀ j u, [Value.int .i64 k, .int .i64 n][j]? = some u → w.cell? ((⟨g, 0, none⟩ : Addr).add j) = some u := by
  intro j u hu
  rw [iAdd, Nat.zero_add, cell_of_blk h, ← hu]
  simp

theorem c2_one (k n : Int) : ∀ u ∈ [Value.int .i64 k, .int .i64 n], u.oneCell' = true := by
  intro u hu
  simp only [List.mem_cons, List.not_mem_nil, or_false] at hu
  rcases hu with rfl | rfl <;> rfl

theorem grownT {w w1 w2 : World} {r r' : Option Nat} (h1 : w.grownBy w1 r) (h2 : w1.grownBy w2 r') (hr : ∀ k, r' = some k → r = some k ∨ w.heap.size ≤ k) : w.grownBy w2 r :=
  ⟨h2.os.trans h1.os, h2.tape.trans h1.tape, h2.output.trans h1.output, Nat.le_trans h1.size h2.size, fun k hk hne => (h2.block k (Nat.lt_of_lt_of_le hk h1.size) (fun e => by
    rcases hr k e.symm with h | h
    · exact hne h.symm
    · omega)).trans (h1.block k hk hne)⟩

theorem grownA (w : World) (o : Obj) (r : Option Nat) : w.grownBy (w.alloc o) r := World.grownBy_alloc w o r

theorem apartT {w w1 : World} {v v1 v2 : Value} (h1 : Apart w v v1) (h2 : Apart w1 v1 v2) (hs : w.heap.size ≤ w1.heap.size) : Apart w v v2 := fun g hg => by
  rcases h2 g hg with h | h
  · exact h1 g h
  · exact .inr (by omega)

/-- What holds of each kid's kids. -/
def F.all (Q : F → Prop) : F → Prop
  | .nil => True
  | .cons _ k r => Q k ∧ r.all Q

theorem F.all_app {Q : F → Prop} : ∀ {a b : F}, (a.app b).all Q ↔ a.all Q ∧ b.all Q
  | .nil, b => by simp [F.app, F.all]
  | .cons _ k r, b => by simp [F.app, F.all, F.all_app (a := r), and_assoc]

theorem F.all_of {Q : F → Prop} (h : ∀ a : F, a.all Q → Q a) : ∀ a : F, a.all Q
  | .nil => trivial
  | .cons _ k r => ⟨h k (F.all_of h k), F.all_of h r⟩

/-- A term from its kids on. -/
theorem F.rec_kids {Q : F → Prop} (h : ∀ a : F, a.all Q → Q a) (a : F) : Q a := h a (F.all_of h a)

theorem F.all_at {Q : F → Prop} {a k r : F} {x : Cc} (h : (a.app (.cons x k r)).all Q) : Q k := (F.all_app.1 h).2.1

theorem F.app_snoc (a k r : F) (x : Cc) : a.app (.cons x k r) = (a.app (.cons x k .nil)).app r := by rw [F.app_assoc]; rfl

def L3TGoal (k : F) : Prop := ∀ (x : Cc) (s v : Value) (base n : Nat) (xs : List Value) (P : Nat → Prop) (w : World), (∀ g, P g → g < w.heap.size → v.ownBlock ≠ some g) → n + (k.flat.length + 1) ≤ 1048576 → base ≤ w.heap.size → KidT w P k s → w.ownsRow base 37 2 v n xs →
    Calls Tryd.prog 44 #[.agg #[.int .i64 x.k, .int .i64 x.n, s], v] w fun e w' => ∃ v', e = .returned v' ∧ w'.ownsRow base 37 2 v' (n + (k.flat.length + 1)) (xs ++ cv (x :: k.flat)) ∧ w.grownBy w' v.ownBlock ∧ Apart w v v'

set_option maxRecDepth 20000 in
set_option maxHeartbeats 2000000 in
theorem l3Flat_any : ∀ k, L3TGoal k := by
  apply F.rec_kids
  intro k ih x s v base n xs P w hsep hn hb hT hown
  have IH := hide ih
  have HT := hide hT
  have HO := hide hown
  have HSep := hide hsep
  obtain ⟨sad, sc, rfl⟩ := hT.form
  obtain ⟨ad, c, rfl⟩ := iOwn_form hown
  obtain ⟨i0, hi0, hz0, hz1, hz2⟩ := infoPartsT infoCe
  have Hi := hide hi0
  have M1 : Hid (n + 1 ≤ maxLen) := hide (by unfold maxLen; omega)
  clear ih hT hown hsep hi0
  have hkl := F.len_flat k
  obtain ⟨KL, hKL⟩ : ∃ KL, KL = k.len := ⟨_, rfl⟩
  rw [← hKL] at HT hkl ⊢
  have HKL := hide hKL
  clear hKL
  obtain ⟨xk, xn⟩ := x
  simp only
  go_enter Tryd.func44, Tryd.ntmps44
  go_wp2_with (at_builtin; refine wpList_append_sep rfl _ _ 22 rfl base 37 i0 (.agg #[.int .i64 0, .int .i64 0]) 2 16 Tryd.underlying22 Hi.out hz0 hz1 hz2 rfl (by decide) _ n xs rfl ((HO.out.alloc _).alloc _) ⟨w.heap.size + 1, 0, none⟩ 1 1 [.int .i64 xk, .int .i64 xn] rfl rfl (c2_news (by have := heap_alloc_new (w.alloc (.cells #[.int .i64 xk, .int .i64 xn, .slice sad KL sc] 58)) (.cells #[.int .i64 xk, .int .i64 xn] 37); simpa using this)) (c2_one _ _) M1.out (by omega) (by simp; omega) ?_)
  intro v1 w1 hown1 hgrow1 hap1
  obtain ⟨ad1, c1, rfl⟩ := iOwn_form hown1
  have hol : ∀ k, (Value.slice ad n c).ownBlock = some k → k < w.heap.size := fun k hk => (HO.out.lt k hk).2
  have HO1 := hide hown1
  have g1 : w.grownBy w1 (Value.slice ad n c).ownBlock := grownT (grownA w (.cells #[.int .i64 xk, .int .i64 xn, .slice sad KL sc] 58) _) (grownT (grownA _ (.cells #[.int .i64 xk, .int .i64 xn] 37) _) hgrow1 (fun k hk => .inl hk)) (fun k hk => .inl hk)
  have HG1 := hide g1
  have HA1 : Hid (Apart w (.slice ad n c) (.slice ad1 (n + 1) c1)) := hide (fun g hg => by
    rcases hap1 g hg with h | h
    · exact .inl h
    · right; simp at h; omega)
  have y2 : w1.cell? ⟨w.heap.size, 2, none⟩ = some (.slice sad KL sc) := hgrow1.cell (a := ⟨w.heap.size, 2, none⟩) (by simp) (fun e => by have := hol w.heap.size e.symm; omega)
  have HP : Hid (KidT w (fun g => P g ∧ g < w.heap.size) k (.slice sad KL sc)) := hide (HT.out.weak (fun g h1 h2 => ⟨h1, h2⟩))
  clear hown1 hgrow1 hap1 g1
  go_wp2_with fail
  clear y2
  go_loopw [1, 18] (fun v1 i w' => ∃ a b : F, k = a.app b ∧ i = .int .i64 (a.len : Int) ∧ w'.ownsRow base 37 2 v1 (n + (a.flat.length + 1)) (xs ++ cv (⟨xk, xn⟩ :: a.flat)) ∧ w.grownBy w' (Value.slice ad n c).ownBlock ∧ Apart w (.slice ad n c) v1) (fun _ i _ => KL - (intOf i).toNat)
  case atStart => exact ⟨.nil, k, rfl, rfl, HO1.out, HG1.out, HA1.out⟩
  case round =>
    obtain ⟨a, b, hk, rfl, hown, hg, hap⟩ := hrel
    obtain ⟨rad, rc, hform⟩ := iOwn_form hown
    subst hform
    have HOr := hide hown
    have HGr := hide hg
    have HAr := hide hap
    clear hown hg hap HO1 HG1 HA1
    cases b with
    | nil =>
      rw [F.app_nil] at hk
      subst hk
      have hKL := HKL.out
      rw [← hKL]
      clear hKL
      go_wp2_with fail
      go_ret
      exact ⟨_, rfl, HOr.out, HGr.out, HAr.out⟩
    | cons y ky b =>
      have hkl2 : KL = a.len + (b.len + 1) := by rw [HKL.out, hk, F.app_len]; rfl
      have hlt' : (a.len : Int) < (KL : Int) := by omega
      have hfk : k.flat.length = a.flat.length + (1 + ky.flat.length + b.flat.length) := by rw [hk, F.app_flat]; simp [F.flat]; omega
      have hI := IH.out
      rw [hk] at hI
      obtain ⟨g, cap, sy, he, hPg, hg, hTy, p0, p1, p2⟩ := KidT.kid (a := a) (k := ky) (r := b) (x := y) (s := .slice sad KL sc) (by rw [← hk]; exact HP.out)
      simp only [Value.slice.injEq] at he
      obtain ⟨rfl, -, rfl⟩ := he
      have hng : (Value.slice ad n c).ownBlock ≠ some g := HSep.out g hPg.1 hPg.2
      have q0 := HGr.out.cell p0 (fun e => hng e.symm)
      have q1 := HGr.out.cell p1 (fun e => hng e.symm)
      have q2 := HGr.out.cell p2 (fun e => hng e.symm)
      have hszr := HGr.out.size
      have hkeep : ∀ g, (P g ∧ g < w.heap.size) → g < w.heap.size → wr.heap[g]? = w.heap[g]? ∧ (P g ∧ g < w.heap.size) := fun g h1 h2 => ⟨HGr.out.block g h2 (fun e => HSep.out g h1.1 h1.2 e.symm), h1⟩
      have hTr : KidT wr (fun g => P g ∧ g < w.heap.size) ky sy := hTy.keep hszr hkeep
      have hse : ∀ g, (P g ∧ g < w.heap.size) → (Value.slice rad (n + (a.flat.length + 1)) rc).ownBlock ≠ some g := fun g h1 e => by
        rcases HAr.out g e with h | h
        · exact HSep.out g h1.1 h1.2 h
        · omega
      have HC := hide (F.all_at hI y sy (.slice rad (n + (a.flat.length + 1)) rc) base (n + (a.flat.length + 1)) (xs ++ cv (⟨xk, xn⟩ :: a.flat)) (fun g => P g ∧ g < w.heap.size) (wr.alloc (.cells #[.int .i64 y.k, .int .i64 y.n, sy] 58)) (fun g h1 _ => hse g h1) (by omega) (by simp; omega) (hTr.below ((Below.refl _ _).alloc (Nat.le_refl _) _)) (HOr.out.alloc _))
      obtain ⟨yad, yc, rfl⟩ := hTy.form
      have HSn := hide (hk.trans (F.app_snoc a ky b y))
      have HDl : Hid ((a.app (.cons y ky .nil)).len = a.len + 1) := hide (by rw [F.app_len]; rfl)
      have HDf : Hid ((a.app (.cons y ky .nil)).flat = a.flat ++ (y :: ky.flat)) := hide (by rw [F.app_flat]; simp [F.flat])
      have HKl2 := hide hkl2
      clear p0 p1 p2 hTy hTr hI hk hkl2 hfk hkeep hse
      obtain ⟨al, hal⟩ : ∃ al, al = a.len := ⟨_, rfl⟩
      obtain ⟨kn, hkn⟩ : ∃ kn, kn = ky.len := ⟨_, rfl⟩
      obtain ⟨NN, hNN⟩ : ∃ NN, NN = n + (a.flat.length + 1) := ⟨_, rfl⟩
      rw [← hal] at hlt' q0 q1 q2 HDl HKl2 ⊢
      rw [← hkn] at HC q2
      rw [← hNN] at HC HOr HAr ⊢
      have HNN := hide hNN
      clear hal hkn hNN
      go_wp2_with fail
      refine Calls.mono HC.out ?_
      rintro e w2 ⟨v2, rfl, ho2, hg2, ha2⟩
      obtain ⟨ad2, c2, rfl⟩ := iOwn_form ho2
      have HO2 := hide ho2
      have HG2 : Hid (w.grownBy w2 (Value.slice ad n c).ownBlock) := hide (grownT (grownT HGr.out (grownA wr _ _) (fun k hk => .inl hk)) hg2 (fun k hk => HAr.out k hk))
      have HA2 : Hid (Apart w (.slice ad n c) (.slice ad2 (NN + (ky.flat.length + 1)) c2)) := hide (apartT HAr.out ha2 (by simp; omega))
      clear ho2 hg2 ha2 HC q0 q1 q2
      go_wp2_with fail
      have hkl2 := HKl2.out
      refine ⟨⟨a.app (.cons y ky .nil), b, HSn.out, by rw [HDl.out]; go_num, ?_, HG2.out, HA2.out⟩, by simp [intOf]; omega⟩
      have h3 := HO2.out
      rw [HDf.out]
      have e1 : n + ((a.flat ++ (y :: ky.flat)).length + 1) = NN + (ky.flat.length + 1) := by rw [HNN.out]; simp; omega
      have e2 : xs ++ cv (⟨xk, xn⟩ :: (a.flat ++ (y :: ky.flat))) = xs ++ cv (⟨xk, xn⟩ :: a.flat) ++ cv (y :: ky.flat) := by rw [← List.cons_append, cv_app, List.append_assoc]
      rw [e1, e2]
      exact h3

end Go.Proofs.YthnkdlhkldcaoaaDoor.W

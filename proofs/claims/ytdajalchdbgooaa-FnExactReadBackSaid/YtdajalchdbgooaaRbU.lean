/-
  l6Fill at a node: its kids one after the other, up to 600 cells. Conditions: a good machine, a good term.
-/
import Derived.Test.YtdajalchdbgooaaRbS
import Derived.Maps.AppendAt
namespace Go.Proofs.Ytdajalchdbgooaa.W
open Go.ChangeShapes Go.WideShapes Go.ChangeAt Go.RowKit
set_option linter.unusedVariables false

theorem fbv_app (pk : Int) (d : Nat) : ∀ (a b : F) (i : Nat), FBv pk d i (a.app b) ↔ FBv pk d i a ∧ FBv pk d (i + a.len) b
  | .nil, b, i => by simp [F.app, FBv, F.len]
  | .cons x k r, b, i => by
    simp only [F.app, FBv, F.len, fbv_app pk d r b, and_assoc]
    rw [show i + 1 + r.len = i + (r.len + 1) by omega]
theorem blF (w : World) (o : Obj) : Below w.heap.size w (w.alloc o) := (Below.refl _ _).alloc (Nat.le_refl _) _
/-- What l6Fill does with a term, d being bound around it. -/
def LFGoal (cb0 : Nat) (ad : Option Addr) (c : Nat) (l : List Cc) (mv : Value) (m : Mc) (R : Int → F) (env : Int) (N : Nat) (k : F) : Prop := ∀ (x : Cc) (s : Value) (P : Nat → Prop) (w : World) (d : Nat), goodC x = true → k.len = ar x.k → k.ok → (x.k = 1 → x.n < ((N + d : Nat) : Int)) → FBv x.k (N + d) 0 k → d + k.flat.length ≤ 1000000 → KidT w P k s → SpE w cb0 ad c l mv m →
    Calls Try.prog 85 #[.pointer (some ⟨cb0, 0, none⟩), mv, .agg #[.int .i64 x.k, .int .i64 x.n, s], .int .i64 env, .int .i64 (d : Int)] w fun e w' => SpV w' w.heap.size (fil R m.bs env 0 d 0 (.cons x k .nil)) e ∧ Below w.heap.size w w'

set_option maxRecDepth 20000 in
set_option maxHeartbeats 8000000 in
theorem fill_leaf (cb0 : Nat) (ad : Option Addr) (c : Nat) (l : List Cc) (mv : Value) (m : Mc) (T : F) (env : Int) (x : Cc) (d : Nat) (w : World) (hx : x.k = 1) (hn : x.n < (d : Int)) (hT : T = .cons x .nil .nil) (hE : SpE w cb0 ad c l mv m) :
    Calls Try.prog 85 #[.pointer (some ⟨cb0, 0, none⟩), mv, .agg #[.int .i64 x.k, .int .i64 x.n, .slice none 0 0], .int .i64 env, .int .i64 (d : Int)] w fun e w' => SpV w' w.heap.size T e ∧ Below w.heap.size w w' := by
  obtain ⟨xk, xn⟩ := x
  simp only at *
  have HE := hide hE
  have hmr := hE.mr
  obtain ⟨af, cf, av, cv', ab, cb', rfl, -⟩ := hmr
  obtain ⟨w0, hw0⟩ : ∃ w0, w0 = (((w.alloc (.cells #[.bool m.done, .int .i64 m.pl, .int .i64 m.env, .int .i64 m.val, .slice af m.fs.length cf, .slice av m.vs.length cv', .slice ab m.bs.length cb'] 28)).alloc (.cells #[.int .i64 xk, .int .i64 xn, .slice none 0 0] 102)).alloc (.cells #[.int .i64 0, .int .i64 0, .slice none 0 0] 102)).alloc (.cells #[.int .i64 xk, .int .i64 xn, .slice none 0 0] 102) := ⟨_, rfl⟩
  have hB0 : Below w.heap.size w w0 := by rw [hw0]; exact ((((Below.refl _ _).alloc (Nat.le_refl _) _).alloc (by simp) _).alloc (by simp; omega) _).alloc (by simp; omega) _
  have hsz0 : w0.heap.size = w.heap.size + 1 + 1 + 1 + 1 := by rw [hw0]; simp
  have hbM : Bx w0 w.heap.size #[.bool m.done, .int .i64 m.pl, .int .i64 m.env, .int .i64 m.val, .slice af m.fs.length cf, .slice av m.vs.length cv', .slice ab m.bs.length cb'] 28 := by rw [hw0]; exact (((Bx.new _ _ _).alloc _).alloc _).alloc _
  have hbT : Bx w0 (w.heap.size + 1) #[.int .i64 xk, .int .i64 xn, .slice none 0 0] 102 := by
    have := Bx.new (w.alloc (.cells #[.bool m.done, .int .i64 m.pl, .int .i64 m.env, .int .i64 m.val, .slice af m.fs.length cf, .slice av m.vs.length cv', .slice ab m.bs.length cb'] 28)) #[.int .i64 xk, .int .i64 xn, .slice none 0 0] 102
    rw [hw0]
    exact Bx.alloc (Bx.alloc (by simpa using this) _) _
  have hbR : Bx w0 (w.heap.size + 1 + 1) #[.int .i64 0, .int .i64 0, .slice none 0 0] 102 := by
    have := Bx.new ((w.alloc (.cells #[.bool m.done, .int .i64 m.pl, .int .i64 m.env, .int .i64 m.val, .slice af m.fs.length cf, .slice av m.vs.length cv', .slice ab m.bs.length cb'] 28)).alloc (.cells #[.int .i64 xk, .int .i64 xn, .slice none 0 0] 102)) #[.int .i64 0, .int .i64 0, .slice none 0 0] 102
    rw [hw0]
    exact Bx.alloc (by simpa using this) _
  have hbO : Bx w0 (w.heap.size + 1 + 1 + 1) #[.int .i64 xk, .int .i64 xn, .slice none 0 0] 102 := by
    have := Bx.new (((w.alloc (.cells #[.bool m.done, .int .i64 m.pl, .int .i64 m.env, .int .i64 m.val, .slice af m.fs.length cf, .slice av m.vs.length cv', .slice ab m.bs.length cb'] 28)).alloc (.cells #[.int .i64 xk, .int .i64 xn, .slice none 0 0] 102)).alloc (.cells #[.int .i64 0, .int .i64 0, .slice none 0 0] 102)) #[.int .i64 xk, .int .i64 xn, .slice none 0 0] 102
    rw [hw0]
    simpa using this
  have HT := hide hT
  subst hx
  have hnd : ¬ (d : Int) ≤ xn := by omega
  have HB0 := hide hB0
  have HSz := hide hsz0
  have HBR := hide hbR
  have HBO := hide hbO
  have HW0 := hide hw0
  clear hw0 hE hT hB0 hsz0 hbM hbT hbR hbO
  go_enter Try.func85, Try.ntmps85
  go_wp2_with fail
  rw [← HW0.out]
  clear HW0
  go_loopw [14, 65] (fun sm i w' => sm = .int .i64 1 ∧ i = .int .i64 0 ∧ w' = w0) (fun _ i _ => (intOf i).toNat)
  case atStart => exact ⟨rfl, rfl, rfl⟩
  case round =>
    obtain ⟨rfl, rfl, hwe⟩ := hrel
    obtain rfl : w0 = wr := hwe.symm
    have o0 : w0.cell? ⟨w.heap.size + 1 + 1 + 1, 0, none⟩ = some (.int .i64 1) := (HBO.out.c 0).trans rfl
    have o1 : w0.cell? ⟨w.heap.size + 1 + 1 + 1, 1, none⟩ = some (.int .i64 xn) := (HBO.out.c 1).trans rfl
    have o2 : w0.cell? ⟨w.heap.size + 1 + 1 + 1, 2, none⟩ = some (.slice none 0 0) := (HBO.out.c 2).trans rfl
    have r0 : w0.cell? ⟨w.heap.size + 1 + 1, 0, none⟩ = some (.int .i64 0) := (HBR.out.c 0).trans rfl
    have r1 : w0.cell? ⟨w.heap.size + 1 + 1, 1, none⟩ = some (.int .i64 0) := (HBR.out.c 1).trans rfl
    have r2 : w0.cell? ⟨w.heap.size + 1 + 1, 2, none⟩ = some (.slice none 0 0) := (HBR.out.c 2).trans rfl
    have rf := HBR.out.f
    go_wp2_with fail
    have hre := fill3_at HBR.out (.int .i64 1) (.int .i64 xn) (.slice none 0 0)
    have s0 := (cell_of_blk hre 0).trans rfl
    have s1 := (cell_of_blk hre 1).trans rfl
    have s2 := (cell_of_blk hre 2).trans rfl
    have hlo := HSz.out
    refine bodyPost_ret (v := .tuple #[.agg #[.int .i64 1, .int .i64 xn, .slice none 0 0], .bool true]) (by simp [results, Try.results85, go_sem, s0, s1, s2]) rfl ⟨?_, below_fill3 HB0.out (by omega) _ _ _⟩
    unfold SpV
    have hT := HT.out
    subst hT
    rw [if_pos (by simp [F.flat])]
    exact ⟨_, _, _, rfl, rfl, KidT.nil⟩

set_option maxRecDepth 20000 in
set_option maxHeartbeats 16000000 in
theorem fill_node (cb0 : Nat) (ad : Option Addr) (c : Nat) (l : List Cc) (mv : Value) (m : Mc) (R : Int → F) (env : Int) (N : Nat) (hR : ∀ j, (R j).len = 1) (k : F) (ih : k.all (LFGoal cb0 ad c l mv m R env N)) (x : Cc) (s : Value) (P : Nat → Prop) (w : World) (d : Nat) (hx : x.k ≠ 1) (hkl : k.len = ar x.k) (hok : k.ok) (hfb : FBv x.k (N + d) 0 k) (hdl : d + k.flat.length ≤ 1000000) (T : F) (hTe : T = .cons x (fil R m.bs env x.k d 0 k) .nil) (hT0 : KidT w P k s) (hE : SpE w cb0 ad c l mv m) :
    Calls Try.prog 85 #[.pointer (some ⟨cb0, 0, none⟩), mv, .agg #[.int .i64 x.k, .int .i64 x.n, s], .int .i64 env, .int .i64 (d : Int)] w fun e w' => SpV w' w.heap.size T e ∧ Below w.heap.size w w' := by
  obtain ⟨i0, hi0, hz0, hz1, hz2⟩ := infoPartsT infoT
  have Hi := hide hi0
  have HT := hide hT0
  obtain ⟨sad, sc, rfl⟩ := hT0.form
  have hkl3 : k.len ≤ 3 := by rw [hkl]; exact ar_le _
  obtain ⟨KL, hKL⟩ : ∃ KL, KL = k.len := ⟨_, rfl⟩
  rw [← hKL] at HT hkl3 ⊢
  have HKL := hide hKL
  have HOk := hide hok
  have HFb := hide hfb
  have HRl := hide hR
  have HDl := hide hdl
  have HIH := hide ih
  clear hi0 hT0 hKL hkl hok hfb hR hdl ih
  obtain ⟨xk, xn⟩ := x
  simp only at *
  have HE := hide hE
  have hmr := hE.mr
  obtain ⟨af, cf, av, cv', ab, cb', rfl, -⟩ := hmr
  obtain ⟨w0, hw0⟩ : ∃ w0, w0 = (((w.alloc (.cells #[.bool m.done, .int .i64 m.pl, .int .i64 m.env, .int .i64 m.val, .slice af m.fs.length cf, .slice av m.vs.length cv', .slice ab m.bs.length cb'] 28)).alloc (.cells #[.int .i64 xk, .int .i64 xn, .slice sad KL sc] 102)).alloc (.cells #[.int .i64 0, .int .i64 0, .slice none 0 0] 102)).alloc (.cells #[.int .i64 xk, .int .i64 xn, .slice none 0 0] 102) := ⟨_, rfl⟩
  have hB0 : Below w.heap.size w w0 := by rw [hw0]; exact ((((Below.refl _ _).alloc (Nat.le_refl _) _).alloc (by simp) _).alloc (by simp; omega) _).alloc (by simp; omega) _
  have hsz0 : w0.heap.size = w.heap.size + 1 + 1 + 1 + 1 := by rw [hw0]; simp
  have hbM : Bx w0 w.heap.size #[.bool m.done, .int .i64 m.pl, .int .i64 m.env, .int .i64 m.val, .slice af m.fs.length cf, .slice av m.vs.length cv', .slice ab m.bs.length cb'] 28 := by rw [hw0]; exact (((Bx.new _ _ _).alloc _).alloc _).alloc _
  have hbT : Bx w0 (w.heap.size + 1) #[.int .i64 xk, .int .i64 xn, .slice sad KL sc] 102 := by
    have := Bx.new (w.alloc (.cells #[.bool m.done, .int .i64 m.pl, .int .i64 m.env, .int .i64 m.val, .slice af m.fs.length cf, .slice av m.vs.length cv', .slice ab m.bs.length cb'] 28)) #[.int .i64 xk, .int .i64 xn, .slice sad KL sc] 102
    rw [hw0]
    exact Bx.alloc (Bx.alloc (by simpa using this) _) _
  have hbR : Bx w0 (w.heap.size + 1 + 1) #[.int .i64 0, .int .i64 0, .slice none 0 0] 102 := by
    have := Bx.new ((w.alloc (.cells #[.bool m.done, .int .i64 m.pl, .int .i64 m.env, .int .i64 m.val, .slice af m.fs.length cf, .slice av m.vs.length cv', .slice ab m.bs.length cb'] 28)).alloc (.cells #[.int .i64 xk, .int .i64 xn, .slice sad KL sc] 102)) #[.int .i64 0, .int .i64 0, .slice none 0 0] 102
    rw [hw0]
    exact Bx.alloc (by simpa using this) _
  have hbO : Bx w0 (w.heap.size + 1 + 1 + 1) #[.int .i64 xk, .int .i64 xn, .slice none 0 0] 102 := by
    have := Bx.new (((w.alloc (.cells #[.bool m.done, .int .i64 m.pl, .int .i64 m.env, .int .i64 m.val, .slice af m.fs.length cf, .slice av m.vs.length cv', .slice ab m.bs.length cb'] 28)).alloc (.cells #[.int .i64 xk, .int .i64 xn, .slice sad KL sc] 102)).alloc (.cells #[.int .i64 0, .int .i64 0, .slice none 0 0] 102)) #[.int .i64 xk, .int .i64 xn, .slice none 0 0] 102
    rw [hw0]
    simpa using this
  have HTq := hide hTe
  have hx1 : (xk == 1) = false := by simpa using hx
  have HB0 := hide hB0
  have HSz := hide hsz0
  have HBM := hide hbM
  have HBT := hide hbT
  have HBR := hide hbR
  have HBO := hide hbO
  have HW0 := hide hw0
  clear hw0 hE hTe hB0 hsz0 hbM hbT hbR hbO hx
  go_enter Try.func85, Try.ntmps85
  go_wp2_with fail
  rw [← HW0.out]
  clear HW0
  go_loopw [14, 65] (fun sm i w' => ∃ (a b a' : F) (so : Value) (cs : List Value), k = a.app b ∧ i = .int .i64 (a.len : Int) ∧ a' = fil R m.bs env xk d 0 a ∧ sm = .int .i64 ((1 + a'.flat.length : Nat) : Int) ∧ 1 + a'.flat.length ≤ 600 ∧ Below w.heap.size w w' ∧ w0.heap.size ≤ w'.heap.size ∧ Bx w' w.heap.size #[.bool m.done, .int .i64 m.pl, .int .i64 m.env, .int .i64 m.val, .slice af m.fs.length cf, .slice av m.vs.length cv', .slice ab m.bs.length cb'] 28 ∧ Bx w' (w.heap.size + 1) #[.int .i64 xk, .int .i64 xn, .slice sad KL sc] 102 ∧ Bx w' (w.heap.size + 1 + 1) #[.int .i64 0, .int .i64 0, .slice none 0 0] 102 ∧ Bx w' (w.heap.size + 1 + 1 + 1) #[.int .i64 xk, .int .i64 xn, so] 102 ∧
      KidsAt w' (fun g => w0.heap.size ≤ g ∧ so.ownBlock ≠ some g) a' cs ∧ w'.ownsRow w0.heap.size 102 3 so a.len cs ∧ Holds w' (fun g => w0.heap.size ≤ g) so a.len cs) (fun _ i _ => KL - (intOf i).toNat)
  case atStart => exact ⟨.nil, k, .nil, _, [], rfl, rfl, rfl, rfl, by simp [F.flat], HB0.out, Nat.le_refl _, HBM.out, HBT.out, HBR.out, HBO.out, rfl, World.ownsRow_nil _ _ _ _, .inl ⟨rfl, rfl⟩⟩
  case round =>
    obtain ⟨a, bb, a', so, cs, hk, rfl, hfa, rfl, ha6, hBr, hszr, hbM, hbT, hbR, hbO, hKs, hOw, hHo⟩ := hrel
    clear HBM HBT HBR HBO HB0
    have HFa := hide hfa
    have HM1 := hide hbM
    have HT1 := hide hbT
    have HR1 := hide hbR
    have HO1 := hide hbO
    have HKs := hide hKs
    have HOw := hide hOw
    have HHo := hide hHo
    have HBr := hide hBr
    obtain ⟨oad, oc, hform⟩ := iOwn_form hOw
    subst hform
    have hal' : a'.len = a.len := by rw [hfa, fil_len R m.bs env HRl.out]
    have HAl := hide hal'
    obtain ⟨SN, hSN⟩ : ∃ SN, SN = 1 + a'.flat.length := ⟨_, rfl⟩
    rw [← hSN] at ha6 ⊢
    have HSN := hide hSN
    clear hfa hbM hbT hbR hbO hKs hOw hHo hal' hSN
    cases bb with
    | nil =>
      rw [F.app_nil] at hk
      subst hk
      have hKL := HKL.out
      rw [← hKL]
      rw [← hKL] at HO1 HHo HOw
      have hsz0 := HSz.out
      have hTx : T = .cons ⟨xk, xn⟩ a' .nil := by rw [HTq.out, HFa.out]
      have HTx := hide hTx
      have hkt : KidT wr (fun g => w0.heap.size ≤ g) a' (.slice oad KL oc) := ⟨cs, HKs.out.keep (Nat.le_refl _) (fun g h1 _ => ⟨rfl, h1.1⟩), by rw [HAl.out, ← hKL]; exact HHo.out⟩
      have HKt := hide hkt
      have o0 : wr.cell? ⟨w.heap.size + 1 + 1 + 1, 0, none⟩ = some (.int .i64 xk) := (HO1.out.c 0).trans rfl
      have o1 : wr.cell? ⟨w.heap.size + 1 + 1 + 1, 1, none⟩ = some (.int .i64 xn) := (HO1.out.c 1).trans rfl
      have o2 : wr.cell? ⟨w.heap.size + 1 + 1 + 1, 2, none⟩ = some (.slice oad KL oc) := (HO1.out.c 2).trans rfl
      have r0 : wr.cell? ⟨w.heap.size + 1 + 1, 0, none⟩ = some (.int .i64 0) := (HR1.out.c 0).trans rfl
      have r1 : wr.cell? ⟨w.heap.size + 1 + 1, 1, none⟩ = some (.int .i64 0) := (HR1.out.c 1).trans rfl
      have r2 : wr.cell? ⟨w.heap.size + 1 + 1, 2, none⟩ = some (.slice none 0 0) := (HR1.out.c 2).trans rfl
      have rf := HR1.out.f
      clear hKL hTx hkt hsz0
      go_wp2_with fail
      have hre := fill3_at HR1.out (.int .i64 xk) (.int .i64 xn) (.slice oad KL oc)
      have s0 := (cell_of_blk hre 0).trans rfl
      have s1 := (cell_of_blk hre 1).trans rfl
      have s2 := (cell_of_blk hre 2).trans rfl
      have hlo := HSz.out
      refine bodyPost_ret (v := .tuple #[.agg #[.int .i64 xk, .int .i64 xn, .slice oad KL oc], .bool true]) (by simp [results, Try.results85, go_sem, s0, s1, s2]) rfl ⟨?_, below_fill3 HBr.out (by omega) _ _ _⟩
      unfold SpV
      have hTq := HTx.out
      have hSN := HSN.out
      subst hTq
      rw [if_pos (by simp [F.flat]; omega)]
      exact ⟨_, _, _, rfl, rfl, (kid_fill3 (lo := w0.heap.size) HKt.out (by omega) _ _ _).weak (fun g hg _ => by have h' : w0.heap.size ≤ g := hg; omega)⟩
    | cons y ky bb =>
      have hsz0 := HSz.out
      have hkl2 : KL = a.len + (bb.len + 1) := by rw [HKL.out, hk, F.app_len]; rfl
      have hlt' : (a.len : Int) < (KL : Int) := by omega
      have hfk : k.flat.length = a.flat.length + (1 + ky.flat.length + bb.flat.length) := by rw [hk, F.app_flat]; simp [F.flat]; omega
      have hO := HOk.out
      have hI := HIH.out
      have hF := HFb.out
      rw [hk] at hI hO hF
      obtain ⟨gy, ly, oy, orr⟩ := ((F.app_ok _ _).1 hO).2
      obtain ⟨f1, f2, -⟩ := ((fbv_app _ _ _ _ _).1 hF).2
      obtain ⟨g, cap, sy, he, hPg, hg, hTy, p0, p1, p2⟩ := KidT.kid (a := a) (k := ky) (r := bb) (x := y) (s := .slice sad KL sc) (by rw [← hk]; exact HT.out)
      simp only [Value.slice.injEq] at he
      obtain ⟨rfl, -, rfl⟩ := he
      have q0 := (HBr.out.cell (p := ⟨g, a.len * 3, none⟩) hg).trans p0
      have q1 := (HBr.out.cell (p := ⟨g, a.len * 3 + 1, none⟩) hg).trans p1
      have q2 := (HBr.out.cell (p := ⟨g, a.len * 3 + 2, none⟩) hg).trans p2
      have hbl : binds xk a.len ≤ 1 := by unfold binds; split <;> omega
      have hdl := HDl.out
      have HC0 := hide (fun (w' : World) (hw' : Below w.heap.size w w') => F.all_at hI y sy P w' (d + binds xk a.len) gy ly oy (fun h => by have := f1 h; simp only [Nat.zero_add] at this; omega) (by simp only [Nat.zero_add] at f2; rw [← Nat.add_assoc]; exact f2) (by omega) (hTy.below hw') (HE.out.below hw'))
      rw [← fil_one] at HC0
      obtain ⟨yad, yc, rfl⟩ := hTy.form
      have HSn := hide (hk.trans (F.app_snoc a ky bb y))
      have HDn : Hid ((a.app (.cons y ky .nil)).len = a.len + 1) := hide (by rw [F.app_len]; rfl)
      obtain ⟨TK, hTK⟩ : ∃ TK, TK = fil R m.bs env xk d a.len (.cons y ky .nil) := ⟨_, rfl⟩
      have HFn : Hid (fil R m.bs env xk d 0 (a.app (.cons y ky .nil)) = a'.app TK) := hide (by rw [fil_app, Nat.zero_add, ← HFa.out, ← hTK])
      have HGe : Hid (SN + TK.flat.length ≤ T.flat.length) := hide (by
        have e1 := HSN.out
        rw [HTq.out, HSn.out, fil_app, HFn.out]
        simp only [F.flat, F.app_flat, List.length_cons, List.length_append, List.append_nil]
        omega)
      rw [← hTK] at HC0
      have HBi := hide (l3Binds_any xk a.len)
      obtain ⟨al, hal⟩ : ∃ al, al = a.len := ⟨_, rfl⟩
      obtain ⟨kn, hkn⟩ : ∃ kn, kn = ky.len := ⟨_, rfl⟩
      obtain ⟨bi, hbi⟩ : ∃ bi, bi = binds xk a.len := ⟨_, rfl⟩
      rw [← hbi] at HC0 HBi hbl
      rw [← hal] at hlt' q0 q1 q2 HDn HO1 HOw HHo HKs HBi hkl2 ⊢
      rw [← hkn] at HC0 q2
      rw [Int.natCast_add] at HC0
      have hal3 : al ≤ 3 := by omega
      have hd0 : (0 : Int) ≤ (al : Int) := by omega
      have hdd : d ≤ 1000000 := by omega
      have hwd : IntKind.i64.wrap ((d : Int) + (bi : Int)) = (d : Int) + (bi : Int) := IntWalk.i64_in _ ⟨by omega, by omega⟩
      have ht2 : wr.cell? ⟨w.heap.size + 1, 2, none⟩ = some (.slice (some ⟨g, 0, none⟩) KL sc) := (HT1.out.c 2).trans rfl
      clear p0 p1 p2 hTy hI hk hfk hO hF gy ly oy orr f1 f2 hal hkn hbi hTK hkl2 hdl hBr
      obtain ⟨w1, hw1⟩ : ∃ w1, w1 = wr.alloc (.cells #[.int .i64 y.k, .int .i64 y.n, .slice yad kn yc] 102) := ⟨_, rfl⟩
      have HW1 := hide hw1
      have hs1 : w1.heap.size = wr.heap.size + 1 := by rw [hw1]; simp
      have hbY : Bx w1 wr.heap.size #[.int .i64 y.k, .int .i64 y.n, .slice yad kn yc] 102 := by rw [hw1]; exact Bx.new _ _ _
      have hb01 : Below wr.heap.size wr w1 := by rw [hw1]; exact blF _ _
      have HB01 := hide hb01
      have hl0 : w.heap.size < w1.heap.size := by omega
      have hl1 : w.heap.size + 1 < w1.heap.size := by omega
      have hlr : wr.heap.size < w1.heap.size := by omega
      have hbM1 : Bx w1 w.heap.size #[.bool m.done, .int .i64 m.pl, .int .i64 m.env, .int .i64 m.val, .slice af m.fs.length cf, .slice av m.vs.length cv', .slice ab m.bs.length cb'] 28 := HM1.out.below hb01 (by omega)
      have hbT1 : Bx w1 (w.heap.size + 1) #[.int .i64 xk, .int .i64 xn, .slice (some ⟨g, 0, none⟩) KL sc] 102 := HT1.out.below hb01 (by omega)
      have HAll : Hid (∀ w', Below w1.heap.size w1 w' → w'.cell? ⟨w.heap.size, 0, none⟩ = some (.bool m.done) ∧ w'.cell? ⟨w.heap.size, 1, none⟩ = some (.int .i64 m.pl) ∧ w'.cell? ⟨w.heap.size, 2, none⟩ = some (.int .i64 m.env) ∧ w'.cell? ⟨w.heap.size, 3, none⟩ = some (.int .i64 m.val) ∧ w'.cell? ⟨w.heap.size, 4, none⟩ = some (.slice af m.fs.length cf) ∧ w'.cell? ⟨w.heap.size, 5, none⟩ = some (.slice av m.vs.length cv') ∧ w'.cell? ⟨w.heap.size, 6, none⟩ = some (.slice ab m.bs.length cb') ∧ w'.cell? ⟨w.heap.size + 1, 0, none⟩ = some (.int .i64 xk) ∧ w'.cell? ⟨wr.heap.size, 0, none⟩ = some (.int .i64 y.k) ∧ w'.cell? ⟨wr.heap.size, 1, none⟩ = some (.int .i64 y.n) ∧ w'.cell? ⟨wr.heap.size, 2, none⟩ = some (.slice yad kn yc)) := hide (fun w' hb => ⟨(hb.cell (p := ⟨w.heap.size, 0, none⟩) hl0).trans ((hbM1.c 0).trans rfl), (hb.cell (p := ⟨w.heap.size, 1, none⟩) hl0).trans ((hbM1.c 1).trans rfl), (hb.cell (p := ⟨w.heap.size, 2, none⟩) hl0).trans ((hbM1.c 2).trans rfl), (hb.cell (p := ⟨w.heap.size, 3, none⟩) hl0).trans ((hbM1.c 3).trans rfl), (hb.cell (p := ⟨w.heap.size, 4, none⟩) hl0).trans ((hbM1.c 4).trans rfl), (hb.cell (p := ⟨w.heap.size, 5, none⟩) hl0).trans ((hbM1.c 5).trans rfl), (hb.cell (p := ⟨w.heap.size, 6, none⟩) hl0).trans ((hbM1.c 6).trans rfl), (hb.cell (p := ⟨w.heap.size + 1, 0, none⟩) hl1).trans ((hbT1.c 0).trans rfl), (hb.cell (p := ⟨wr.heap.size, 0, none⟩) hlr).trans ((hbY.c 0).trans rfl), (hb.cell (p := ⟨wr.heap.size, 1, none⟩) hlr).trans ((hbY.c 1).trans rfl), (hb.cell (p := ⟨wr.heap.size, 2, none⟩) hlr).trans ((hbY.c 2).trans rfl)⟩)
      have HBd : Hid (Below w1.heap.size w1 w1.drew) := hide ⟨rfl, rfl, rfl, Nat.le_refl _, fun _ _ => rfl⟩
      have HBa : Hid (Below w1.heap.size w1 (w1.alloc (.cells #[.int .i64 0, .int .i64 0, .slice none 0 0] 102)).drew) := hide (belowDrew (blF _ _))
      have HC : Hid (∀ w', Below w1.heap.size w1 w' → _) := hide (fun w' hb => HC0.out w' ((HBr.out.trans (HB01.out.mono HBr.out.size)).trans (hb.mono (by omega))))
      have HS1 := hide hs1
      clear hw1 hs1 hbY hb01 hbM1 hbT1 hsz0
      go_wp2_with fail
      rw [← HW1.out]
      obtain ⟨u0, u1, u2, u3, u4, u5, u6, u7, u8, u9, u10⟩ := HAll.out w1.drew HBd.out
      obtain ⟨t0, t1, t2, t3, t4, t5, t6, t7, t8, t9, t10⟩ := HAll.out (w1.alloc (.cells #[.int .i64 0, .int .i64 0, .slice none 0 0] 102)).drew HBa.out
      clear q0 q1 q2 ht2 HW1
      by_cases h6 : TK.flat.length ≤ 600
      · unfold SpV at HC
        simp only [if_pos h6] at HC
        go_cut [17, 18] from 70 to 83 (fun v17 v18 wx => ∃ (b : Nat) (tx : Cc) (tk : F) (ta : Option Addr) (tn tc : Nat), v17 = .pointer (some ⟨b, 0, none⟩) ∧ v18 = .bool true ∧ wx.heap[b]? = some (.cells #[.int .i64 tx.k, .int .i64 tx.n, .slice ta tn tc] 102 (0, 0)) ∧ TK = .cons tx tk .nil ∧ KidT wx (fun g => wr.heap.size ≤ g) tk (.slice ta tn tc) ∧ Below w1.heap.size w1 wx)
        case first =>
          go_region_held3 (fun w' => w'.cell? ⟨w.heap.size, 0, none⟩ = some (.bool m.done) ∧ w'.cell? ⟨w.heap.size, 1, none⟩ = some (.int .i64 m.pl) ∧ w'.cell? ⟨w.heap.size, 2, none⟩ = some (.int .i64 m.env) ∧ w'.cell? ⟨w.heap.size, 3, none⟩ = some (.int .i64 m.val) ∧ w'.cell? ⟨w.heap.size, 4, none⟩ = some (.slice af m.fs.length cf) ∧ w'.cell? ⟨w.heap.size, 5, none⟩ = some (.slice av m.vs.length cv') ∧ w'.cell? ⟨w.heap.size, 6, none⟩ = some (.slice ab m.bs.length cb') ∧ w'.cell? ⟨w.heap.size + 1, 0, none⟩ = some (.int .i64 xk) ∧ w'.cell? ⟨wr.heap.size, 0, none⟩ = some (.int .i64 y.k) ∧ w'.cell? ⟨wr.heap.size, 1, none⟩ = some (.int .i64 y.n) ∧ w'.cell? ⟨wr.heap.size, 2, none⟩ = some (.slice yad kn yc)) (first | (with_reducible exact HAll.out _ HBd.out) | (with_reducible exact HAll.out _ HBa.out) | (with_reducible exact HAll.out _ HX1.out) | (with_reducible exact HAll.out _ (HX1.out.alloc HX1.out.size _)) | (with_reducible exact HAll.out _ (below_fill3 HX1.out (b := w1.heap.size) (Nat.le_refl _) _ _ _)))
            (first
              | ((with_reducible refine Calls.mono (HBi.out _) ?_); rintro e W0 ⟨rfl, hw'⟩; obtain rfl := hw'.symm)
              | ((with_reducible refine Calls.mono (HC.out _ (by first | exact HBd.out | exact HBa.out)) ?_); rintro e W1 ⟨hv, hx⟩; have HX1 : Hid (Below w1.heap.size w1 W1) := hide (by first | exact HBd.out.trans (hx.mono HBd.out.size) | exact HBa.out.trans (hx.mono HBa.out.size)); (try have zb : W1.heap[w1.heap.size]? = some (.cells #[.int .i64 0, .int .i64 0, .slice none 0 0] 102) := (hx.block w1.heap.size (show w1.heap.size < (w1.alloc (.cells #[.int .i64 0, .int .i64 0, .slice none 0 0] 102)).heap.size by simp)).trans (heap_alloc_new _ _)); (try have zc0 : W1.cell? ⟨w1.heap.size, 0, none⟩ = some (.int .i64 0) := (cell_of_blk zb 0).trans rfl); (try have zc1 : W1.cell? ⟨w1.heap.size, 1, none⟩ = some (.int .i64 0) := (cell_of_blk zb 1).trans rfl); (try have zc2 : W1.cell? ⟨w1.heap.size, 2, none⟩ = some (.slice none 0 0) := (cell_of_blk zb 2).trans rfl); (try have zf := unfrozen_of_blk zb); (try have hzb := hide zb; clear zb); obtain ⟨tx, tk, ts, hTe, rfl, htk⟩ := hv; have HTk := hide htk; obtain ⟨ta, tc, rfl⟩ := htk.form; obtain ⟨tn, htn⟩ : ∃ tn, tn = tk.len := ⟨_, rfl⟩; rw [← htn] at HTk ⊢; have HTn := hide htn; have HTe := hide hTe; clear htk htn hTe hx))
          all_goals
            go_wp2_with fail
            have hs1 := HS1.out
            first
              | (go_meet; exact ⟨W1.heap.size, tx, tk, ta, tn, tc, rfl, rfl, heap_alloc_new _ _, HTe.out, (HTk.out.below (blF _ _)).weak (fun g hg _ => by have h' : w1.heap.size ≤ g := hg; omega), HX1.out.alloc HX1.out.size _⟩)
              | (go_meet; exact ⟨w1.heap.size, tx, tk, ta, tn, tc, rfl, rfl, fill3_at hzb.out _ _ _, HTe.out, (kid_fill3 (lo := (w1.alloc (.cells #[.int .i64 0, .int .i64 0, .slice none 0 0] 102)).drew.heap.size) HTk.out (show w1.heap.size < (w1.alloc (.cells #[.int .i64 0, .int .i64 0, .slice none 0 0] 102)).heap.size by simp) _ _ _).weak (fun g hg _ => by have h' : (w1.alloc (.cells #[.int .i64 0, .int .i64 0, .slice none 0 0] 102)).heap.size ≤ g := hg; simp at h'; omega), below_fill3 HX1.out (Nat.le_refl _) _ _ _⟩)
        case rest =>
          obtain ⟨b, tx, tk, ta, tn, tc, rfl, rfl, hbb, hTe, hTk, hBc⟩ := hcut
          have HTe := hide hTe
          have HTk := hide hTk
          have HBc := hide hBc
          have c0 : wc.cell? ⟨b, 0, none⟩ = some (.int .i64 tx.k) := (cell_of_blk hbb 0).trans rfl
          have c1 : wc.cell? ⟨b, 1, none⟩ = some (.int .i64 tx.n) := (cell_of_blk hbb 1).trans rfl
          have c2 : wc.cell? ⟨b, 2, none⟩ = some (.slice ta tn tc) := (cell_of_blk hbb 2).trans rfl
          have HBb := hide hbb
          have hTl : TK.flat.length = tk.flat.length + 1 := by rw [hTe]; simp [F.flat]
          have HSi := hide (l3Size_any tk tx (.slice ta tn tc) _ wc (by omega) hTk)
          obtain ⟨PN, hPN⟩ : ∃ PN, PN = tk.flat.length := ⟨_, rfl⟩
          rw [← hPN] at HSi hTl
          have HPN := hide hPN
          have hB1c : Below wr.heap.size wr wc := HB01.out.trans (hBc.mono HB01.out.size)
          have HB1c := hide hB1c
          clear hTe hTk hBc hbb hPN hB1c u0 u1 u2 u3 u4 u5 u6 u7 u8 u9 u10 t0 t1 t2 t3 t4 t5 t6 t7 t8 t9 t10
          have hP6 : PN ≤ 600 := by omega
          have hcs := HB1c.out.size
          have hbt := (Array.getElem?_eq_some_iff.1 HBb.out).1
          have hsz0 := HSz.out
          have hR2 : Bx wc (w.heap.size + 1 + 1) #[.int .i64 0, .int .i64 0, .slice none 0 0] 102 := HR1.out.below HB1c.out (by omega)
          have hO2 : Bx wc (w.heap.size + 1 + 1 + 1) #[.int .i64 xk, .int .i64 xn, .slice oad al oc] 102 := HO1.out.below HB1c.out (by omega)
          have HR2 := hide hR2
          have HO2 := hide hO2
          have hRl := hR2.lt
          have hOl := hO2.lt
          have HSZ := hide hsz0
          clear h6 hR2 hO2 hsz0
          by_cases hS : SN + (PN + 1) ≤ 600
          · have hS1 : ¬ (600 : Int) < (SN : Int) + ((PN : Int) + 1) := by omega
            go_wp2_with fail
            refine Calls.mono HSi.out ?_
            rintro e w2 ⟨rfl, hb2⟩
            have HB2 := hide hb2
            have d0 : w2.cell? ⟨b, 0, none⟩ = some (.int .i64 tx.k) := (hb2.cell (p := ⟨b, 0, none⟩) hbt).trans c0
            have d1 : w2.cell? ⟨b, 1, none⟩ = some (.int .i64 tx.n) := (hb2.cell (p := ⟨b, 1, none⟩) hbt).trans c1
            have d2 : w2.cell? ⟨b, 2, none⟩ = some (.slice ta tn tc) := (hb2.cell (p := ⟨b, 2, none⟩) hbt).trans c2
            have hO3 : Bx w2 (w.heap.size + 1 + 1 + 1) #[.int .i64 xk, .int .i64 xn, .slice oad al oc] 102 := HO2.out.below hb2 hOl
            have HO3 := hide hO3
            have o2 : w2.cell? ⟨w.heap.size + 1 + 1 + 1, 2, none⟩ = some (.slice oad al oc) := (hO3.c 2).trans rfl
            have hbw2 : Below wr.heap.size wr w2 := HB1c.out.trans (hb2.mono hcs)
            have HBw2 := hide hbw2
            have hown2 : w2.ownsRow w0.heap.size 102 3 (.slice oad al oc) al cs := tOwn_keep HOw.out (fun k _ hk => hbw2.block k hk)
            have HOw2 := hide hown2
            have hws := hbw2.size
            clear hb2 c0 c1 c2 hO3 hown2 hbw2
            go_wp2_with (at_builtin; refine wpList_append_own_at _ rfl _ _ 100 rfl w0.heap.size 102 i0 (.agg #[.int .i64 0, .int .i64 0, .slice none 0 0]) 3 40 Try.underlying100 Hi.out hz0 hz1 hz2 rfl (by decide) _ al cs rfl (HOw2.out.alloc _) ⟨w2.heap.size, 0, none⟩ 1 1 (tC tx (.slice ta tn tc)) rfl rfl ?c1 ?c2 ?c3 ?c4 ?c5 ?_)
            case c1 => exact tC_cells (heap_alloc_new w2 _)
            case c2 => exact tC_one _ _ rfl
            case c3 => unfold maxLen; omega
            case c4 => omega
            case c5 => have := HSZ.out; simp; omega
            intro v' w6 hown6 hgr6 _ hat6
            obtain ⟨g6, cap6, rfl, -, -⟩ := tOwn_some hown6 (by omega)
            have hsz0 := HSZ.out
            have hown7 : w6.ownsRow w0.heap.size 102 3 (.slice (some ⟨g6, 0, none⟩) (al + 1) cap6) (al + 1) (cs ++ tC tx (.slice ta tn tc)) := hown6
            have hNo : ∀ q, (Value.slice oad al oc).ownBlock = some q → w0.heap.size ≤ q ∧ q < wr.heap.size := HOw.out.lt
            have hO6 : w6.heap[w.heap.size + 1 + 1 + 1]? = some (.cells #[.int .i64 xk, .int .i64 xn, .slice oad al oc] 102 (0, 0)) := by
              rw [hgr6.block _ (by simp; omega) (fun e => by have := (hNo _ e.symm).1; omega), heap_alloc_old _ _ (by omega)]; exact HO3.out
            have f6 := (cell_of_blk hO6 2).trans rfl
            have ff6 := unfrozen_of_blk hO6 2
            have hrs := hide (row_step (F1 := a') HBw2.out HKs.out ((HTk.out.below HB2.out).weak (fun q h1 h2 => h1)) hown7 hgr6 (hat6.imp (fun h => h.symm) (fun h => by simp only [Value.ownBlock, Option.some.injEq] at h; simp; omega)) hNo (show w.heap.size + 1 + 1 + 1 < w0.heap.size by omega) hszr HO1.out)
            have HFx : Hid (a'.app (.cons tx tk .nil) = fil R m.bs env xk d 0 (a.app (.cons y ky .nil))) := hide (by rw [HFn.out, HTe.out])
            have HLx : Hid (1 + (a'.app (.cons tx tk .nil)).flat.length = SN + (PN + 1)) := hide (by
              have e1 := HSN.out
              have e2 := HPN.out
              rw [F.app_flat]
              simp only [F.flat, List.length_append, List.length_cons, List.append_nil]
              omega)
            clear hown6 hown7 hgr6 hat6 hO6 HOw2 o2 d0 d1 d2 hsz0
            go_wp2_with fail
            have hsz0 := HSZ.out
            obtain ⟨r1, r2, r3, r4, r5, r6, r7⟩ := hrs.out
            refine ⟨⟨a.app (.cons y ky .nil), bb, a'.app (.cons tx tk .nil), _, cs ++ tC tx (.slice ta tn tc), HSn.out, by rw [HDn.out]; go_num, HFx.out, by rw [HLx.out]; go_num, by rw [HLx.out]; omega, HBr.out.trans (r7.mono (by omega)), by omega, (r4 _ (by omega) (by omega)).trans HM1.out, (r4 _ (by omega) (by omega)).trans HT1.out, (r4 _ (by omega) (by omega)).trans HR1.out, r5, r1, by rw [HDn.out]; exact r2, by rw [HDn.out]; exact r3⟩, by simp [intOf]; omega⟩
          · have hS1 : (600 : Int) < (SN : Int) + ((PN : Int) + 1) := by omega
            go_wp2_with fail
            refine Calls.mono HSi.out ?_
            rintro e w2 ⟨rfl, hb2⟩
            have HB2 := hide hb2
            have hR3 : Bx w2 (w.heap.size + 1 + 1) #[.int .i64 0, .int .i64 0, .slice none 0 0] 102 := HR2.out.below hb2 hRl
            have HR3 := hide hR3
            have r0 : w2.cell? ⟨w.heap.size + 1 + 1, 0, none⟩ = some (.int .i64 0) := (hR3.c 0).trans rfl
            have r1 : w2.cell? ⟨w.heap.size + 1 + 1, 1, none⟩ = some (.int .i64 0) := (hR3.c 1).trans rfl
            have r2 : w2.cell? ⟨w.heap.size + 1 + 1, 2, none⟩ = some (.slice none 0 0) := (hR3.c 2).trans rfl
            have rf := hR3.f
            have hbw2 : Below wr.heap.size wr w2 := HB1c.out.trans (hb2.mono hcs)
            have HBw2 := hide hbw2
            clear hb2 c0 c1 c2 hR3 hbw2
            go_wp2_with fail
            have hre := fill3_at HR3.out (.int .i64 0) (.int .i64 0) (.slice none 0 0)
            have s0 := (cell_of_blk hre 0).trans rfl
            have s1 := (cell_of_blk hre 1).trans rfl
            have s2 := (cell_of_blk hre 2).trans rfl
            have hlo := HSZ.out
            refine bodyPost_ret (v := .tuple #[.agg #[.int .i64 0, .int .i64 0, .slice none 0 0], .bool false]) (by simp [results, Try.results85, go_sem, s0, s1, s2]) rfl ⟨?_, below_fill3 (HBr.out.trans (HBw2.out.mono HBr.out.size)) (by omega) _ _ _⟩
            unfold SpV
            have hge := HGe.out
            rw [if_neg (by omega)]
      · unfold SpV at HC
        simp only [if_neg h6] at HC
        go_cut [17, 18] from 70 to 83 (fun v17 v18 wx => ∃ (b : Nat), v17 = .pointer (some ⟨b, 0, none⟩) ∧ v18 = .bool false ∧ wx.heap[b]? = some (.cells #[.int .i64 0, .int .i64 0, .slice none 0 0] 102) ∧ Below w1.heap.size w1 wx)
        case first =>
          go_region_held3 (fun w' => w'.cell? ⟨w.heap.size, 0, none⟩ = some (.bool m.done) ∧ w'.cell? ⟨w.heap.size, 1, none⟩ = some (.int .i64 m.pl) ∧ w'.cell? ⟨w.heap.size, 2, none⟩ = some (.int .i64 m.env) ∧ w'.cell? ⟨w.heap.size, 3, none⟩ = some (.int .i64 m.val) ∧ w'.cell? ⟨w.heap.size, 4, none⟩ = some (.slice af m.fs.length cf) ∧ w'.cell? ⟨w.heap.size, 5, none⟩ = some (.slice av m.vs.length cv') ∧ w'.cell? ⟨w.heap.size, 6, none⟩ = some (.slice ab m.bs.length cb') ∧ w'.cell? ⟨w.heap.size + 1, 0, none⟩ = some (.int .i64 xk) ∧ w'.cell? ⟨wr.heap.size, 0, none⟩ = some (.int .i64 y.k) ∧ w'.cell? ⟨wr.heap.size, 1, none⟩ = some (.int .i64 y.n) ∧ w'.cell? ⟨wr.heap.size, 2, none⟩ = some (.slice yad kn yc)) (first | (with_reducible exact HAll.out _ HBd.out) | (with_reducible exact HAll.out _ HBa.out) | (with_reducible exact HAll.out _ HX1.out) | (with_reducible exact HAll.out _ (HX1.out.alloc HX1.out.size _)) | (with_reducible exact HAll.out _ (below_fill3 HX1.out (b := w1.heap.size) (Nat.le_refl _) _ _ _)))
            (first
              | ((with_reducible refine Calls.mono (HBi.out _) ?_); rintro e W0 ⟨rfl, hw'⟩; obtain rfl := hw'.symm)
              | ((with_reducible refine Calls.mono (HC.out _ (by first | exact HBd.out | exact HBa.out)) ?_); rintro e W1 ⟨hv, hx⟩; have HX1 : Hid (Below w1.heap.size w1 W1) := hide (by first | exact HBd.out.trans (hx.mono HBd.out.size) | exact HBa.out.trans (hx.mono HBa.out.size)); (try have zb : W1.heap[w1.heap.size]? = some (.cells #[.int .i64 0, .int .i64 0, .slice none 0 0] 102) := (hx.block w1.heap.size (show w1.heap.size < (w1.alloc (.cells #[.int .i64 0, .int .i64 0, .slice none 0 0] 102)).heap.size by simp)).trans (heap_alloc_new _ _)); (try have zc0 : W1.cell? ⟨w1.heap.size, 0, none⟩ = some (.int .i64 0) := (cell_of_blk zb 0).trans rfl); (try have zc1 : W1.cell? ⟨w1.heap.size, 1, none⟩ = some (.int .i64 0) := (cell_of_blk zb 1).trans rfl); (try have zc2 : W1.cell? ⟨w1.heap.size, 2, none⟩ = some (.slice none 0 0) := (cell_of_blk zb 2).trans rfl); (try have zf := unfrozen_of_blk zb); (try have hzb := hide zb; clear zb); subst hv; clear hx))
          all_goals
            go_wp2_with fail
            first
              | (go_meet; exact ⟨W1.heap.size, rfl, rfl, heap_alloc_new _ _, HX1.out.alloc HX1.out.size _⟩)
              | (go_meet; exact ⟨w1.heap.size, rfl, rfl, fill3_at hzb.out _ _ _, below_fill3 HX1.out (Nat.le_refl _) _ _ _⟩)
        case rest =>
          obtain ⟨b, rfl, rfl, hbb, hBc⟩ := hcut
          have c0 : wc.cell? ⟨b, 0, none⟩ = some (.int .i64 0) := (cell_of_blk hbb 0).trans rfl
          have c1 : wc.cell? ⟨b, 1, none⟩ = some (.int .i64 0) := (cell_of_blk hbb 1).trans rfl
          have c2 : wc.cell? ⟨b, 2, none⟩ = some (.slice none 0 0) := (cell_of_blk hbb 2).trans rfl
          have HSi := hide (l3Size_any .nil ⟨0, 0⟩ (.slice none 0 0) (fun _ => True) wc (by simp [F.flat]) KidT.nil)
          simp only [F.flat, List.length_nil] at HSi
          have hB1c : Below wr.heap.size wr wc := HB01.out.trans (hBc.mono HB01.out.size)
          have HB1c := hide hB1c
          have hcs := hB1c.size
          have hsz0 := HSz.out
          have hR2 : Bx wc (w.heap.size + 1 + 1) #[.int .i64 0, .int .i64 0, .slice none 0 0] 102 := HR1.out.below HB1c.out (by omega)
          have HR2 := hide hR2
          have hRl := hR2.lt
          have HSZ := hide hsz0
          clear hBc hbb hB1c u0 u1 u2 u3 u4 u5 u6 u7 u8 u9 u10 t0 t1 t2 t3 t4 t5 t6 t7 t8 t9 t10 hR2 hsz0
          go_wp2_with fail
          refine Calls.mono HSi.out ?_
          rintro e w2 ⟨rfl, hb2⟩
          have hR3 : Bx w2 (w.heap.size + 1 + 1) #[.int .i64 0, .int .i64 0, .slice none 0 0] 102 := HR2.out.below hb2 hRl
          have HR3 := hide hR3
          have r0 : w2.cell? ⟨w.heap.size + 1 + 1, 0, none⟩ = some (.int .i64 0) := (hR3.c 0).trans rfl
          have r1 : w2.cell? ⟨w.heap.size + 1 + 1, 1, none⟩ = some (.int .i64 0) := (hR3.c 1).trans rfl
          have r2 : w2.cell? ⟨w.heap.size + 1 + 1, 2, none⟩ = some (.slice none 0 0) := (hR3.c 2).trans rfl
          have rf := hR3.f
          have hbw2 : Below wr.heap.size wr w2 := HB1c.out.trans (hb2.mono hcs)
          have HBw2 := hide hbw2
          clear hb2 c0 c1 c2 hR3 hbw2
          go_wp2_with fail
          have hre := fill3_at HR3.out (.int .i64 0) (.int .i64 0) (.slice none 0 0)
          have s0 := (cell_of_blk hre 0).trans rfl
          have s1 := (cell_of_blk hre 1).trans rfl
          have s2 := (cell_of_blk hre 2).trans rfl
          have hlo := HSZ.out
          refine bodyPost_ret (v := .tuple #[.agg #[.int .i64 0, .int .i64 0, .slice none 0 0], .bool false]) (by simp [results, Try.results85, go_sem, s0, s1, s2]) rfl ⟨?_, below_fill3 (HBr.out.trans (HBw2.out.mono HBr.out.size)) (by omega) _ _ _⟩
          unfold SpV
          have hge := HGe.out
          rw [if_neg (by omega)]
theorem l6Fill_any (cb0 : Nat) (ad : Option Addr) (c : Nat) (l : List Cc) (mv : Value) (m : Mc) (R : Int → F) (env : Int) (N : Nat) (hR : ∀ j, (R j).len = 1) (hbs : bsOk m.vs.length m.bs = true) (hle : BLens m) (he : -1 ≤ env ∧ env < m.bs.length) (hN : (N : Int) ≤ (bw m.bs env).1)
    (hB : ∀ q : Nat, q < N → ∃ (j : Nat) (hj : j < m.vs.length), lkB m.bs q env = (j : Int) ∧ BkV cb0 ad c l mv m (R (j : Int)) m.vs[j]) : ∀ k, LFGoal cb0 ad c l mv m R env N k := by
  apply F.rec_kids
  intro k ih x s P w d hg hkl hok hx hfb hdl hT hE
  by_cases h1 : x.k = 1
  · have hk0 : k = .nil := F.len_0 (by rw [hkl, h1]; rfl)
    subst hk0
    have hs : s = .slice none 0 0 := by
      obtain ⟨ck, h2, h3⟩ := hT
      rcases h3 with h3 | h3
      · exact h3.2
      · simp [F.len] at h3
    have hxn : 0 ≤ x.n ∧ x.n ≤ 99 := by
      unfold goodC at hg
      rw [if_pos h1] at hg
      unfold inB at hg
      simpa using hg
    by_cases h2 : (d : Int) ≤ x.n
    · have hq := hx h1
      obtain ⟨q, hqe⟩ := Int.eq_ofNat_of_zero_le (show 0 ≤ x.n - (d : Int) by omega)
      obtain ⟨j, hj, e1, e2⟩ := hB q (by omega)
      have e3 : fil R m.bs env 0 d 0 (.cons x .nil .nil) = R (j : Int) := by
        rw [fil, if_pos ⟨h1, by simpa [binds] using h2⟩, binds_0', Nat.add_zero, hqe, Int.toNat_natCast, e1]
        simp [fil, F.app_nil]
      rw [e3, h1]
      exact fill_var cb0 ad c l mv m (R (j : Int)) env hbs hle he x.n d q j s w hxn.1 (by omega) hqe (by omega) e1 hj e2 hs hE
    · subst hs
      have e3 : fil R m.bs env 0 d 0 (.cons x .nil .nil) = .cons x .nil .nil := by
        rw [fil, if_neg (by rw [binds_0', Nat.add_zero]; intro q; omega)]
        rfl
      rw [e3]
      exact fill_leaf cb0 ad c l mv m _ env x d w h1 (by omega) rfl hE
  · have e3 : fil R m.bs env 0 d 0 (.cons x k .nil) = .cons x (fil R m.bs env x.k d 0 k) .nil := by
      rw [fil, if_neg (fun q => h1 q.1), binds_0', Nat.add_zero]
      rfl
    rw [e3]
    exact fill_node cb0 ad c l mv m R env N hR k ih x s P w d h1 hkl hok hfb hdl _ rfl hT hE
end Go.Proofs.Ytdajalchdbgooaa.W

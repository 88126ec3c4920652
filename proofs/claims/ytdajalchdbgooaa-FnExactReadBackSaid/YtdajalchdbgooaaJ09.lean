/-
  Some texts of this proof in one: RbN, RbW, MaK.
-/
import Derived.Test.YtdajalchdbgooaaJ08
import Derived.Test.YtdajalchdbgooaaJ03
import Derived.Test.YtdajalchdbgooaaJ05
/-
  Values read back with a count that goes round: where it does not. No program here.
-/
namespace Go.Proofs.Ytdajalchdbgooaa.W
open Go.RowKit
set_option linter.unusedVariables false

def rbGw (RS : Int → Int → F × Int) (bs : List Bd) (env : Int) : Int → Int → Nat → F := fun s n d => if n < (d : Int) then .cons ⟨1, n⟩ .nil .nil else (RS (lkB bs (n - (d : Int)).toNat env) (wrap64 (s - 1))).1
def rbUw (RS : Int → Int → F × Int) (bs : List Bd) (env : Int) : Int → Int → Nat → Int := fun s n d => if n < (d : Int) then s else (RS (lkB bs (n - (d : Int)).toNat env) (wrap64 (s - 1))).2
/-- The value j as the program reads it back, and the count behind it, as Go counts. -/
def rbW (l : List Cc) (vs : List Vl) (bs : List Bd) : Nat → Int → Int → F × Int
  | 0, _, s => (numT 0, s)
  | f + 1, j, s => match vs[j.toNat]? with
    | none => (numT 0, s)
    | some v => if v.fn = true then (match rt 1 (l.drop v.pl.toNat) with
        | some (t, _) => if 600 < wrap64 (s + (t.flat.length : Int)) then (numT 0, wrap64 (s + (t.flat.length : Int))) else wv (rbGw (rbW l vs bs f) bs v.env) (rbUw (rbW l vs bs f) bs v.env) 0 0 0 t (wrap64 (s + (t.flat.length : Int)))
        | none => (numT 0, s)) else (numT v.num, wrap64 (s + 1))
theorem wr_in {n : Int} (h0 : -1000000000000000 ≤ n) (h1 : n ≤ 1000000000000000) : wrap64 n = n := IntWalk.wrap64_in _ ⟨by omega, by omega⟩
def Mb (s : Int) : Int := if s ≤ 600 then 1200 + (601 - s) * 360600 else s + 600
theorem Mb_le {v s : Int} (h : s ≤ v) : Mb v ≤ max (v + 600) (Mb s) := by
  unfold Mb
  by_cases h1 : v ≤ 600
  · rw [if_pos h1, if_pos (by omega)]
    omega
  · rw [if_neg h1]
    omega

theorem row_eq {RW RS : Int → Int → F × Int} {bs : List Bd} {env : Int} {N : Nat} {lo B : Int} (hlo : 1 ≤ lo) (h : ∀ n : Nat, n < N → ∀ v : Int, lo - 1 ≤ v → v ≤ 1000000000000 → RW (lkB bs n env) v = RS (lkB bs n env) v ∧ v + 1 ≤ (RS (lkB bs n env) v).2 ∧ (RS (lkB bs n env) v).2 ≤ max (v + 600) B) :
    ∀ (a : F) (pk : Int) (d i : Nat), a.ok → FBv pk (N + d) i a → ∀ u : Int, lo ≤ u → max u B + 600 * (a.flat.length : Int) ≤ 1000000000000 →
      wv (rbGw RW bs env) (rbUw RW bs env) pk d i a u = wv (rbG RS bs env) (rbU RS bs env) pk d i a u ∧ u ≤ (wv (rbG RS bs env) (rbU RS bs env) pk d i a u).2 ∧ (wv (rbG RS bs env) (rbU RS bs env) pk d i a u).2 ≤ max u B + 600 * (a.flat.length : Int)
  | .nil, pk, d, i, _, _, u, hu, hm => by
    simp only [wv, F.flat, List.length_nil]
    exact ⟨trivial, by omega, by omega⟩
  | .cons x k r, pk, d, i, ⟨g1, g2, g3, g4⟩, ⟨b1, b2, b3⟩, u, hu, hm => by
    rw [show N + d + binds pk i = N + (d + binds pk i) by omega] at b1 b2
    have hfl : ((F.cons x k r).flat.length : Int) = 1 + k.flat.length + r.flat.length := by simp [F.flat]; omega
    rw [hfl] at hm ⊢
    by_cases hx : x.k = 1
    · have hk0 : k = .nil := F.len_0 (by rw [g2, hx]; rfl)
      subst hk0
      have hz : (F.nil.flat.length : Int) = 0 := rfl
      rw [hz] at hm ⊢
      by_cases hd : ((d + binds pk i : Nat) : Int) ≤ x.n
      · have hn := b1 hx
        obtain ⟨n, hnn⟩ : ∃ n : Nat, n = (x.n - ((d + binds pk i : Nat) : Int)).toNat := ⟨_, rfl⟩
        have ew1 : wv (rbGw RW bs env) (rbUw RW bs env) pk d i (.cons x .nil r) u = ((RW (lkB bs n env) (wrap64 (u - 1))).1.app (wv (rbGw RW bs env) (rbUw RW bs env) pk d (i + 1) r (RW (lkB bs n env) (wrap64 (u - 1))).2).1, (wv (rbGw RW bs env) (rbUw RW bs env) pk d (i + 1) r (RW (lkB bs n env) (wrap64 (u - 1))).2).2) := by
          simp only [wv, hx, if_true, rbGw, rbUw]
          rw [if_neg (by omega), if_neg (by omega), hnn]
        have ew2 : wv (rbG RS bs env) (rbU RS bs env) pk d i (.cons x .nil r) u = ((RS (lkB bs n env) (u - 1)).1.app (wv (rbG RS bs env) (rbU RS bs env) pk d (i + 1) r (RS (lkB bs n env) (u - 1)).2).1, (wv (rbG RS bs env) (rbU RS bs env) pk d (i + 1) r (RS (lkB bs n env) (u - 1)).2).2) := by
          simp only [wv, hx, if_true, rbG, rbU]
          rw [if_neg (by omega), if_neg (by omega), hnn]
        rw [ew1, ew2, wr_in (by omega) (by omega)]
        obtain ⟨e1, e2, e3⟩ := h n (by omega) (u - 1) (by omega) (by omega)
        rw [e1]
        obtain ⟨V, hV⟩ : ∃ V, V = (RS (lkB bs n env) (u - 1)).2 := ⟨_, rfl⟩
        rw [← hV] at e2 e3 ⊢
        obtain ⟨f1, f2, f3⟩ := row_eq hlo h r pk d (i + 1) g4 b3 V (by omega) (by omega)
        rw [f1]
        exact ⟨rfl, by simp only; omega, by simp only; omega⟩
      · have ew1 : wv (rbGw RW bs env) (rbUw RW bs env) pk d i (.cons x .nil r) u = ((F.cons ⟨1, x.n⟩ .nil .nil).app (wv (rbGw RW bs env) (rbUw RW bs env) pk d (i + 1) r u).1, (wv (rbGw RW bs env) (rbUw RW bs env) pk d (i + 1) r u).2) := by
          simp only [wv, hx, if_true, rbGw, rbUw]
          rw [if_pos (by omega), if_pos (by omega)]
        have ew2 : wv (rbG RS bs env) (rbU RS bs env) pk d i (.cons x .nil r) u = ((F.cons ⟨1, x.n⟩ .nil .nil).app (wv (rbG RS bs env) (rbU RS bs env) pk d (i + 1) r u).1, (wv (rbG RS bs env) (rbU RS bs env) pk d (i + 1) r u).2) := by
          simp only [wv, hx, if_true, rbG, rbU]
          rw [if_pos (by omega), if_pos (by omega)]
        obtain ⟨f1, f2, f3⟩ := row_eq hlo h r pk d (i + 1) g4 b3 u hu (by omega)
        rw [ew1, ew2, f1]
        exact ⟨rfl, by simp only; omega, by simp only; omega⟩
    · have ew1 : wv (rbGw RW bs env) (rbUw RW bs env) pk d i (.cons x k r) u = (.cons x (wv (rbGw RW bs env) (rbUw RW bs env) x.k (d + binds pk i) 0 k u).1 (wv (rbGw RW bs env) (rbUw RW bs env) pk d (i + 1) r (wv (rbGw RW bs env) (rbUw RW bs env) x.k (d + binds pk i) 0 k u).2).1, (wv (rbGw RW bs env) (rbUw RW bs env) pk d (i + 1) r (wv (rbGw RW bs env) (rbUw RW bs env) x.k (d + binds pk i) 0 k u).2).2) := by simp only [wv, hx, if_false]
      have ew2 : wv (rbG RS bs env) (rbU RS bs env) pk d i (.cons x k r) u = (.cons x (wv (rbG RS bs env) (rbU RS bs env) x.k (d + binds pk i) 0 k u).1 (wv (rbG RS bs env) (rbU RS bs env) pk d (i + 1) r (wv (rbG RS bs env) (rbU RS bs env) x.k (d + binds pk i) 0 k u).2).1, (wv (rbG RS bs env) (rbU RS bs env) pk d (i + 1) r (wv (rbG RS bs env) (rbU RS bs env) x.k (d + binds pk i) 0 k u).2).2) := by simp only [wv, hx, if_false]
      obtain ⟨f1, f2, f3⟩ := row_eq hlo h k x.k (d + binds pk i) 0 g3 b2 u hu (by omega)
      rw [ew1, ew2, f1]
      obtain ⟨V, hV⟩ : ∃ V, V = (wv (rbG RS bs env) (rbU RS bs env) x.k (d + binds pk i) 0 k u).2 := ⟨_, rfl⟩
      rw [← hV] at f2 f3 ⊢
      obtain ⟨c1, c2, c3⟩ := row_eq hlo h r pk d (i + 1) g4 b3 V (by omega) (by omega)
      rw [c1]
      exact ⟨rfl, by simp only; omega, by simp only; omega⟩

theorem rbW_eq {l : List Cc} {a : F} {m : Mc} (hC : Cl l a) (h : GM a l m) : ∀ (f j : Nat), j < f → j < m.vs.length → ∀ s : Int, 0 ≤ s → s ≤ 1000000000000 → rbW l m.vs m.bs f (j : Int) s = rbS l m.vs m.bs f (j : Int) s ∧ s + 1 ≤ (rbS l m.vs m.bs f (j : Int) s).2 ∧ (rbS l m.vs m.bs f (j : Int) s).2 ≤ Mb s
  | 0, j, hj, _, _, _, _ => by omega
  | f + 1, j, hj, hl, s, h0, h1 => by
    have e0 : m.vs[((j : Int)).toNat]? = some m.vs[j] := by simp [hl]
    have hMb : s + 600 ≤ Mb s := by unfold Mb; split <;> omega
    by_cases hf : m.vs[j].fn = true
    · obtain ⟨x, k, r, hr, hx, hg, hk, ho, hfb, -, -, he, hw0, hlt, hle, -⟩ := val_part hC h hl hf
      obtain ⟨L, hL⟩ : ∃ L, L = ((F.cons x k .nil).flat.length : Int) := ⟨_, rfl⟩
      have hl6 := hC.le
      have hL2 : 2 ≤ L := by
        obtain ⟨y, ky, e⟩ := F.len_1 (a := k) (by rw [hk, hx]; rfl)
        rw [hL, e]; simp [F.flat]; omega
      have hL6 : L ≤ 600 := by rw [hL]; simp [F.flat]; omega
      have eW : rbW l m.vs m.bs (f + 1) (j : Int) s = if 600 < wrap64 (s + L) then (numT 0, wrap64 (s + L)) else wv (rbGw (rbW l m.vs m.bs f) m.bs m.vs[j].env) (rbUw (rbW l m.vs m.bs f) m.bs m.vs[j].env) 0 0 0 (.cons x k .nil) (wrap64 (s + L)) := by
        rw [rbW, e0]
        simp only
        rw [if_pos hf, hr, hL]
      have eS : rbS l m.vs m.bs (f + 1) (j : Int) s = if 600 < s + L then (numT 0, s + L) else wv (rbG (rbS l m.vs m.bs f) m.bs m.vs[j].env) (rbU (rbS l m.vs m.bs f) m.bs m.vs[j].env) 0 0 0 (.cons x k .nil) (s + L) := by
        rw [rbS, e0]
        simp only
        rw [if_pos hf, hr, hL]
      rw [eW, eS, wr_in (by omega) (by omega)]
      by_cases h6 : 600 < s + L
      · rw [if_pos h6, if_pos h6]
        exact ⟨rfl, by simp only; omega, by simp only; omega⟩
      · rw [if_neg h6, if_neg h6]
        have hP : ∀ n : Nat, n < (bw m.bs m.vs[j].env).1.toNat → ∀ v : Int, (s + 2) - 1 ≤ v → v ≤ 1000000000000 → rbW l m.vs m.bs f (lkB m.bs n m.vs[j].env) v = rbS l m.vs m.bs f (lkB m.bs n m.vs[j].env) v ∧ v + 1 ≤ (rbS l m.vs m.bs f (lkB m.bs n m.vs[j].env) v).2 ∧ (rbS l m.vs m.bs f (lkB m.bs n m.vs[j].env) v).2 ≤ max (v + 600) (Mb (s + 1)) := by
          intro n hn v hv1 hv2
          have q1 := lkB_ok h.bs n m.vs[j].env he.2 (by omega)
          have q2 := lkB_le h.bs n m.vs[j].env he.2 (by omega)
          obtain ⟨q, hq⟩ := Int.eq_ofNat_of_zero_le q1.1
          rw [hq]
          obtain ⟨c1, c2, c3⟩ := rbW_eq hC h f q (by omega) (by omega) v (by omega) hv2
          have c4 := Mb_le (s := s + 1) (v := v) (by omega)
          exact ⟨c1, c2, by omega⟩
        have hMs : Mb (s + 1) = 1200 + (601 - (s + 1)) * 360600 := by unfold Mb; rw [if_pos (by omega)]
        have hMs0 : Mb s = 1200 + (601 - s) * 360600 := by unfold Mb; rw [if_pos (by omega)]
        obtain ⟨c1, c2, c3⟩ := row_eq (lo := s + 2) (by omega) hP (.cons x k .nil) 0 0 0 ⟨hg, hk, ho, trivial⟩ hfb (s + L) (by omega) (by rw [← hL, hMs]; omega)
        rw [← hL, hMs] at c3
        exact ⟨c1, by omega, by rw [hMs0]; omega⟩
    · have eW : rbW l m.vs m.bs (f + 1) (j : Int) s = (numT m.vs[j].num, wrap64 (s + 1)) := by
        rw [rbW, e0]
        simp only
        rw [if_neg hf]
      have eS : rbS l m.vs m.bs (f + 1) (j : Int) s = (numT m.vs[j].num, s + 1) := by
        rw [rbS, e0]
        simp only
        rw [if_neg hf]
      rw [eW, eS, wr_in (by omega) (by omega)]
      exact ⟨rfl, by simp only; omega, by simp only; omega⟩
end Go.Proofs.Ytdajalchdbgooaa.W

/-
  The walk over a term's variables where the change is asked at some of them alone: a contract of withVariables. Conditions: as the theorem states.
-/
namespace Go.Proofs.Ytdajalchdbgooaa.W
open Go.ChangeShapes Go.WideShapes Go.ChangeAt Go.RowKit
set_option linter.unusedVariables false

/-- What a change of variables does, where it is asked. -/
def ChgD {σ : Type} (D : Int → Nat → Prop) (fid : FuncId) (cap : Array Value) (cb : Nat) (ob : σ → World → Prop) (g : σ → Int → Nat → F) (st : σ → Int → Nat → σ) : Prop :=
  ∀ (s : σ) (n : Int) (d : Nat) (w : World), 0 ≤ n → n ≤ 99 → d ≤ 1048576 → D n d → cb < w.heap.size → Inv cb (ob s) w →
    Calls Try.prog fid (#[.agg #[.int .i64 n], .int .i64 (d : Int)] ++ cap) w fun e w' => e = .returned (pvT (g s n d)) ∧ Inv cb (ob (st s n d)) w' ∧ Oth cb w w'
/-- Each variable is one where it is asked. -/
def AllD (D : Int → Nat → Prop) (pk : Int) (d : Nat) : Nat → F → Prop
  | _, .nil => True
  | i, .cons x k r => (x.k = 1 → D x.n (d + binds pk i)) ∧ AllD D x.k (d + binds pk i) 0 k ∧ AllD D pk d (i + 1) r

section
variable {σ : Type} (fid : FuncId) (cap : Array Value) (cb : Nat) (ob : σ → World → Prop) (g : σ → Int → Nat → F) (st : σ → Int → Nat → σ) (D : Int → Nat → Prop)
def WVGoalD (k : F) : Prop := ∀ (x : Cc) (s : σ) (d : Nat), goodC x = true → k.len = ar x.k → k.ok → (x.k = 1 → D x.n d) → AllD D x.k d 0 k → d + k.flat.length ≤ 1048576 → WVC fid cap cb ob s (d : Int) (pv x.k x.n (pvs k)) (w1 g st d x k s)

set_option maxRecDepth 20000 in
set_option maxHeartbeats 2000000 in
theorem with_varD (hfn : ∀ args w, (callFunc fid args).run Try.prog w = .ok (.enter fid args) w) (hch : ChgD D fid cap cb ob g st) (hlen : ∀ s n d, (g s n d).len = 1) (s0 : σ) (d : Nat) (hd : d ≤ 1048576) (n : Int) (h0 : 0 ≤ n) (h1 : n ≤ 99) (h2 : D n d) :
    ∀ (w : World), cb < w.heap.size → Inv cb (ob s0) w → Calls Try.prog 89 #[.iface 154 (.agg #[.int .i64 n]), .int .i64 (d : Int), .func (.func fid) #[] cap] w fun e w' => e = .returned (pvT (g s0 n d)) ∧ Inv cb (ob (st s0 n d)) w' ∧ Oth cb w w' := by
  intro w hcb hinv
  have HI := hide hinv
  have HC := hide (fun w' => hch s0 n d w' h0 h1 hd h2)
  obtain ⟨T, u, hV⟩ := pvT_iface (hlen s0 n d)
  rw [hV] at HC ⊢
  clear hinv hV hch
  have a_var := as_var_var
  go_enter Try.func89, Try.ntmps89
  go_wp2_with fail
  refine Calls.mono (HC.out _ (by simp; omega) (HI.out.oth _)) ?_
  rintro e w2 ⟨rfl, hi2, ho2⟩
  go_wp2_with fail
  go_ret
  exact ⟨rfl, hi2, (Oth.alloc1 cb w _).trans ho2⟩

theorem withVariables_D (hfn : ∀ args w, (callFunc fid args).run Try.prog w = .ok (.enter fid args) w) (hch : ChgD D fid cap cb ob g st) (hlen : ∀ s n d, (g s n d).len = 1) : ∀ k, WVGoalD fid cap cb ob g st D k := by
  apply F.rec_kids
  intro k ih x s d hg hk hko hD hA hd w hcb hinv
  have hl1 : ∀ (y : Cc) (ky : F) (s : σ) (d : Nat), (w1 g st d y ky s).1.len = 1 := fun y ky s d => wv_len hlen _ _ _ _ _
  have one : ∀ (y : Cc) (ky : F) (s : σ) (d : Nat), ∃ R q, pvT (w1 g st d y ky s).1 = .iface R q := fun y ky s d => pvT_iface (hl1 y ky s d)
  obtain ⟨xk, xn⟩ := x
  have hin := good_ar hg
  simp only [inB, Bool.and_eq_true, decide_eq_true_eq] at hin
  have hx : xk = 1 ∨ xk = 2 ∨ xk = 3 ∨ xk = 4 ∨ xk = 5 ∨ xk = 6 ∨ xk = 7 := by omega
  simp only at hD hA
  rcases hx with h | h | h | h | h | h | h
  · subst h
    rw [w1_var]
    have hn : 0 ≤ xn ∧ xn ≤ 99 := by simpa [goodC, inB] using hg
    exact with_varD fid cap cb ob g st D hfn hch hlen s d (by omega) xn hn.1 hn.2 (hD rfl) w hcb hinv
  · subst h
    have hk0 : k = .nil := F.len_0 (by rw [hk]; rfl)
    subst hk0
    rw [w1_other _ _ _ _ _ _ (by simp)]
    exact with_num fid cap cb ob s d xn w hcb hinv
  · subst h
    obtain ⟨y0, k0, rfl⟩ := F.len_1 (show k.len = 1 by rw [hk]; rfl)
    obtain ⟨g0, l0, o0, r0⟩ := ok_cons hko
    have i0 := ih.1
    have hfl : d + ((1 + k0.flat.length)) ≤ 1048576 := by simp [F.flat] at hd; omega
    obtain ⟨R0, q0, e0⟩ := one y0 k0 s (d + 1)
    have c0 := i0 y0 s (d + 1) g0 l0 o0 (by simpa [binds] using hA.1) (by simpa [binds] using hA.2.1) (by omega)
    have f0 := hl1 y0 k0 s (d + 1)
    obtain ⟨T0, u0, v0⟩ := pv_iface y0.k y0.n (pvs k0)
    unfold WVC at c0
    rw [e0, v0] at c0
    rw [show ((d + 1 : Nat) : Int) = (d : Int) + 1 from rfl] at c0
    rw [w1_other _ _ _ _ _ _ (by simp)]
    have hp : pv 3 xn (pvs (F.cons y0 k0 (.nil))) = .iface 176 (.agg #[.iface T0 u0]) := by
      show pv 3 xn [pv y0.k y0.n (pvs k0)] = _
      rw [v0]
      rfl
    have hw : wv g st 3 d 0 (F.cons y0 k0 (.nil)) s = ((w1 g st (d + 1) y0 k0 s).1.app (.nil), (w1 g st (d + 1) y0 k0 s).2) := by simp [wv_step, wv_nil, binds]
    have hr : pvT (.cons ⟨3, xn⟩ ((w1 g st (d + 1) y0 k0 s).1.app (.nil)) .nil) = .iface 176 (.agg #[.iface R0 q0]) := by
      show pv 3 xn (pvs ((w1 g st (d + 1) y0 k0 s).1.app (.nil))) = _
      simp only [pvs_app, pvs_one f0, pvs]
      simp [pv, e0]
    rw [hw]
    simp only
    rw [hr, hp]
    exact with_lam fid cap cb ob s d (by omega) T0 u0 R0 q0 _ c0 w hcb hinv
  · subst h
    obtain ⟨y0, k0, y1, k1, rfl⟩ := F.len_2 (show k.len = 2 by rw [hk]; rfl)
    obtain ⟨g0, l0, o0, r0⟩ := ok_cons hko
    obtain ⟨g1, l1, o1, r1⟩ := ok_cons r0
    have i0 := ih.1
    have i1 := ih.2.1
    have hfl : d + ((1 + k0.flat.length) + (1 + k1.flat.length)) ≤ 1048576 := by simp [F.flat] at hd; omega
    obtain ⟨R0, q0, e0⟩ := one y0 k0 s d
    have c0 := i0 y0 s d g0 l0 o0 (by simpa [binds] using hA.1) (by simpa [binds] using hA.2.1) (by omega)
    have f0 := hl1 y0 k0 s d
    obtain ⟨R1, q1, e1⟩ := one y1 k1 (w1 g st d y0 k0 s).2 d
    have c1 := i1 y1 (w1 g st d y0 k0 s).2 d g1 l1 o1 (by simpa [binds] using hA.2.2.1) (by simpa [binds] using hA.2.2.2.1) (by omega)
    have f1 := hl1 y1 k1 (w1 g st d y0 k0 s).2 d
    obtain ⟨T0, u0, v0⟩ := pv_iface y0.k y0.n (pvs k0)
    unfold WVC at c0
    rw [e0, v0] at c0
    obtain ⟨T1, u1, v1⟩ := pv_iface y1.k y1.n (pvs k1)
    unfold WVC at c1
    rw [e1, v1] at c1
    rw [w1_other _ _ _ _ _ _ (by simp)]
    have hp : pv 4 xn (pvs (F.cons y0 k0 (F.cons y1 k1 (.nil)))) = .iface 178 (.agg #[.iface T0 u0, .iface T1 u1]) := by
      show pv 4 xn [pv y0.k y0.n (pvs k0), pv y1.k y1.n (pvs k1)] = _
      rw [v0, v1]
      rfl
    have hw : wv g st 4 d 0 (F.cons y0 k0 (F.cons y1 k1 (.nil))) s = ((w1 g st d y0 k0 s).1.app ((w1 g st d y1 k1 (w1 g st d y0 k0 s).2).1.app (.nil)), (w1 g st d y1 k1 (w1 g st d y0 k0 s).2).2) := by simp [wv_step, wv_nil, binds]
    have hr : pvT (.cons ⟨4, xn⟩ ((w1 g st d y0 k0 s).1.app ((w1 g st d y1 k1 (w1 g st d y0 k0 s).2).1.app (.nil))) .nil) = .iface 178 (.agg #[.iface R0 q0, .iface R1 q1]) := by
      show pv 4 xn (pvs ((w1 g st d y0 k0 s).1.app ((w1 g st d y1 k1 (w1 g st d y0 k0 s).2).1.app (.nil)))) = _
      simp only [pvs_app, pvs_one f0, pvs_one f1, pvs]
      simp [pv, e0, e1]
    rw [hw]
    simp only
    rw [hr, hp]
    exact with_app fid cap cb ob s d (by omega) T0 u0 R0 q0 _ T1 u1 R1 q1 _ c0 c1 w hcb hinv
  · subst h
    obtain ⟨y0, k0, y1, k1, rfl⟩ := F.len_2 (show k.len = 2 by rw [hk]; rfl)
    obtain ⟨g0, l0, o0, r0⟩ := ok_cons hko
    obtain ⟨g1, l1, o1, r1⟩ := ok_cons r0
    have i0 := ih.1
    have i1 := ih.2.1
    have hfl : d + ((1 + k0.flat.length) + (1 + k1.flat.length)) ≤ 1048576 := by simp [F.flat] at hd; omega
    obtain ⟨R0, q0, e0⟩ := one y0 k0 s d
    have c0 := i0 y0 s d g0 l0 o0 (by simpa [binds] using hA.1) (by simpa [binds] using hA.2.1) (by omega)
    have f0 := hl1 y0 k0 s d
    obtain ⟨R1, q1, e1⟩ := one y1 k1 (w1 g st d y0 k0 s).2 d
    have c1 := i1 y1 (w1 g st d y0 k0 s).2 d g1 l1 o1 (by simpa [binds] using hA.2.2.1) (by simpa [binds] using hA.2.2.2.1) (by omega)
    have f1 := hl1 y1 k1 (w1 g st d y0 k0 s).2 d
    obtain ⟨T0, u0, v0⟩ := pv_iface y0.k y0.n (pvs k0)
    unfold WVC at c0
    rw [e0, v0] at c0
    obtain ⟨T1, u1, v1⟩ := pv_iface y1.k y1.n (pvs k1)
    unfold WVC at c1
    rw [e1, v1] at c1
    rw [w1_other _ _ _ _ _ _ (by simp)]
    have hp : pv 5 xn (pvs (F.cons y0 k0 (F.cons y1 k1 (.nil)))) = .iface 180 (.agg #[.iface T0 u0, .iface T1 u1]) := by
      show pv 5 xn [pv y0.k y0.n (pvs k0), pv y1.k y1.n (pvs k1)] = _
      rw [v0, v1]
      rfl
    have hw : wv g st 5 d 0 (F.cons y0 k0 (F.cons y1 k1 (.nil))) s = ((w1 g st d y0 k0 s).1.app ((w1 g st d y1 k1 (w1 g st d y0 k0 s).2).1.app (.nil)), (w1 g st d y1 k1 (w1 g st d y0 k0 s).2).2) := by simp [wv_step, wv_nil, binds]
    have hr : pvT (.cons ⟨5, xn⟩ ((w1 g st d y0 k0 s).1.app ((w1 g st d y1 k1 (w1 g st d y0 k0 s).2).1.app (.nil))) .nil) = .iface 180 (.agg #[.iface R0 q0, .iface R1 q1]) := by
      show pv 5 xn (pvs ((w1 g st d y0 k0 s).1.app ((w1 g st d y1 k1 (w1 g st d y0 k0 s).2).1.app (.nil)))) = _
      simp only [pvs_app, pvs_one f0, pvs_one f1, pvs]
      simp [pv, e0, e1]
    rw [hw]
    simp only
    rw [hr, hp]
    exact with_add fid cap cb ob s d (by omega) T0 u0 R0 q0 _ T1 u1 R1 q1 _ c0 c1 w hcb hinv
  · subst h
    obtain ⟨y0, k0, y1, k1, y2, k2, rfl⟩ := F.len_3 (show k.len = 3 by rw [hk]; rfl)
    obtain ⟨g0, l0, o0, r0⟩ := ok_cons hko
    obtain ⟨g1, l1, o1, r1⟩ := ok_cons r0
    obtain ⟨g2, l2, o2, r2⟩ := ok_cons r1
    have i0 := ih.1
    have i1 := ih.2.1
    have i2 := ih.2.2.1
    have hfl : d + ((1 + k0.flat.length) + (1 + k1.flat.length) + (1 + k2.flat.length)) ≤ 1048576 := by simp [F.flat] at hd; omega
    obtain ⟨R0, q0, e0⟩ := one y0 k0 s d
    have c0 := i0 y0 s d g0 l0 o0 (by simpa [binds] using hA.1) (by simpa [binds] using hA.2.1) (by omega)
    have f0 := hl1 y0 k0 s d
    obtain ⟨R1, q1, e1⟩ := one y1 k1 (w1 g st d y0 k0 s).2 d
    have c1 := i1 y1 (w1 g st d y0 k0 s).2 d g1 l1 o1 (by simpa [binds] using hA.2.2.1) (by simpa [binds] using hA.2.2.2.1) (by omega)
    have f1 := hl1 y1 k1 (w1 g st d y0 k0 s).2 d
    obtain ⟨R2, q2, e2⟩ := one y2 k2 (w1 g st d y1 k1 (w1 g st d y0 k0 s).2).2 d
    have c2 := i2 y2 (w1 g st d y1 k1 (w1 g st d y0 k0 s).2).2 d g2 l2 o2 (by simpa [binds] using hA.2.2.2.2.1) (by simpa [binds] using hA.2.2.2.2.2.1) (by omega)
    have f2 := hl1 y2 k2 (w1 g st d y1 k1 (w1 g st d y0 k0 s).2).2 d
    obtain ⟨T0, u0, v0⟩ := pv_iface y0.k y0.n (pvs k0)
    unfold WVC at c0
    rw [e0, v0] at c0
    obtain ⟨T1, u1, v1⟩ := pv_iface y1.k y1.n (pvs k1)
    unfold WVC at c1
    rw [e1, v1] at c1
    obtain ⟨T2, u2, v2⟩ := pv_iface y2.k y2.n (pvs k2)
    unfold WVC at c2
    rw [e2, v2] at c2
    rw [w1_other _ _ _ _ _ _ (by simp)]
    have hp : pv 6 xn (pvs (F.cons y0 k0 (F.cons y1 k1 (F.cons y2 k2 (.nil))))) = .iface 182 (.agg #[.iface T0 u0, .iface T1 u1, .iface T2 u2]) := by
      show pv 6 xn [pv y0.k y0.n (pvs k0), pv y1.k y1.n (pvs k1), pv y2.k y2.n (pvs k2)] = _
      rw [v0, v1, v2]
      rfl
    have hw : wv g st 6 d 0 (F.cons y0 k0 (F.cons y1 k1 (F.cons y2 k2 (.nil)))) s = ((w1 g st d y0 k0 s).1.app ((w1 g st d y1 k1 (w1 g st d y0 k0 s).2).1.app ((w1 g st d y2 k2 (w1 g st d y1 k1 (w1 g st d y0 k0 s).2).2).1.app (.nil))), (w1 g st d y2 k2 (w1 g st d y1 k1 (w1 g st d y0 k0 s).2).2).2) := by simp [wv_step, wv_nil, binds]
    have hr : pvT (.cons ⟨6, xn⟩ ((w1 g st d y0 k0 s).1.app ((w1 g st d y1 k1 (w1 g st d y0 k0 s).2).1.app ((w1 g st d y2 k2 (w1 g st d y1 k1 (w1 g st d y0 k0 s).2).2).1.app (.nil)))) .nil) = .iface 182 (.agg #[.iface R0 q0, .iface R1 q1, .iface R2 q2]) := by
      show pv 6 xn (pvs ((w1 g st d y0 k0 s).1.app ((w1 g st d y1 k1 (w1 g st d y0 k0 s).2).1.app ((w1 g st d y2 k2 (w1 g st d y1 k1 (w1 g st d y0 k0 s).2).2).1.app (.nil))))) = _
      simp only [pvs_app, pvs_one f0, pvs_one f1, pvs_one f2, pvs]
      simp [pv, e0, e1, e2]
    rw [hw]
    simp only
    rw [hr, hp]
    exact with_if fid cap cb ob s d (by omega) T0 u0 R0 q0 _ T1 u1 R1 q1 _ T2 u2 R2 q2 _ c0 c1 c2 w hcb hinv
  · subst h
    obtain ⟨y0, k0, y1, k1, rfl⟩ := F.len_2 (show k.len = 2 by rw [hk]; rfl)
    obtain ⟨g0, l0, o0, r0⟩ := ok_cons hko
    obtain ⟨g1, l1, o1, r1⟩ := ok_cons r0
    have i0 := ih.1
    have i1 := ih.2.1
    have hfl : d + ((1 + k0.flat.length) + (1 + k1.flat.length)) ≤ 1048576 := by simp [F.flat] at hd; omega
    obtain ⟨R0, q0, e0⟩ := one y0 k0 s d
    have c0 := i0 y0 s d g0 l0 o0 (by simpa [binds] using hA.1) (by simpa [binds] using hA.2.1) (by omega)
    have f0 := hl1 y0 k0 s d
    obtain ⟨R1, q1, e1⟩ := one y1 k1 (w1 g st d y0 k0 s).2 (d + 1)
    have c1 := i1 y1 (w1 g st d y0 k0 s).2 (d + 1) g1 l1 o1 (by simpa [binds] using hA.2.2.1) (by simpa [binds] using hA.2.2.2.1) (by omega)
    have f1 := hl1 y1 k1 (w1 g st d y0 k0 s).2 (d + 1)
    obtain ⟨T0, u0, v0⟩ := pv_iface y0.k y0.n (pvs k0)
    unfold WVC at c0
    rw [e0, v0] at c0
    obtain ⟨T1, u1, v1⟩ := pv_iface y1.k y1.n (pvs k1)
    unfold WVC at c1
    rw [e1, v1] at c1
    rw [show ((d + 1 : Nat) : Int) = (d : Int) + 1 from rfl] at c1
    rw [w1_other _ _ _ _ _ _ (by simp)]
    have hp : pv 7 xn (pvs (F.cons y0 k0 (F.cons y1 k1 (.nil)))) = .iface 184 (.agg #[.iface T0 u0, .iface T1 u1]) := by
      show pv 7 xn [pv y0.k y0.n (pvs k0), pv y1.k y1.n (pvs k1)] = _
      rw [v0, v1]
      rfl
    have hw : wv g st 7 d 0 (F.cons y0 k0 (F.cons y1 k1 (.nil))) s = ((w1 g st d y0 k0 s).1.app ((w1 g st (d + 1) y1 k1 (w1 g st d y0 k0 s).2).1.app (.nil)), (w1 g st (d + 1) y1 k1 (w1 g st d y0 k0 s).2).2) := by simp [wv_step, wv_nil, binds]
    have hr : pvT (.cons ⟨7, xn⟩ ((w1 g st d y0 k0 s).1.app ((w1 g st (d + 1) y1 k1 (w1 g st d y0 k0 s).2).1.app (.nil))) .nil) = .iface 184 (.agg #[.iface R0 q0, .iface R1 q1]) := by
      show pv 7 xn (pvs ((w1 g st d y0 k0 s).1.app ((w1 g st (d + 1) y1 k1 (w1 g st d y0 k0 s).2).1.app (.nil)))) = _
      simp only [pvs_app, pvs_one f0, pvs_one f1, pvs]
      simp [pv, e0, e1]
    rw [hw]
    simp only
    rw [hr, hp]
    exact with_let fid cap cb ob s d (by omega) T0 u0 R0 q0 _ T1 u1 R1 q1 _ c0 c1 w hcb hinv
end
end Go.Proofs.Ytdajalchdbgooaa.W

/-
  A term cut from what is behind it: a contract of cutAhead. Conditions: at most 1048576 cells.
-/
namespace Go.Proofs.Ytdajalchdbgooaa.W
open Go.ChangeShapes Go.WideShapes Go.ChangeAt Go.RowKit
set_option linter.unusedVariables false

set_option maxRecDepth 20000 in
set_option maxHeartbeats 2000000 in
theorem cutAhead_any (b o c : Nat) (l : List Cc) (n : Nat) (w : World) (hl : l.length ≤ 1048576) (hc : l.length ≤ c) (hz : sz l 1 0 = some n) (hn : n ≤ l.length) (h : CRowAt w b o l) :
    Calls Try.prog 88 #[.slice (some ⟨b, o, none⟩) l.length c] w fun e w' => ∃ q, e = .returned (.tuple #[.slice (some ⟨b, o, none⟩) n c, .slice (some ⟨b, q, none⟩) (l.length - n) (c - n)]) ∧ (n < l.length → q = o + n * 2) ∧ Below w.heap.size w w' := by
  have HR : Hid (CRow w (some ⟨b, o, none⟩) l) := hide (.inr ⟨b, o, rfl, h⟩)
  have HZ := hide hz
  clear h hz
  go_enter Try.func88, Try.ntmps88
  go_wp2_with fail
  go_loopw [4, 5] (fun i m w' => ∃ (j M : Nat), j ≤ l.length ∧ M ≤ 2 * j + 1 ∧ i = .int .i64 j ∧ m = .int .i64 M ∧ sz (l.drop j) M j = some n ∧ w' = w) (fun i _ _ => l.length - (intOf i).toNat)
  case atStart => exact ⟨0, 1, by omega, by omega, rfl, rfl, HZ.out, rfl⟩
  case round =>
    obtain ⟨j, M, hj, hM, rfl, rfl, hs, rfl⟩ := hrel
    by_cases hM0 : M = 0
    · subst hM0
      rw [sz_0] at hs
      simp only [Option.some.injEq] at hs
      subst hs
      have h1 : (0 : Int) ≤ (j : Int) := by omega
      have h2 : (j : Int) ≤ (l.length : Int) := by omega
      have h3 : (l.length : Int) ≤ (c : Int) := by omega
      have h4 : (j : Int) ≤ (c : Int) := by omega
      clear hM HZ
      by_cases hcj : c = j
      · obtain rfl : c = l.length := by omega
        subst hcj
        go_wp2_with fail
        go_quiet (fail)
        go_wp2_with fail
        exact bodyPost_ret (v := .tuple #[.slice (some ⟨b, o, none⟩) l.length l.length, .slice (some ⟨b, o, none⟩) (l.length - l.length) (l.length - l.length)]) (by simp [results, Try.results88, go_sem]) rfl ⟨o, rfl, fun h => absurd h (Nat.lt_irrefl _), ⟨rfl, rfl, rfl, Nat.le_refl _, fun _ _ => rfl⟩⟩
      · go_wp2_with fail
        go_quiet (fail)
        go_wp2_with fail
        exact bodyPost_ret (v := .tuple #[.slice (some ⟨b, o, none⟩) j c, .slice (some ⟨b, o + j * 2, none⟩) (l.length - j) (c - j)]) (by simp [results, Try.results88, go_sem]) rfl ⟨_, rfl, fun _ => rfl, ⟨rfl, rfl, rfl, Nat.le_refl _, fun _ _ => rfl⟩⟩
    · have hMi : (0 : Int) < (M : Int) := by omega
      have hlt : j < l.length := by
        rcases Nat.lt_or_ge j l.length with h | h
        · exact h
        · rw [List.drop_eq_nil_of_le h, sz, if_neg hM0] at hs; cases hs
      have hlt' : (j : Int) < (l.length : Int) := by omega
      obtain ⟨b', o', he, hb, p0, p1⟩ := HR.out.tok (Below.refl _ _) hlt
      simp only [Option.some.injEq, Addr.mk.injEq] at he
      obtain ⟨rfl, rfl, -⟩ := he
      have hd : l.drop j = l[j] :: l.drop (j + 1) := List.drop_eq_getElem_cons hlt
      obtain ⟨x, hx⟩ : ∃ x, x = l[j] := ⟨_, rfl⟩
      rw [← hx] at p0 p1 hd
      rw [hd, sz, if_neg hM0] at hs
      have hg : goodC x = true := by
        cases hg : goodC x with
        | true => rfl
        | false => rw [hg] at hs; simp at hs
      rw [if_pos hg] at hs
      have HSz := hide hs
      clear hs hd hx hg
      go_wp2_with fail
      refine (termsBehind_any x.k _).mono ?_
      rintro e w2 ⟨rfl, rfl⟩
      have hle := ar_le x.k
      obtain ⟨R, hR⟩ : ∃ R, R = ar x.k := ⟨_, rfl⟩
      rw [← hR] at HSz hle ⊢
      clear hR p0 p1
      go_wp2_with fail
      refine ⟨⟨j + 1, M - 1 + R, by omega, by omega, by go_num, by go_num, HSz.out, by trivial⟩, by simp [intOf]; omega⟩
end Go.Proofs.Ytdajalchdbgooaa.W

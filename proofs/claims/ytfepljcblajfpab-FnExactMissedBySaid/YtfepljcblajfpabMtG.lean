/-
  Patterns told as cells by the specification: l8FlatPat. Conditions: good patterns, at most 90000 cells.
-/
import Derived.Test.YtfepljcblajfpabMtF
namespace Go.Proofs.Ytfepljcblajfpab.W
open Go.ChangeShapes Go.WideShapes Go.ChangeAt Go.RowKit
set_option linter.unusedVariables false
set_option linter.unusedSimpArgs false

def F.all (Q : F → Prop) : F → Prop
  | .nil => True
  | .cons _ k r => Q k ∧ r.all Q
theorem F.all_app {Q : F → Prop} : ∀ {a b : F}, (a.app b).all Q ↔ a.all Q ∧ b.all Q
  | .nil, b => by simp [F.app, F.all]
  | .cons x k r, b => by simp [F.app, F.all, F.all_app (a := r) (b := b), and_assoc]
theorem F.all_of {Q : F → Prop} (h : ∀ a : F, a.all Q → Q a) : ∀ a : F, a.all Q
  | .nil => trivial
  | .cons _ k r => ⟨h k (F.all_of h k), F.all_of h r⟩
theorem F.rec_kids {Q : F → Prop} (h : ∀ a : F, a.all Q → Q a) (a : F) : Q a := h a (F.all_of h a)
theorem F.all_at {Q : F → Prop} {a k r : F} {x : Pt} (h : (a.app (.cons x k r)).all Q) : Q k := (F.all_app.1 h).2.1
theorem F.app_snoc (a k r : F) (x : Pt) : a.app (.cons x k r) = (a.app (.cons x k .nil)).app r := by rw [F.app_assoc]; rfl
/-- The kid behind the first ones. -/
theorem GT.kid {w : World} {P : Nat → Prop} {a k r : F} {x : Pt} {s : Value} (h : GT w P (a.app (.cons x k r)) s) : ∃ g o c sx, s = .slice (some ⟨g, o, none⟩) (a.app (.cons x k r)).len c ∧ P g ∧ g < w.heap.size ∧ GT w P k sx ∧
    w.cell? ⟨g, o + a.len * 2, none⟩ = some (.int .i64 (tcon x)) ∧ w.cell? ⟨g, o + a.len * 2 + 1, none⟩ = some sx := by
  obtain ⟨ck, hk, ⟨e, e0⟩ | ⟨g, o, c, e, hP, hc⟩⟩ := h
  · rw [F.app_len] at e0; simp [F.len] at e0
  · obtain ⟨ca, cb, e2, ha, sx, cr, e3, h2, h3⟩ := hk.split
    have hl := ha.len
    have hP' : P g ∧ g < w.heap.size := by
      rcases hP with hP | hP
      · rw [F.app_len] at hP; simp [F.len] at hP
      · exact hP
    have h5 := hc (a.len * 2) (.int .i64 (tcon x)) (by rw [e2, e3, ← hl]; simp [tC])
    have h6 := hc (a.len * 2 + 1) sx (by rw [e2, e3, ← hl]; simp [tC])
    rw [← Nat.add_assoc] at h6
    exact ⟨g, o, c, sx, e, hP'.1, hP'.2, h2, h5, h6⟩
theorem run_appP (w : World) (ty : TypeId) (base : Nat) (v : Value) (n : Nat) (xs : List Value) (hown : w.ownsRow base 67 2 v n xs) (v2 : Value) (m : Nat) (news : List Value) (hs : Sc w v2 m 2 news) (hn : n + m ≤ 100000) (hbase : base ≤ w.heap.size) :
    ∃ v' w', (Builtin.append_ #[28, 28] ty #[v, v2]).run Try.prog w = .ok v' w' ∧ w'.ownsRow base 67 2 v' (n + m) (xs ++ news) ∧ w.grownBy w' v.ownBlock ∧ ∀ k, v'.ownBlock = some k → v.ownBlock = some k ∨ k = w.heap.size := by
  obtain ⟨i0, hi0, hz0, hz1, hz2⟩ := infoPartsT infoPt
  exact run_app w 28 ty base 67 i0 _ 2 16 Try.underlying28 hi0 hz0 hz1 hz2 rfl (by decide) v n xs hown v2 m news hs (by unfold maxLen; omega) (by omega) hbase
theorem wp_appP {w : World} {o : Oper} {a : Act} {K : Act → World → Prop} {Q : Exit → Act → World → Prop} (s x : Operand) (ho : o.op = .call { callee := .builtin .append, args := #[s, x], argTypes := #[28, 28] })
    (base : Nat) (v : Value) (n : Nat) (xs : List Value) (hv : a.eval s = v) (hown : w.ownsRow base 67 2 v n xs) (v2 : Value) (m : Nat) (news : List Value) (hx : a.eval x = v2) (hs : Sc w v2 m 2 news) (hn : n + m ≤ 100000) (hbase : base ≤ w.heap.size)
    (h : ∀ v' w', w'.ownsRow base 67 2 v' (n + m) (xs ++ news) → w.grownBy w' v.ownBlock → (∀ k, v'.ownBlock = some k → v.ownBlock = some k ∨ k = w.heap.size) → K (a.put o.dst v') w') : o.wp Try.prog a w K Q := by
  obtain ⟨v', w', hr, h2, h3, h4⟩ := run_appP w o.type base v n xs hown v2 m news hs hn hbase
  unfold Oper.wp execOp
  simp only [ho, resolve, invoke, builtin, Sem.run_bind, Sem.run_pure, Result.andThen_ok, List.map_toArray, List.map_cons, List.map_nil, hv, hx, hr]
  exact h v' w' h2 h3 h4
theorem wpList_appP {w : World} {ops : Array Oper} {rest : List Oper} {o : Oper} {a : Act} {Q : Exit → Act → World → Prop} (hg : o.guard = none) (s x : Operand) (ho : o.op = .call { callee := .builtin .append, args := #[s, x], argTypes := #[28, 28] })
    (base : Nat) (v : Value) (n : Nat) (xs : List Value) (hv : a.eval s = v) (hown : w.ownsRow base 67 2 v n xs) (v2 : Value) (m : Nat) (news : List Value) (hx : a.eval x = v2) (hs : Sc w v2 m 2 news) (hn : n + m ≤ 100000) (hbase : base ≤ w.heap.size)
    (h : ∀ v' w', w'.ownsRow base 67 2 v' (n + m) (xs ++ news) → w.grownBy w' v.ownBlock → (∀ k, v'.ownBlock = some k → v.ownBlock = some k ∨ k = w.heap.size) → wpList Try.prog ops Q rest (a.put o.dst v') w') : wpList Try.prog ops Q (o :: rest) a w :=
  wpList_plain hg fun _ hK => wp_appP s x ho base v n xs hv hown v2 m news hx hs hn hbase (fun v' w' h1 h2 h3 => hK _ _ (h v' w' h1 h2 h3))

def L8Goal (D : List Int) (k : F) : Prop := ∀ (x : Pt) (s v : Value) (base n : Nat) (xs : List Value) (w : World), (F.cons x k .nil).ok D → n + (k.flat.length + 1) ≤ 90000 → base ≤ w.heap.size → GT w (fun g => g < base) k s → w.ownsRow base 67 2 v n xs →
    Calls Try.prog 28 #[.agg #[.int .i64 (tcon x), s], v] w fun e w' => ∃ v', e = .returned v' ∧ w'.ownsRow base 67 2 v' (n + (k.flat.length + 1)) (xs ++ rcells 2 Pt.c (x :: k.flat)) ∧ Below base w w'
theorem len_flat8 : ∀ a : F, a.len ≤ a.flat.length
  | .nil => Nat.le_refl _
  | .cons x k r => by have := len_flat8 r; simp [F.len, F.flat]; omega
theorem pt_cells (x : Pt) : rcells 2 Pt.c [x] = [.int .i64 x.kd, .int .i64 x.con] := rfl

set_option maxRecDepth 20000 in
set_option maxHeartbeats 4000000 in
theorem l8Flat_any (D : List Int) : ∀ k, L8Goal D k := by
  apply F.rec_kids
  intro k ih x s v base n xs w hok hn hb hT hown
  obtain ⟨hg, hkl, hko, -⟩ := hok
  have IH := hide ih
  have HT := hide hT
  have HKo := hide hko
  obtain ⟨sad, sc, rfl⟩ := hT.form
  have HOl := hide (fun k hk => hown.lt k hk)
  obtain ⟨ad, c, rfl⟩ := own_form hown
  have hlf := len_flat8 k
  have HO := hide hown
  clear ih hT hown hko
  obtain ⟨KL, hKL⟩ : ∃ KL, KL = k.len := ⟨_, rfl⟩
  rw [← hKL] at HT hkl hlf ⊢
  have HKL := hide hKL
  clear hKL
  obtain ⟨xk, xc⟩ := x
  rcases good_kd hg with ⟨h1, h2⟩ | ⟨h1, h2, h3⟩
  · simp only at h1 h2
    subst h1 h2
    have hk0 : k = .nil := F.len_0 (by rw [← HKL.out, hkl]; simp [ar])
    subst hk0
    rw [show tcon ⟨1, 0⟩ = -1 from rfl]
    obtain ⟨W2, hW2⟩ : ∃ W2, W2 = (w.alloc (.cells #[.int .i64 (-1), .slice sad KL sc] 56)).alloc (.cells #[.int .i64 1, .int .i64 0] 67) := ⟨_, rfl⟩
    have s2 : W2.heap.size = w.heap.size + 1 + 1 := by rw [hW2]; simp
    have hb2 : Below w.heap.size w W2 := by rw [hW2]; exact ((Below.refl _ _).alloc (Nat.le_refl _) _).alloc (by simp) _
    have HO2 := hide (own_keep HO.out (fun k _ hk => hb2.block k hk))
    have HSc : Hid (Sc W2 (.slice (some ⟨w.heap.size + 1, 0, none⟩) 1 1) 1 2 [.int .i64 1, .int .i64 0]) := hide (by
      have := sc_block (w := W2) (g := w.heap.size + 1) (m := 1) (size := 2) (cs := #[.int .i64 1, .int .i64 0]) (by rw [hW2, show w.heap.size + 1 = (w.alloc (.cells #[.int .i64 (-1), .slice sad KL sc] 56)).heap.size by simp]; exact heap_alloc_new _ _) rfl (by simp [Value.oneCell']) 1
      exact this)
    have HW2 := hide hW2
    have S2 := hide s2
    have HB2 := hide (hb2.mono hb)
    clear hW2 s2 hb2 hkl IH HT HKo hg HO hlf
    simp only [F.flat, List.length_nil, Nat.zero_add] at hn ⊢
    go_enter Try.func28, Try.ntmps28
    go_wp2_with (at_builtin; rw [← HW2.out]; refine wpList_appP rfl _ _ rfl base _ n xs rfl HO2.out _ 1 _ rfl HSc.out ?c1 ?c2 ?_)
    case c1 => omega
    case c2 => have := S2.out; omega
    intro v' w4 hown4 hgrow hap
    have hb4 : Below base w w4 := HB2.out.grown hgrow (by have := S2.out; omega) (fun k hk => (HOl.out k hk).1)
    have HO4 : Hid (w4.ownsRow base 67 2 v' (n + 1) (xs ++ rcells 2 Pt.c [⟨1, 0⟩])) := hide (by rw [pt_cells]; exact hown4)
    obtain ⟨a4, c4, rfl⟩ := own_form hown4
    clear hown4 hgrow hap
    go_wp2_with fail
    go_ret
    exact ⟨_, rfl, HO4.out, hb4⟩
  · simp only at h1 h2 h3
    subst h1
    have ht : tcon ⟨2, xc⟩ = xc := by simp [tcon]
    rw [ht]
    have hn1 : ¬ xc = -1 := by omega
    have hnb : (xc == -1) = false := beq_false_of_ne (by omega)
    obtain ⟨W1, hW1⟩ : ∃ W1, W1 = w.alloc (.cells #[.int .i64 xc, .slice sad KL sc] 56) := ⟨_, rfl⟩
    obtain ⟨W2, hW2⟩ : ∃ W2, W2 = W1.alloc (.cells #[.int .i64 2, .int .i64 xc] 67) := ⟨_, rfl⟩
    have s1 : W1.heap.size = w.heap.size + 1 := by rw [hW1]; simp
    have s2 : W2.heap.size = w.heap.size + 1 + 1 := by rw [hW2]; simp [s1]
    have hb1 : Below w.heap.size w W1 := by rw [hW1]; exact (Below.refl _ _).alloc (Nat.le_refl _) _
    have hb2 : Below w.heap.size w W2 := by rw [hW2]; exact hb1.alloc (by omega) _
    have hx2 : Bx W2 w.heap.size #[.int .i64 xc, .slice sad KL sc] 56 := by
      rw [hW2]
      refine Bx.alloc ?_ _
      rw [hW1]
      exact Bx.new _ _ _
    have HO2 := hide (own_keep HO.out (fun k _ hk => hb2.block k hk))
    have HSc : Hid (Sc W2 (.slice (some ⟨w.heap.size + 1, 0, none⟩) 1 1) 1 2 [.int .i64 2, .int .i64 xc]) := hide (by
      have := sc_block (w := W2) (g := w.heap.size + 1) (m := 1) (size := 2) (cs := #[.int .i64 2, .int .i64 xc]) (by rw [hW2, ← s1]; exact heap_alloc_new _ _) rfl (by simp [Value.oneCell']) 1
      exact this)
    have HW1 := hide hW1
    have HW2 := hide hW2
    have S2 := hide s2
    have HB2 := hide (hb2.mono hb)
    have HX2 := hide hx2
    clear hW1 hW2 s1 s2 hb1 hb2 hx2 hkl hg HO ht
    go_enter Try.func28, Try.ntmps28
    go_wp2_with (at_builtin; rw [← HW1.out, ← HW2.out]; refine wpList_appP rfl _ _ rfl base _ n xs rfl HO2.out _ 1 _ rfl HSc.out ?c1 ?c2 ?_)
    case c1 => omega
    case c2 => have := S2.out; omega
    intro v1 w1 hown1 hgrow hap
    have hB1 : Below base w w1 := HB2.out.grown hgrow (by have := S2.out; omega) (fun k hk => (HOl.out k hk).1)
    have HO1 : Hid (w1.ownsRow base 67 2 v1 (n + 1) (xs ++ rcells 2 Pt.c [⟨2, xc⟩])) := hide (by rw [pt_cells]; exact hown1)
    have hx1 : Bx w1 w.heap.size #[.int .i64 xc, .slice sad KL sc] 56 := (hgrow.block w.heap.size (by have := S2.out; omega) (fun e => by have := (HOl.out _ e.symm).2; omega)).trans HX2.out
    have cx := hx1.c
    obtain ⟨a1, c1, rfl⟩ := own_form hown1
    have HB1 := hide hB1
    clear hown1 hgrow hap HX2 HSc HO2 HW1 HW2 S2 HB2 hB1 hx1
    go_wp2_with fail
    clear cx
    go_loopw [1, 23] (fun v1 i w' => ∃ a b : F, k = a.app b ∧ i = .int .i64 (a.len : Int) ∧ w'.ownsRow base 67 2 v1 (n + (a.flat.length + 1)) (xs ++ rcells 2 Pt.c (⟨2, xc⟩ :: a.flat)) ∧ Below base w w') (fun _ i _ => KL - (intOf i).toNat)
    case atStart => exact ⟨.nil, k, rfl, rfl, HO1.out, HB1.out⟩
    case round =>
      clear HO1 HB1
      obtain ⟨a, b, hk, rfl, hown, hB⟩ := hrel
      obtain ⟨rad, rc, hform⟩ := own_form hown
      subst hform
      have HOr := hide hown
      clear hown
      cases b with
      | nil =>
        rw [F.app_nil] at hk
        subst hk
        have hKL := HKL.out
        rw [← hKL]
        clear hKL
        go_wp2_with fail
        go_ret
        exact ⟨_, rfl, HOr.out, hB⟩
      | cons y ky b =>
        have hkl2 : KL = a.len + (b.len + 1) := by rw [HKL.out, hk, F.app_len]; rfl
        have hlt' : (a.len : Int) < (KL : Int) := by omega
        have hfk : k.flat.length = a.flat.length + (1 + ky.flat.length + b.flat.length) := by rw [hk, F.app_flat]; simp [F.flat]; omega
        have hI := IH.out
        rw [hk] at hI
        have hko := HKo.out
        rw [hk, F.app_ok] at hko
        obtain ⟨g, o, cap, sy, he, hPg, hgl, hTy, p0, p1⟩ := GT.kid (a := a) (k := ky) (r := b) (x := y) (s := .slice sad KL sc) (by rw [← hk]; exact HT.out)
        simp only [Value.slice.injEq] at he
        obtain ⟨rfl, -, rfl⟩ := he
        have q0 := (hB.cell (p := ⟨g, o + a.len * 2, none⟩) hPg).trans p0
        have q1 := (hB.cell (p := ⟨g, o + a.len * 2 + 1, none⟩) hPg).trans p1
        have hszr := hB.size
        obtain ⟨W1, hW1⟩ : ∃ W1, W1 = wr.alloc (.cells #[.int .i64 (tcon y), sy] 56) := ⟨_, rfl⟩
        have hb1 : Below wr.heap.size wr W1 := by rw [hW1]; exact (Below.refl _ _).alloc (Nat.le_refl _) _
        have hbb : base ≤ wr.heap.size := by omega
        have hB1 : Below base w W1 := hB.trans (hb1.mono hbb)
        have hTr : GT W1 (fun g => g < base) ky sy := hTy.keep hB1.size (fun g h1 h2 => ⟨hB1.block g h1, h1⟩)
        have HC := hide (F.all_at hI y sy (.slice rad (n + (a.flat.length + 1)) rc) base (n + (a.flat.length + 1)) (xs ++ rcells 2 Pt.c (⟨2, xc⟩ :: a.flat)) W1 ⟨hko.2.1, hko.2.2.1, hko.2.2.2.1, trivial⟩ (by omega) (Nat.le_trans hbb hb1.size) hTr (own_keep HOr.out (fun k _ hk => hb1.block k hk)))
        obtain ⟨yad, yc, rfl⟩ := hTy.form
        have HSn := hide (hk.trans (F.app_snoc a ky b y))
        have HDl : Hid ((a.app (.cons y ky .nil)).len = a.len + 1) := hide (by rw [F.app_len]; rfl)
        have HDf : Hid ((a.app (.cons y ky .nil)).flat = a.flat ++ (y :: ky.flat)) := hide (by rw [F.app_flat]; simp [F.flat])
        have HKl2 := hide hkl2
        have HB1 := hide hB1
        have HW1 := hide hW1
        clear p0 p1 hTy hTr hI hk hkl2 hfk hko hW1 hb1 hB1
        obtain ⟨al, hal⟩ : ∃ al, al = a.len := ⟨_, rfl⟩
        obtain ⟨kn, hkn⟩ : ∃ kn, kn = ky.len := ⟨_, rfl⟩
        obtain ⟨NN, hNN⟩ : ∃ NN, NN = n + (a.flat.length + 1) := ⟨_, rfl⟩
        obtain ⟨YT, hYT⟩ : ∃ YT, YT = tcon y := ⟨_, rfl⟩
        rw [← hal] at hlt' q0 q1 HDl HKl2 ⊢
        rw [← hkn] at HC q1 HW1
        rw [← hNN] at HC HOr ⊢
        rw [← hYT] at HC q0 HW1
        have HNN := hide hNN
        clear hal hkn hNN hYT
        go_wp2_with fail
        rw [← HW1.out]
        refine Calls.mono HC.out ?_
        rintro e w2 ⟨v2, rfl, ho2, hb2⟩
        obtain ⟨ad2, c2, rfl⟩ := own_form ho2
        have HO2 := hide ho2
        have HB2 := hide (HB1.out.trans hb2)
        clear ho2 hb2 HC q0 q1 HW1
        go_wp2_with fail
        have hkl2 := HKl2.out
        refine ⟨⟨a.app (.cons y ky .nil), b, HSn.out, by rw [HDl.out]; go_num, ?_, HB2.out⟩, by simp [intOf]; omega⟩
        have h3 := HO2.out
        rw [HDf.out]
        have e1 : n + ((a.flat ++ (y :: ky.flat)).length + 1) = NN + (ky.flat.length + 1) := by rw [HNN.out]; simp; omega
        have e2 : xs ++ rcells 2 Pt.c (⟨2, xc⟩ :: (a.flat ++ (y :: ky.flat))) = xs ++ rcells 2 Pt.c (⟨2, xc⟩ :: a.flat) ++ rcells 2 Pt.c (y :: ky.flat) := by rw [← List.cons_append, rcells_app, List.append_assoc]
        rw [e1, e2]
        exact h3
end Go.Proofs.Ytfepljcblajfpab.W

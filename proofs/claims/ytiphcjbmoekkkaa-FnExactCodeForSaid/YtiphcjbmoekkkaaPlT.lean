/-
  The specification's trees of chapter 13 in memory, said of trees of two kinds; l13Norm, l13Do, l13Value, l13Places, and the specification's ValueOf, PlacesFor. Conditions: at most 1048576 cells.
-/
import Derived.Test.YtiphcjbmoekkkaaPlS
import Derived.Test.YtiphcjbmoekkkaaPlB
namespace Go.Proofs.Ytiphcjbmoekkkaa.L
open Go.Proofs.Ytiphcjbmoekkkaa.W
open Go.ChangeShapes Go.WideShapes Go.ChangeAt Go.RowKit
set_option linter.unusedVariables false

/-- A tree that begins at a place, as the specification's value. -/
def TV (w : World) (P : Nat → Prop) : Tr → Nat → Value → Prop
  | .ld n, p, v => v = .agg #[.int .i64 1, .int .i64 n, .int .i64 (p : Int), .slice none 0 0]
  | .op o a b, p, v => ∃ (g cap : Nat) (aad : Option Addr) (al ac : Nat) (bad : Option Addr) (bl bc : Nat), v = .agg #[.int .i64 o, .int .i64 0, .int .i64 (p : Int), .slice (some ⟨g, 0, none⟩) 2 cap] ∧ P g ∧ g < w.heap.size ∧
      w.cell? ⟨g, 0, none⟩ = some (.int .i64 a.x.k) ∧ w.cell? ⟨g, 1, none⟩ = some (.int .i64 a.x.n) ∧ w.cell? ⟨g, 2, none⟩ = some (.int .i64 ((p + 1 : Nat) : Int)) ∧ w.cell? ⟨g, 3, none⟩ = some (.slice aad al ac) ∧
      w.cell? ⟨g, 4, none⟩ = some (.int .i64 b.x.k) ∧ w.cell? ⟨g, 5, none⟩ = some (.int .i64 b.x.n) ∧ w.cell? ⟨g, 6, none⟩ = some (.int .i64 ((p + 1 + a.flat.length : Nat) : Int)) ∧ w.cell? ⟨g, 7, none⟩ = some (.slice bad bl bc) ∧
      TV w P a (p + 1) (.agg #[.int .i64 a.x.k, .int .i64 a.x.n, .int .i64 ((p + 1 : Nat) : Int), .slice aad al ac]) ∧ TV w P b (p + 1 + a.flat.length) (.agg #[.int .i64 b.x.k, .int .i64 b.x.n, .int .i64 ((p + 1 + a.flat.length : Nat) : Int), .slice bad bl bc])
theorem TV.keep {w w' : World} {P P' : Nat → Prop} (hs : w.heap.size ≤ w'.heap.size) (hk : ∀ k, P k → k < w.heap.size → w'.heap[k]? = w.heap[k]? ∧ P' k) : ∀ {t : Tr} {p : Nat} {v : Value}, TV w P t p v → TV w' P' t p v
  | .ld n, p, v, h => h
  | .op o a b, p, v, ⟨g, cap, aad, al, ac, bad, bl, bc, e, hP, hg, c0, c1, c2, c3, c4, c5, c6, c7, h1, h2⟩ => by
    obtain ⟨e1, e2⟩ := hk g hP hg
    have hc : ∀ o, w'.cell? ⟨g, o, none⟩ = w.cell? ⟨g, o, none⟩ := fun o => World.cell?_of_block (w := w) e1
    exact ⟨g, cap, aad, al, ac, bad, bl, bc, e, e2, Nat.lt_of_lt_of_le hg hs, (hc 0).trans c0, (hc 1).trans c1, (hc 2).trans c2, (hc 3).trans c3, (hc 4).trans c4, (hc 5).trans c5, (hc 6).trans c6, (hc 7).trans c7, TV.keep hs hk h1, TV.keep hs hk h2⟩
theorem TV.below {w w' : World} {P : Nat → Prop} {t : Tr} {p : Nat} {v : Value} (h : TV w P t p v) (hb : Below w.heap.size w w') : TV w' P t p v := h.keep hb.size (fun k hp hk => ⟨hb.block k hk, hp⟩)
theorem TV.weak {w : World} {P P' : Nat → Prop} {t : Tr} {p : Nat} {v : Value} (h : TV w P t p v) (hp : ∀ k, P k → k < w.heap.size → P' k) : TV w P' t p v := h.keep (Nat.le_refl _) (fun k h1 h2 => ⟨rfl, hp k h1 h2⟩)
theorem TV.grown {w w' : World} {P : Nat → Prop} {t : Tr} {p : Nat} {v : Value} {row : Option Nat} (h : TV w P t p v) (hg : w.grownBy w' row) (hn : ∀ k, P k → row ≠ some k) : TV w' P t p v := h.keep hg.size (fun k hp hk => ⟨hg.block k hk (fun e => hn k hp e.symm), hp⟩)
theorem TV.form {w : World} {P : Nat → Prop} {t : Tr} {p : Nat} {v : Value} (h : TV w P t p v) : ∃ (ad : Option Addr) (l c : Nat), v = .agg #[.int .i64 t.x.k, .int .i64 t.x.n, .int .i64 (p : Int), .slice ad l c] := by
  cases t with
  | ld n => exact ⟨_, _, _, h⟩
  | op o a b => obtain ⟨g, cap, aad, al, ac, bad, bl, bc, e, -⟩ := h; exact ⟨_, _, _, e⟩
theorem KidT.tv {w : World} {P : Nat → Prop} : ∀ {t : Tr} {p : Nat} {s : Value}, KidT w P t.k (p + 1) s → TV w P t p (.agg #[.int .i64 t.x.k, .int .i64 t.x.n, .int .i64 (p : Int), s])
  | .ld n, p, s, ⟨ck, _, .inl ⟨_, e⟩⟩ => by rw [e]; rfl
  | .ld n, p, s, ⟨ck, _, .inr ⟨h, _⟩⟩ => by simp [Tr.k, F.len] at h
  | .op o a b, p, s, h => by
    obtain ⟨g, cap, sx, e, hP, hg, hk, c0, c1, c2, c3⟩ := KidT.kid (a := .nil) (k := a.k) (r := .cons b.x b.k .nil) (x := a.x) h
    obtain ⟨g', cap', sy, e', hP', hg', hk', c4, c5, c6, c7⟩ := KidT.kid (a := .cons a.x a.k .nil) (k := b.k) (r := .nil) (x := b.x) h
    have he := e.symm.trans e'
    simp only [Value.slice.injEq, Option.some.injEq, Addr.mk.injEq, and_true] at he
    obtain ⟨rfl, -, rfl⟩ := he
    have hl : (F.cons a.x a.k .nil).flat.length = a.flat.length := by simp [F.flat, ← a.k_len]
    rw [hl] at hk' c6
    simp only [F.len, F.flat, List.length_nil, Nat.add_zero, Nat.zero_mul, Nat.zero_add, Nat.one_mul] at c0 c1 c2 c3 c4 c5 c6 c7 hk
    obtain ⟨aad, ac, rfl⟩ := hk.form
    obtain ⟨bad, bc, rfl⟩ := hk'.form
    exact ⟨g, cap, aad, _, ac, bad, _, bc, by rw [e]; rfl, hP, hg, c0, c1, c2, c3, c4, c5, c6, c7, KidT.tv hk, KidT.tv hk'⟩

/-- What l13Tree tells, said of trees. -/
theorem l13Tree_tr (ad : Option Addr) (c : Nat) (l : List Cc) (w : World) (hl : l.length ≤ 1048576) (h : CRow w ad l) (t : Tr) (ht : treeT l = some (.cons t.x t.k .nil)) :
    Calls Try.prog 33 #[.slice ad l.length c] w fun e w' => Below w.heap.size w w' ∧ ∃ v, e = .returned (.tuple #[v, .bool true]) ∧ TV w' (fun g => w.heap.size ≤ g) t 0 v := by
  refine (l13Tree_any ad c l w hl h).mono ?_
  rintro e w' ⟨hb, ho⟩
  rw [ht] at ho
  obtain ⟨x, k, s, he, rfl, hk⟩ := ho
  simp only [F.cons.injEq, and_true] at he
  obtain ⟨rfl, rfl⟩ := he
  exact ⟨hb, _, rfl, KidT.tv (p := 0) hk⟩
theorem l13Tree_bad (ad : Option Addr) (c : Nat) (l : List Cc) (w : World) (hl : l.length ≤ 1048576) (h : CRow w ad l) (ht : goodT l = false) :
    Calls Try.prog 33 #[.slice ad l.length c] w fun e w' => Below w.heap.size w w' ∧ ∃ (k n p : Int) (sad : Option Addr) (sn sc : Nat), e = .returned (.tuple #[.agg #[.int .i64 k, .int .i64 n, .int .i64 p, .slice sad sn sc], .bool false]) := by
  refine (l13Tree_any ad c l w hl h).mono ?_
  rintro e w' ⟨hb, ho⟩
  rw [none_of_bad ht] at ho
  exact ⟨hb, ho⟩

set_option maxHeartbeats 1000000 in
theorem l13Norm_any (n : Int) (w : World) : Calls Try.prog 48 #[.int .i64 n] w fun e w' => e = .returned (.int .i64 (nrm n)) ∧ w' = w := by
  have h1 := Int.lt_tmod_of_pos n (show (0 : Int) < 1000003 by decide)
  have h2 := Int.tmod_lt_of_pos n (show (0 : Int) < 1000003 by decide)
  have h3 : IntKind.i64.wrap (n.tmod 1000003 + 1000003) = n.tmod 1000003 + 1000003 := IntWalk.i64_in _ ⟨by omega, by omega⟩
  go_enter Try.func48, Try.ntmps48
  go_wp2_with fail
  go_ret
  exact ⟨ret_int (by unfold nrm; rw [Int.tmod_eq_emod_of_nonneg (show 0 ≤ n.tmod 1000003 + 1000003 by omega)]), rfl⟩

set_option maxHeartbeats 1000000 in
theorem modulo_any (n : Int) (w : World) : Calls Try.prog 52 #[.int .i64 n] w fun e w' => e = .returned (.int .i64 (nrm n)) ∧ w' = w := by
  have h1 := Int.lt_tmod_of_pos n (show (0 : Int) < 1000003 by decide)
  have h2 := Int.tmod_lt_of_pos n (show (0 : Int) < 1000003 by decide)
  have h3 : IntKind.i64.wrap (n.tmod 1000003 + 1000003) = n.tmod 1000003 + 1000003 := IntWalk.i64_in _ ⟨by omega, by omega⟩
  go_enter Try.func52, Try.ntmps52
  go_wp2_with fail
  go_ret
  exact ⟨ret_int (by unfold nrm; rw [Int.tmod_eq_emod_of_nonneg (show 0 ≤ n.tmod 1000003 + 1000003 by omega)]), rfl⟩

set_option maxHeartbeats 1000000 in
theorem l13Do_any (o a b : Int) (w : World) (ha : 0 ≤ a ∧ a < 1000003) (hb : 0 ≤ b ∧ b < 1000003) : Calls Try.prog 49 #[.int .i64 o, .int .i64 a, .int .i64 b] w fun e w' => e = .returned (.int .i64 (doV o a b)) ∧ w' = w := by
  obtain ⟨ha0, ha1⟩ := ha
  obtain ⟨hb0, hb1⟩ := hb
  have hm0 : 0 ≤ a * b := Int.mul_nonneg ha0 hb0
  have hm1 : a * b ≤ 1000003 * 1000003 := Int.mul_le_mul (by omega) (by omega) hb0 (by decide)
  have h3 : IntKind.i64.wrap (a * b) = a * b := IntWalk.i64_in _ ⟨by omega, by omega⟩
  have h4 : IntKind.i64.wrap (a + b) = a + b := IntWalk.i64_in _ ⟨by omega, by omega⟩
  have h5 : IntKind.i64.wrap (a - b) = a - b := IntWalk.i64_in _ ⟨by omega, by omega⟩
  by_cases o2 : o = 2
  · subst o2
    go_enter Try.func49, Try.ntmps49
    go_wp2_with fail
    refine (l13Norm_any _ _).mono ?_
    rintro e w' ⟨rfl, rfl⟩
    go_wp2_with fail
    go_ret
    exact ⟨rfl, rfl⟩
  · by_cases o3 : o = 3
    · subst o3
      go_enter Try.func49, Try.ntmps49
      go_wp2_with fail
      refine (l13Norm_any _ _).mono ?_
      rintro e w' ⟨rfl, rfl⟩
      go_wp2_with fail
      go_ret
      exact ⟨rfl, rfl⟩
    · go_enter Try.func49, Try.ntmps49
      go_wp2_with fail
      refine (l13Norm_any _ _).mono ?_
      rintro e w' ⟨rfl, rfl⟩
      go_wp2_with fail
      go_ret
      exact ⟨ret_int (by rw [doV, if_neg o2, if_neg o3]), rfl⟩

set_option maxHeartbeats 1000000 in
theorem comesTo_any (o a b : Int) (w : World) (ha : 0 ≤ a ∧ a < 1000003) (hb : 0 ≤ b ∧ b < 1000003) : Calls Try.prog 53 #[.int .i64 o, .int .i64 a, .int .i64 b] w fun e w' => e = .returned (.int .i64 (doV o a b)) ∧ w' = w := by
  obtain ⟨ha0, ha1⟩ := ha
  obtain ⟨hb0, hb1⟩ := hb
  have hm0 : 0 ≤ a * b := Int.mul_nonneg ha0 hb0
  have hm1 : a * b ≤ 1000003 * 1000003 := Int.mul_le_mul (by omega) (by omega) hb0 (by decide)
  have h3 : IntKind.i64.wrap (a * b) = a * b := IntWalk.i64_in _ ⟨by omega, by omega⟩
  have h4 : IntKind.i64.wrap (a + b) = a + b := IntWalk.i64_in _ ⟨by omega, by omega⟩
  have h5 : IntKind.i64.wrap (a - b) = a - b := IntWalk.i64_in _ ⟨by omega, by omega⟩
  by_cases o2 : o = 2
  · subst o2
    go_enter Try.func53, Try.ntmps53
    go_wp2_with fail
    refine (modulo_any _ _).mono ?_
    rintro e w' ⟨rfl, rfl⟩
    go_wp2_with fail
    go_ret
    exact ⟨rfl, rfl⟩
  · by_cases o3 : o = 3
    · subst o3
      go_enter Try.func53, Try.ntmps53
      go_wp2_with fail
      refine (modulo_any _ _).mono ?_
      rintro e w' ⟨rfl, rfl⟩
      go_wp2_with fail
      go_ret
      exact ⟨rfl, rfl⟩
    · go_enter Try.func53, Try.ntmps53
      go_wp2_with fail
      refine (modulo_any _ _).mono ?_
      rintro e w' ⟨rfl, rfl⟩
      go_wp2_with fail
      go_ret
      exact ⟨ret_int (by rw [doV, if_neg o2, if_neg o3]), rfl⟩

/-- A tree of two in memory, opened: what a walk wants of it in every world that grows. -/
theorem TV.two {w : World} {P : Nat → Prop} {o : Int} {a b : Tr} {p : Nat} {u : Value} (h : TV w P (.op o a b) p u) :
    ∃ (g cap : Nat) (aad : Option Addr) (al ac : Nat) (bad : Option Addr) (bl bc : Nat) (pa pb : Int), u = .agg #[.int .i64 o, .int .i64 0, .int .i64 (p : Int), .slice (some ⟨g, 0, none⟩) 2 cap] ∧ P g ∧ g < w.heap.size ∧
      (∀ w', Below w.heap.size w w' → w'.cell? ⟨g, 0, none⟩ = some (.int .i64 a.x.k) ∧ w'.cell? ⟨g, 1, none⟩ = some (.int .i64 a.x.n) ∧ w'.cell? ⟨g, 2, none⟩ = some (.int .i64 pa) ∧ w'.cell? ⟨g, 3, none⟩ = some (.slice aad al ac) ∧
        w'.cell? ⟨g, 4, none⟩ = some (.int .i64 b.x.k) ∧ w'.cell? ⟨g, 5, none⟩ = some (.int .i64 b.x.n) ∧ w'.cell? ⟨g, 6, none⟩ = some (.int .i64 pb) ∧ w'.cell? ⟨g, 7, none⟩ = some (.slice bad bl bc)) ∧
      (∀ w', Below w.heap.size w w' → TV w' P a (p + 1) (.agg #[.int .i64 a.x.k, .int .i64 a.x.n, .int .i64 pa, .slice aad al ac])) ∧ (∀ w', Below w.heap.size w w' → TV w' P b (p + 1 + a.flat.length) (.agg #[.int .i64 b.x.k, .int .i64 b.x.n, .int .i64 pb, .slice bad bl bc])) := by
  obtain ⟨g, cap, aad, al, ac, bad, bl, bc, e, hP, hg, c0, c1, c2, c3, c4, c5, c6, c7, h1, h2⟩ := h
  exact ⟨g, cap, aad, al, ac, bad, bl, bc, _, _, e, hP, hg, fun w' hb => ⟨(hb.cell (p := ⟨g, 0, none⟩) hg).trans c0, (hb.cell (p := ⟨g, 1, none⟩) hg).trans c1, (hb.cell (p := ⟨g, 2, none⟩) hg).trans c2, (hb.cell (p := ⟨g, 3, none⟩) hg).trans c3, (hb.cell (p := ⟨g, 4, none⟩) hg).trans c4, (hb.cell (p := ⟨g, 5, none⟩) hg).trans c5, (hb.cell (p := ⟨g, 6, none⟩) hg).trans c6, (hb.cell (p := ⟨g, 7, none⟩) hg).trans c7⟩, fun w' hb => h1.below hb, fun w' hb => h2.below hb⟩

set_option maxRecDepth 20000 in
set_option maxHeartbeats 2000000 in
theorem l13Places_any : ∀ (t : Tr) (p : Nat) (u : Value) (P : Nat → Prop) (w : World), t.ok → t.flat.length ≤ 1048576 → TV w P t p u → Calls Try.prog 38 #[u] w fun e w' => e = .returned (.int .i64 (t.plc : Int)) ∧ Below w.heap.size w w' := by
  intro t
  induction t with
  | ld n =>
    intro p u P w hok hl hT
    obtain rfl : u = .agg #[.int .i64 1, .int .i64 n, .int .i64 (p : Int), .slice none 0 0] := hT
    go_enter Try.func38, Try.ntmps38
    go_wp2_with fail
    go_ret
    exact ⟨rfl, (Below.refl _ _).alloc (Nat.le_refl _) _⟩
  | op o a b iha ihb =>
    intro p u P w hok hl hT
    obtain ⟨g, cap, aad, al, ac, bad, bl, bc, pa, pb, rfl, hP, hg, hc, h1, h2⟩ := hT.two
    have hll : a.flat.length + b.flat.length + 1 ≤ 1048576 := by simpa [Tr.flat] using hl
    have ho1 := op_ne hok.1
    have hpa := a.plc_le
    have hpb := b.plc_le
    have HC := hide hc
    have HIa := hide (fun w' hb => iha _ _ P w' hok.2.1 (by omega) (h1 w' hb))
    have HIb := hide (fun w' hb => ihb _ _ P w' hok.2.2 (by omega) (h2 w' hb))
    have HE : Hid ((Tr.op o a b).plc = plN a.plc b.plc) := hide rfl
    obtain ⟨PA, hPA⟩ : ∃ PA, PA = a.plc := ⟨_, rfl⟩
    obtain ⟨PB, hPB⟩ : ∃ PB, PB = b.plc := ⟨_, rfl⟩
    rw [← hPA, ← hPB] at HE
    rw [← hPA] at HIa hpa
    rw [← hPB] at HIb hpb
    rw [HE.out]
    obtain ⟨W0, hW0⟩ : ∃ W0, W0 = w.alloc (.cells #[.int .i64 o, .int .i64 0, .int .i64 (p : Int), .slice (some ⟨g, 0, none⟩) 2 cap] 51) := ⟨_, rfl⟩
    have hB0 : Below w.heap.size w W0 := by rw [hW0]; exact (Below.refl _ _).alloc (Nat.le_refl _) _
    have hs0 : W0.heap.size = w.heap.size + 1 := by rw [hW0]; simp
    have hbx : W0.heap[w.heap.size]? = some (.cells #[.int .i64 o, .int .i64 0, .int .i64 (p : Int), .slice (some ⟨g, 0, none⟩) 2 cap] 51 (0, 0)) := by rw [hW0]; exact heap_alloc_new w _
    have HW0 := hide hW0
    have HBx : Hid (∀ w', Below W0.heap.size W0 w' → w'.cell? ⟨w.heap.size, 3, none⟩ = some (.slice (some ⟨g, 0, none⟩) 2 cap)) := hide (fun w' hb => (cell_of_blk ((hb.block w.heap.size (by omega)).trans hbx) 3).trans rfl)
    have hB1 : PA ≤ 1048576 ∧ PB ≤ 1048576 := by omega
    clear hT hP hok hll hl hpa hpb hPA hPB h1 h2 hc iha ihb hW0 hbx HE
    go_enter Try.func38, Try.ntmps38
    obtain ⟨q0, q1, q2, q3, -, -, -, -⟩ := HC.out _ hB0
    rw [HW0.out] at q0 q1 q2 q3
    go_wp2_with fail
    rw [← HW0.out]
    clear q0 q1 q2 q3 HW0
    refine (HIa.out _ hB0).mono ?_
    rintro e W1 ⟨rfl, hb1⟩
    have hB1' : Below w.heap.size w W1 := hB0.trans (hb1.mono hB0.size)
    have x3 := HBx.out W1 hb1
    obtain ⟨-, -, -, -, q4, q5, q6, q7⟩ := HC.out _ hB1'
    clear hb1
    go_wp2_with fail
    refine (HIb.out _ hB1').mono ?_
    rintro e W2 ⟨rfl, hb2⟩
    have hB2 : Below w.heap.size w W2 := hB1'.trans (hb2.mono hB1'.size)
    clear hb2 x3 q4 q5 q6 q7 HC HIa HIb HBx hB0 hs0
    by_cases hab : PA = PB
    · subst hab
      go_wp2_with fail
      go_ret
      exact ⟨ret_int (by simp [plN]), hB2⟩
    · have hab' : ¬ (PA : Int) = (PB : Int) := by omega
      by_cases hlt : PB < PA
      · have hlt' : (PB : Int) < (PA : Int) := by omega
        go_wp2_with fail
        go_ret
        exact ⟨ret_int (by rw [plN, if_neg hab, if_neg (by omega)]), hB2⟩
      · have hlt' : ¬ (PB : Int) < (PA : Int) := by omega
        go_wp2_with fail
        go_ret
        exact ⟨ret_int (by rw [plN, if_neg hab, if_pos (by omega)]), hB2⟩

set_option maxRecDepth 20000 in
set_option maxHeartbeats 2000000 in
theorem l13Value_any : ∀ (t : Tr) (p : Nat) (u : Value) (P : Nat → Prop) (w : World), t.ok → TV w P t p u → Calls Try.prog 54 #[u] w fun e w' => e = .returned (.int .i64 t.val) ∧ Below w.heap.size w w' := by
  intro t
  induction t with
  | ld n =>
    intro p u P w hok hT
    obtain rfl : u = .agg #[.int .i64 1, .int .i64 n, .int .i64 (p : Int), .slice none 0 0] := hT
    go_enter Try.func54, Try.ntmps54
    go_wp2_with fail
    refine (l13Norm_any _ _).mono ?_
    rintro e w' ⟨rfl, rfl⟩
    go_wp2_with fail
    go_ret
    exact ⟨rfl, (Below.refl _ _).alloc (Nat.le_refl _) _⟩
  | op o a b iha ihb =>
    intro p u P w hok hT
    obtain ⟨g, cap, aad, al, ac, bad, bl, bc, pa, pb, rfl, hP, hg, hc, h1, h2⟩ := hT.two
    have ho1 := op_ne hok.1
    have HC := hide hc
    have HIa := hide (fun w' hb => iha _ _ P w' hok.2.1 (h1 w' hb))
    have HIb := hide (fun w' hb => ihb _ _ P w' hok.2.2 (h2 w' hb))
    have HE : Hid ((Tr.op o a b).val = doV o a.val b.val) := hide rfl
    have HDo := hide (fun w => l13Do_any o a.val b.val w a.val_in b.val_in)
    obtain ⟨PA, hPA⟩ : ∃ PA, PA = a.val := ⟨_, rfl⟩
    obtain ⟨PB, hPB⟩ : ∃ PB, PB = b.val := ⟨_, rfl⟩
    rw [← hPA, ← hPB] at HE HDo
    rw [← hPA] at HIa
    rw [← hPB] at HIb
    rw [HE.out]
    obtain ⟨W0, hW0⟩ : ∃ W0, W0 = w.alloc (.cells #[.int .i64 o, .int .i64 0, .int .i64 (p : Int), .slice (some ⟨g, 0, none⟩) 2 cap] 51) := ⟨_, rfl⟩
    have hB0 : Below w.heap.size w W0 := by rw [hW0]; exact (Below.refl _ _).alloc (Nat.le_refl _) _
    have hs0 : W0.heap.size = w.heap.size + 1 := by rw [hW0]; simp
    have hbx : W0.heap[w.heap.size]? = some (.cells #[.int .i64 o, .int .i64 0, .int .i64 (p : Int), .slice (some ⟨g, 0, none⟩) 2 cap] 51 (0, 0)) := by rw [hW0]; exact heap_alloc_new w _
    have HW0 := hide hW0
    have HAll : Hid (∀ w', Below W0.heap.size W0 w' → w'.cell? ⟨w.heap.size, 0, none⟩ = some (.int .i64 o) ∧ w'.cell? ⟨w.heap.size, 3, none⟩ = some (.slice (some ⟨g, 0, none⟩) 2 cap) ∧ w'.cell? ⟨g, 0, none⟩ = some (.int .i64 a.x.k) ∧ w'.cell? ⟨g, 1, none⟩ = some (.int .i64 a.x.n) ∧ w'.cell? ⟨g, 2, none⟩ = some (.int .i64 pa) ∧ w'.cell? ⟨g, 3, none⟩ = some (.slice aad al ac) ∧
        w'.cell? ⟨g, 4, none⟩ = some (.int .i64 b.x.k) ∧ w'.cell? ⟨g, 5, none⟩ = some (.int .i64 b.x.n) ∧ w'.cell? ⟨g, 6, none⟩ = some (.int .i64 pb) ∧ w'.cell? ⟨g, 7, none⟩ = some (.slice bad bl bc)) := hide (fun w' hb => ⟨(cell_of_blk ((hb.block w.heap.size (by omega)).trans hbx) 0).trans rfl, (cell_of_blk ((hb.block w.heap.size (by omega)).trans hbx) 3).trans rfl, hc w' (hB0.trans (hb.mono hB0.size))⟩)
    have HWB0 : Hid (Below W0.heap.size W0 W0.drew) := hide ⟨rfl, rfl, rfl, Nat.le_refl _, fun _ _ => rfl⟩
    have HB0 := hide hB0
    clear hT hP hok hPA hPB h1 h2 hc iha ihb hW0 hbx HE HC
    go_enter Try.func54, Try.ntmps54
    go_wp2_with fail
    rw [← HW0.out]
    clear HW0
    obtain ⟨u0, u1, u2, u3, u4, u5, u6, u7, u8, u9⟩ := HAll.out W0.drew HWB0.out
    go_region_held3 (fun w' => w'.cell? ⟨w.heap.size, 0, none⟩ = some (.int .i64 o) ∧ w'.cell? ⟨w.heap.size, 3, none⟩ = some (.slice (some ⟨g, 0, none⟩) 2 cap) ∧ w'.cell? ⟨g, 0, none⟩ = some (.int .i64 a.x.k) ∧ w'.cell? ⟨g, 1, none⟩ = some (.int .i64 a.x.n) ∧ w'.cell? ⟨g, 2, none⟩ = some (.int .i64 pa) ∧ w'.cell? ⟨g, 3, none⟩ = some (.slice aad al ac) ∧
        w'.cell? ⟨g, 4, none⟩ = some (.int .i64 b.x.k) ∧ w'.cell? ⟨g, 5, none⟩ = some (.int .i64 b.x.n) ∧ w'.cell? ⟨g, 6, none⟩ = some (.int .i64 pb) ∧ w'.cell? ⟨g, 7, none⟩ = some (.slice bad bl bc)) (first | (with_reducible exact HAll.out _ HWB0.out) | (with_reducible exact HAll.out _ HWB1.out) | (with_reducible exact HAll.out _ HWB2.out))
      (first
        | ((with_reducible refine Calls.mono (HDo.out _) ?_); rintro e W3 ⟨rfl, rfl⟩)
        | ((with_reducible refine Calls.mono (HIb.out _ (HB0.out.trans (HWB1.out.mono HB0.out.size))) ?_); rintro e W2 ⟨rfl, hx⟩; have HWB2 : Hid (Below W0.heap.size W0 W2) := hide (HWB1.out.trans (hx.mono HWB1.out.size)); clear hx)
        | ((with_reducible refine Calls.mono (HIa.out _ (HB0.out.trans (HWB0.out.mono HB0.out.size))) ?_); rintro e W1 ⟨rfl, hx⟩; have HWB1 : Hid (Below W0.heap.size W0 W1) := hide (HWB0.out.trans (hx.mono HWB0.out.size)); clear hx))
    all_goals
      clear u0 u1 u2 u3 u4 u5 u6 u7 u8 u9
      go_wp2_with fail
      go_ret
      exact ⟨rfl, HB0.out.trans (HWB2.out.mono HB0.out.size)⟩
end Go.Proofs.Ytiphcjbmoekkkaa.L

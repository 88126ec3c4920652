/-
  Some texts of this proof in one: MaX0, MaY4, MaY6.
-/
import Derived.Test.YtnmkbpflbfhpnaaGreatJ21
import Derived.Test.YtnmkbpflbfhpnaaGreatJ01
import Derived.Test.YtnmkbpflbfhpnaaGreatJ20
import Derived.Test.YtnmkbpflbfhpnaaGreatJ26
import Derived.Deep.RegionHeld3
import Derived.Deep.RegionLaw
import Derived.Deep.AppendLies
import Derived.Deep.CutRange
/-
  The specification's machines: copies of rows, and a contract of l6Own. Conditions: at most 1048576 elements a row.
-/
namespace Go.Proofs.YtnmkbpflbfhpnaaGreat.W
open Go.ChangeShapes Go.WideShapes Go.ChangeAt Go.RowKit
set_option linter.unusedVariables false

theorem run_copy0 {P : Program} (w : World) (t ty e : TypeId) (i : TypeInfo) (ht : P.underlying t = some (.slice e)) (hi : P.info? e = some i) (g c : Nat) (ad : Option Addr) :
    (Builtin.append_ #[t, t] ty #[.slice (some ⟨g, 0, none⟩) 0 0, .slice ad 0 c]).run P w = .ok (.slice (some ⟨g, 0, none⟩) 0 0) w := by
  cases ad with
  | none => simp [Builtin.append_, run_underlying ht, sizeOf, typeInfo, hi, Builtin.lenOf, Builtin.firstCells, storeCells]
  | some a => simp [Builtin.append_, run_underlying ht, sizeOf, typeInfo, hi, Builtin.lenOf, Builtin.firstCells, storeCells, loadCells, loadCellsFrom]
theorem rrow_news {α : Type} {z : Nat} {f : α → Nat → Value} {w : World} {b o : Nat} {l : List α} (h : RAt z f w b o l) : ∀ j u, (rcells z f l)[j]? = some u → w.cell? ((⟨b, o, none⟩ : Addr).add j) = some u := by
  intro j u hu
  have hj := (List.getElem?_eq_some_iff.1 hu).1
  rw [rcells_len] at hj
  have hz : 0 < z := by
    rcases Nat.eq_zero_or_pos z with e | e
    · subst e; simp at hj
    · exact e
  have h1 : j = (j / z) * z + j % z := by rw [Nat.mul_comm]; exact (Nat.div_add_mod j z).symm
  have h2 : j / z < l.length := Nat.div_lt_of_lt_mul (by rw [Nat.mul_comm]; exact hj)
  have h3 : j % z < z := Nat.mod_lt _ hz
  have e1 := rcells_at z f l (j / z) h2 (j % z) h3
  rw [← h1, hu] at e1
  have e2 := h.2 (j / z) h2 (j % z) h3
  rw [iAdd, show o + j = o + j / z * z + j % z by omega, e2, e1]
theorem run_copy {α : Type} {P : Program} (w : World) (base : Nat) (t ty e : TypeId) (i : TypeInfo) (z : Value) (size bytes : Nat) (ht : P.underlying t = some (.slice e)) (hi : P.info? e = some i) (hz : i.zero = some z)
    (hsize : i.size = size) (hby : i.bytes = bytes) (hzs : z.cells.size = size) (hsz : 0 < size) (hby2 : bytes ≤ 64)
    (f : α → Nat → Value) (l : List α) (hone : ∀ u ∈ rcells size f l, u.oneCell' = true) (hl : l.length ≤ 1048576) (g c : Nat) (ad : Option Addr) (hg : w.heap[g]? = some (.cells #[] e (0, 0))) (hgb : base ≤ g) (hR : RRow size f w ad l) :
    ∃ v' w', (Builtin.append_ #[t, t] ty #[.slice (some ⟨g, 0, none⟩) 0 0, .slice ad l.length c]).run P w = .ok v' w' ∧ w'.ownsRow base e size v' l.length (rcells size f l) ∧ w.grownBy w' (some g) := by
  have hgl : g < w.heap.size := (Array.getElem?_eq_some_iff.1 hg).1
  have hown : w.ownsRow base e size (.slice (some ⟨g, 0, none⟩) 0 0) 0 [] := ⟨by simp, .inr ⟨g, 0, #[], rfl, hgb, hg, Nat.le_refl _, by unfold maxLen; omega, by simp, by simp⟩⟩
  rcases hR with rfl | ⟨b, o, rfl, hA⟩
  · exact ⟨_, w, run_copy0 w t ty e i ht hi g c ad, hown, ⟨rfl, rfl, rfl, Nat.le_refl _, fun _ _ _ => rfl⟩⟩
  · obtain ⟨v', w', h1, h2, h3, -⟩ := run_append_sep w base t ty e i z size bytes ht hi hz hsize hby hzs hsz _ 0 [] hown ⟨b, o, none⟩ l.length c (rcells size f l) (rcells_len _ _ _) (rrow_news hA) hone (by unfold maxLen; omega) (by have : (0 + l.length) * bytes ≤ 1048576 * 64 := Nat.mul_le_mul (by omega) hby2; omega) (by omega)
    rw [Nat.zero_add, List.nil_append] at h2
    exact ⟨v', w', h1, h2, h3⟩
theorem wpList_copy {α : Type} {P : Program} {w : World} {ops : Array Oper} {rest : List Oper} {o : Oper} {a : Act} {Q : Exit → Act → World → Prop} (hgd : o.guard = none) (s x : Operand) (t : TypeId)
    (ho : o.op = .call { callee := .builtin .append, args := #[s, x], argTypes := #[t, t] })
    (base : Nat) (e : TypeId) (i : TypeInfo) (z : Value) (size bytes : Nat) (ht : P.underlying t = some (.slice e)) (hi : P.info? e = some i) (hz : i.zero = some z)
    (hsize : i.size = size) (hby : i.bytes = bytes) (hzs : z.cells.size = size) (hsz : 0 < size) (hby2 : bytes ≤ 64)
    (f : α → Nat → Value) (l : List α) (hone : ∀ u ∈ rcells size f l, u.oneCell' = true) (hl : l.length ≤ 1048576) (g c : Nat) (ad : Option Addr) (hs : a.eval s = .slice (some ⟨g, 0, none⟩) 0 0) (hx : a.eval x = .slice ad l.length c)
    (hg : w.heap[g]? = some (.cells #[] e (0, 0))) (hgb : base ≤ g) (hR : RRow size f w ad l)
    (h : ∀ v' w', w'.ownsRow base e size v' l.length (rcells size f l) → w.grownBy w' (some g) → wpList P ops Q rest (a.put o.dst v') w') : wpList P ops Q (o :: rest) a w :=
  wpList_plain hgd fun _ hK => by
    obtain ⟨v', w', hr, h2, h3⟩ := run_copy w base t o.type e i z size bytes ht hi hz hsize hby hzs hsz hby2 f l hone hl g c ad hg hgb hR
    unfold Oper.wp execOp
    simp only [ho, resolve, invoke, builtin, Sem.run_bind, Sem.run_pure, Result.andThen_ok, List.map_toArray, List.map_cons, List.map_nil, hs, hx, hr]
    exact hK _ _ (h v' w' h2 h3)

theorem own_set {w : World} {lo z n b : Nat} {T T' : TypeId} {v : Value} {xs : List Value} {cs : Array Value} (hb : Bx w b cs T') (h : w.ownsRow lo T z v n xs) (hT : T' ≠ T) (i : Nat) (u : Value) : (w.setCell ⟨b, i, none⟩ u).ownsRow lo T z v n xs :=
  own_same h (fun k hk _ hl => Below.heap_setCell _ _ _ _ (fun e' => own_bx hb h hT ((show k = b from e') ▸ hk)))
/-- A box of a machine, and three rows beside it. -/
structure Kp (w : World) (b lo : Nat) (sf sv sb : Value) (fs : List Fm) (vs : List Vl) (bs : List Bd) : Prop where
  box : ∃ cs, Bx w b cs 61
  f : w.ownsRow lo 141 4 sf fs.length (rcells 4 Fm.c fs)
  v : w.ownsRow lo 69 4 sv vs.length (rcells 4 Vl.c vs)
  b' : w.ownsRow lo 162 2 sb bs.length (rcells 2 Bd.c bs)
theorem Kp.set {w : World} {b lo : Nat} {sf sv sb : Value} {fs : List Fm} {vs : List Vl} {bs : List Bd} (h : Kp w b lo sf sv sb fs vs bs) (i : Nat) (u : Value) : Kp (w.setCell ⟨b, i, none⟩ u) b lo sf sv sb fs vs bs := by
  obtain ⟨cs, hb⟩ := h.box
  exact ⟨⟨_, hb.set i u⟩, own_set hb h.f (by decide) i u, own_set hb h.v (by decide) i u, own_set hb h.b' (by decide) i u⟩
theorem Kp.own {w : World} {b lo : Nat} {sf sv sb : Value} {fs : List Fm} {vs : List Vl} {bs : List Bd} (h : Kp w b lo sf sv sb fs vs bs) (d : Bool) (p e x : Int) (h4 : fs.length ≤ 1048576) (h5 : vs.length ≤ 1048576) (h6 : bs.length ≤ 1048576) : MOwn lo w.heap.size w (.agg #[.bool d, .int .i64 p, .int .i64 e, .int .i64 x, sf, sv, sb]) ⟨d, p, e, x, fs, vs, bs⟩ :=
  ⟨_, _, _, rfl, Own.ofOwn h.f, Own.ofOwn h.v, Own.ofOwn h.b', h4, h5, h6⟩

set_option maxRecDepth 20000 in
set_option maxHeartbeats 2000000 in
theorem l6Own_any (v : Value) (m : Mc) (w : World) (h : MRow w v m) :
    Calls Tryz.prog 73 #[v] w fun e w' => ∃ v', e = .returned v' ∧ MOwn w.heap.size w'.heap.size w' v' m ∧ Below w.heap.size w w' := by
  obtain ⟨af, cf, av, cv, ab, cb, rfl, a1, a2, a3, h4, h5, h6, -, -, -⟩ := h
  have A1 := hide a1
  have A2 := hide a2
  have A3 := hide a3
  clear a1 a2 a3
  obtain ⟨d, p, e, x, fs, vs, bs⟩ := m
  simp only at h4 h5 h6 A1 A2 A3 ⊢
  obtain ⟨i1, hi1, f0, f1, f2⟩ := infoPartsT infoFm
  obtain ⟨i2, hi2, v0, v1, v2⟩ := infoPartsT infoVl
  obtain ⟨i3, hi3, b0, b1, b2⟩ := infoPartsT infoBd
  have HI1 := hide hi1
  have HI2 := hide hi2
  have HI3 := hide hi3
  clear hi1 hi2 hi3
  go_enter Tryz.func73, Tryz.ntmps73
  go_upto_region 1 with fail
  have hX := (Bx.new w #[.bool d, .int .i64 p, .int .i64 e, .int .i64 x, .slice af fs.length cf, .slice av vs.length cv, .slice ab bs.length cb] 61).alloc (.cells #[.bool false, .int .i64 0, .int .i64 0, .int .i64 0, .slice none 0 0, .slice none 0 0, .slice none 0 0] 61)
  have hY := Bx.new (w.alloc (.cells #[.bool d, .int .i64 p, .int .i64 e, .int .i64 x, .slice af fs.length cf, .slice av vs.length cv, .slice ab bs.length cb] 61)) #[.bool false, .int .i64 0, .int .i64 0, .int .i64 0, .slice none 0 0, .slice none 0 0, .slice none 0 0] 61
  rw [World.size_alloc] at hY
  have hB0 : Below w.heap.size w ((w.alloc (.cells #[.bool d, .int .i64 p, .int .i64 e, .int .i64 x, .slice af fs.length cf, .slice av vs.length cv, .slice ab bs.length cb] 61)).alloc (.cells #[.bool false, .int .i64 0, .int .i64 0, .int .i64 0, .slice none 0 0, .slice none 0 0, .slice none 0 0] 61)) := ((Below.refl _ _).alloc (Nat.le_refl _) _).alloc (by simp) _
  obtain ⟨w0, hw0⟩ : ∃ w0, w0 = (w.alloc (.cells #[.bool d, .int .i64 p, .int .i64 e, .int .i64 x, .slice af fs.length cf, .slice av vs.length cv, .slice ab bs.length cb] 61)).alloc (.cells #[.bool false, .int .i64 0, .int .i64 0, .int .i64 0, .slice none 0 0, .slice none 0 0, .slice none 0 0] 61) := ⟨_, rfl⟩
  rw [← hw0] at hX hY hB0 ⊢
  clear hw0
  have HX := hide hX
  have HY := hide hY
  have hyl := hY.lt
  have c4 : (w0.alloc (.cells #[] 141)).cell? ⟨w.heap.size, 4, none⟩ = some (.slice af fs.length cf) := (hX.alloc _).c 4
  clear hX hY
  go_wp2_with (at_builtin; refine wpList_copy rfl _ _ 57 rfl w.heap.size 141 i1 _ 4 32 Tryz.underlying57 HI1.out f0 f1 f2 rfl (by decide) (by decide) Fm.c fs (Fm.one fs) h4 w0.heap.size cf af rfl rfl (heap_alloc_new w0 _) (by omega) (RRow.below A1.out (hB0.alloc hB0.size _)) ?_)
  intro s1 w1 ho1 hg1
  have HX1 : Hid (Bx w1 w.heap.size _ _) := hide ((hg1.block _ (by simp; omega) (by simp; omega)).trans (HX.out.alloc _))
  have HY1 : Hid (Bx w1 (w.heap.size + 1) _ _) := hide ((hg1.block _ (by simp; omega) (by simp; omega)).trans (HY.out.alloc _))
  have hB1 : Below w.heap.size w w1 := Below.grown (hB0.alloc hB0.size _) hg1 (by have := hB0.size; simp; omega) (fun k hk => by simp at hk; omega)
  have HO1 := hide ho1
  obtain ⟨a1, k1, rfl⟩ := own_form ho1
  have hs1 : w.heap.size + 1 < w1.heap.size := HY1.out.lt
  clear ho1 hg1 HX HY c4
  have c4 := HX1.out.c
  have f4 := HX1.out.f
  go_upto_region 2 with fail
  have HX2 := hide (HX1.out.set 4 (.slice a1 fs.length k1))
  have HY2 := hide (HY1.out.setne w.heap.size 4 (.slice a1 fs.length k1) (by omega))
  have hB2 := bsc0 hB1 4 (.slice a1 fs.length k1)
  have HO2 := hide (own_same (w' := w1.setCell ⟨w.heap.size, 4, none⟩ (.slice a1 fs.length k1)) HO1.out (fun k hk _ hl => Below.heap_setCell _ _ _ _ (fun e' => own_bx HX1.out HO1.out (by decide) ((show k = w.heap.size from e') ▸ hk))))
  obtain ⟨w2, hw2⟩ : ∃ w2, w2 = w1.setCell ⟨w.heap.size, 4, none⟩ (.slice a1 fs.length k1) := ⟨_, rfl⟩
  rw [← hw2] at HX2 HY2 hB2 HO2 ⊢
  clear hw2 c4 f4 HX1 HY1 HO1 hB1
  have c5 := (HX2.out.alloc (.cells #[] 69)).c
  have hs2 : w.heap.size + 1 < w2.heap.size := HY2.out.lt
  go_wp2_with (at_builtin; refine wpList_copy rfl _ _ 58 rfl w.heap.size 69 i2 _ 4 32 Tryz.underlying58 HI2.out v0 v1 v2 rfl (by decide) (by decide) Vl.c vs (Vl.one vs) h5 w2.heap.size cv av rfl rfl (heap_alloc_new w2 _) (by omega) (RRow.below A2.out (hB2.alloc hB2.size _)) ?_)
  intro s3 w3 ho3 hg3
  have HX3 : Hid (Bx w3 w.heap.size _ _) := hide ((hg3.block _ (by simp; omega) (by simp; omega)).trans (HX2.out.alloc _))
  have HY3 : Hid (Bx w3 (w.heap.size + 1) _ _) := hide ((hg3.block _ (by simp; omega) (by simp; omega)).trans (HY2.out.alloc _))
  have hB3 : Below w.heap.size w w3 := Below.grown (hB2.alloc hB2.size _) hg3 (by have := hB2.size; simp; omega) (fun k hk => by simp at hk; omega)
  have HF3 := hide (own_grown (HO2.out.alloc _) hg3 (fun k hk e' => by have := (HO2.out.lt k hk).2; simp at e'; omega))
  have HO3 := hide ho3
  obtain ⟨a3, k3, rfl⟩ := own_form ho3
  have hs3 : w.heap.size + 1 < w3.heap.size := HY3.out.lt
  clear ho3 hg3 HX2 HY2 c5 HO2
  have c5 := HX3.out.c
  have f5 := HX3.out.f
  go_upto_region 3 with fail
  have HX4 := hide (HX3.out.set 5 (.slice a3 vs.length k3))
  have HY4 := hide (HY3.out.setne w.heap.size 5 (.slice a3 vs.length k3) (by omega))
  have hB4 := bsc0 hB3 5 (.slice a3 vs.length k3)
  have HF4 := hide (own_same (w' := w3.setCell ⟨w.heap.size, 5, none⟩ (.slice a3 vs.length k3)) HF3.out (fun k hk _ hl => Below.heap_setCell _ _ _ _ (fun e' => own_bx HX3.out HF3.out (by decide) ((show k = w.heap.size from e') ▸ hk))))
  have HV4 := hide (own_same (w' := w3.setCell ⟨w.heap.size, 5, none⟩ (.slice a3 vs.length k3)) HO3.out (fun k hk _ hl => Below.heap_setCell _ _ _ _ (fun e' => own_bx HX3.out HO3.out (by decide) ((show k = w.heap.size from e') ▸ hk))))
  obtain ⟨w4, hw4⟩ : ∃ w4, w4 = w3.setCell ⟨w.heap.size, 5, none⟩ (.slice a3 vs.length k3) := ⟨_, rfl⟩
  rw [← hw4] at HX4 HY4 hB4 HF4 HV4 ⊢
  clear hw4 c5 f5 HX3 HY3 HO3 hB3 HF3
  have c6 := (HX4.out.alloc (.cells #[] 162)).c
  have hs4 : w.heap.size + 1 < w4.heap.size := HY4.out.lt
  go_wp2_with (at_builtin; refine wpList_copy rfl _ _ 59 rfl w.heap.size 162 i3 _ 2 16 Tryz.underlying59 HI3.out b0 b1 b2 rfl (by decide) (by decide) Bd.c bs (Bd.one bs) h6 w4.heap.size cb ab rfl rfl (heap_alloc_new w4 _) (by omega) (RRow.below A3.out (hB4.alloc hB4.size _)) ?_)
  intro s5 w5 ho5 hg5
  have HX5 : Hid (Bx w5 w.heap.size _ _) := hide ((hg5.block _ (by simp; omega) (by simp; omega)).trans (HX4.out.alloc _))
  have HY5 : Hid (Bx w5 (w.heap.size + 1) _ _) := hide ((hg5.block _ (by simp; omega) (by simp; omega)).trans (HY4.out.alloc _))
  have hB5 : Below w.heap.size w w5 := Below.grown (hB4.alloc hB4.size _) hg5 (by have := hB4.size; simp; omega) (fun k hk => by simp at hk; omega)
  have HF5 := hide (own_grown (HF4.out.alloc _) hg5 (fun k hk e' => by have := (HF4.out.lt k hk).2; simp at e'; omega))
  have HV5 := hide (own_grown (HV4.out.alloc _) hg5 (fun k hk e' => by have := (HV4.out.lt k hk).2; simp at e'; omega))
  have HO5 := hide ho5
  obtain ⟨a5, k5, rfl⟩ := own_form ho5
  have hs5 : w.heap.size + 1 < w5.heap.size := HY5.out.lt
  clear ho5 hg5 HX4 HY4 c6 HF4 HV4
  have c6 := HX5.out.c
  have f6 := HX5.out.f
  have y6 := HY5.out.c
  have g6 := HY5.out.f
  go_wp2_with fail
  refine bodyPost_ret (v := .agg #[.bool d, .int .i64 p, .int .i64 e, .int .i64 x, .slice a1 fs.length k1, .slice a3 vs.length k3, .slice a5 bs.length k5]) (by simp [results, Tryz.results73, go_sem, y6]) rfl ⟨_, rfl, ?_, ?_⟩
  · have q0 : Kp (w5.setCell ⟨w.heap.size, 6, none⟩ (.slice a5 bs.length k5)) (w.heap.size + 1) w.heap.size (.slice a1 fs.length k1) (.slice a3 vs.length k3) (.slice a5 bs.length k5) fs vs bs :=
      ⟨⟨_, HY5.out.setne _ _ _ (by omega)⟩, own_set HX5.out HF5.out (by decide) _ _, own_set HX5.out HV5.out (by decide) _ _, own_set HX5.out HO5.out (by decide) _ _⟩
    exact (((((((q0.set 0 _).set 1 _).set 2 _).set 3 _).set 4 _).set 5 _).set 6 _).own d p e x h4 h5 h6
  · exact bsc (bsc (bsc (bsc (bsc (bsc (bsc (bsc0 hB5 _ _) _ _ _ (by omega)) _ _ _ (by omega)) _ _ _ (by omega)) _ _ _ (by omega)) _ _ _ (by omega)) _ _ _ (by omega)) _ _ _ (by omega)
end Go.Proofs.YtnmkbpflbfhpnaaGreat.W

/-
  The model of a machine that does steps until it can't: what is told, what is kept good. No program here.
-/
namespace Go.Proofs.YtnmkbpflbfhpnaaGreat.W
set_option linter.unusedVariables false

/-- So many steps at most: the machine, and how many were done. -/
def playM (a : F) (l : List Cc) : Nat → Mc → Mc × Nat
  | 0, m => (m, 0)
  | k + 1, m => match stepM a l m with
    | .inl m' => ((playM a l k m').1, (playM a l k m').2 + 1)
    | .inr _ => (m, 0)
theorem playM_stop {a : F} {l : List Cc} {m : Mc} {c : Int} (h : stepM a l m = .inr c) : ∀ k, playM a l k m = (m, 0)
  | 0 => rfl
  | k + 1 => by unfold playM; rw [h]
theorem playM_go {a : F} {l : List Cc} {m m' : Mc} (h : stepM a l m = .inl m') (k : Nat) : playM a l (k + 1) m = ((playM a l k m').1, (playM a l k m').2 + 1) := by
  rw [playM.eq_2, h]
theorem playM_good {a : F} {l : List Cc} (hC : Cl l a) : ∀ (k : Nat) (m : Mc), GM a l m → GM a l (playM a l k m).1
  | 0, m, h => h
  | k + 1, m, h => by
    cases hs : stepM a l m with
    | inl m' => rw [playM_go hs]; exact playM_good hC k m' (step_good hC h hs)
    | inr c => rw [playM_stop hs]; exact h
theorem playM_le {a : F} {l : List Cc} : ∀ (k : Nat) (m : Mc), (playM a l k m).2 ≤ k
  | 0, m => Nat.le_refl _
  | k + 1, m => by
    cases hs : stepM a l m with
    | inl m' => rw [playM_go hs]; have := playM_le (a := a) (l := l) k m'; simp only; omega
    | inr c => rw [playM_stop hs]; simp
/-- Where it could go on, all were done. -/
theorem playM_full {a : F} {l : List Cc} : ∀ (k : Nat) (m m' : Mc), stepM a l (playM a l k m).1 = .inl m' → (playM a l k m).2 = k
  | 0, m, m', h => rfl
  | k + 1, m, m', h => by
    cases hs : stepM a l m with
    | inl m1 => rw [playM_go hs] at h ⊢; have := playM_full k m1 m' h; simp only; omega
    | inr c => rw [playM_stop hs] at h; rw [hs] at h; cases h

theorem newM_code {m : Mc} {v : Vl} {c : Int} (h : newM m v = .inr c) : c = 5 := by
  unfold newM at h
  split at h
  · simpa using h.symm
  · cases h
theorem bindM_code {m : Mc} {u p : Int} {c : Int} (h : bindM m u p = .inr c) : c = 5 := by
  unfold bindM at h
  split at h
  · simpa using h.symm
  · cases h
/-- How a machine ends. -/
theorem step_code {a : F} {l : List Cc} {m : Mc} (hC : Cl l a) (hG : GM a l m) {c : Int} (h : stepM a l m = .inr c) :
    (m.done = true ∧ m.fs = [] ∧ c = if (vlAt m m.val).fn = true then 2 else 1) ∨ ((m.done = false ∨ m.fs ≠ []) ∧ (c = 3 ∨ c = 5)) := by
  unfold stepM at h
  by_cases hd : m.done = true
  · rw [if_pos hd] at h
    cases hf : m.fs.getLast? with
    | none =>
      rw [hf] at h
      simp only [Sum.inr.injEq] at h
      exact .inl ⟨hd, by simpa using hf, h.symm⟩
    | some f =>
      rw [hf] at h
      simp only at h
      refine .inr ⟨.inr (fun e => by rw [e] at hf; cases hf), ?_⟩
      unfold goM at h
      split at h
      · split at h
        · exact .inl (by simpa using h.symm)
        · cases h
      split at h
      · exact .inr (bindM_code h)
      split at h
      · cases h
      split at h
      · split at h
        · exact .inr (bindM_code h)
        · exact .inl (by simpa using h.symm)
      split at h
      · exact .inl (by simpa using h.symm)
      · exact .inr (newM_code h)
  · have hd' : m.done = false := by simpa using hd
    rw [if_neg hd] at h
    refine .inr ⟨.inl hd', ?_⟩
    obtain ⟨n1, n2⟩ := nOk_not hG.now hd'
    obtain ⟨q1, q2, q3⟩ := pOk_iff.1 n2
    obtain ⟨x, e, k, x1, x2, x3, x4, x5, x6, x7⟩ := hC.part q1
    unfold doM at h
    rw [x2] at h
    simp only at h
    split at h
    · cases h
    split at h
    · exact .inr (newM_code h)
    split at h
    · exact .inr (newM_code h)
    split at h
    · exact .inr (by simpa using h.symm)
    · cases h
/-- What a run tells: the code, the number, how many steps. -/
def runM (a : F) (l : List Cc) (S : Nat) : Int × Int × Int :=
  match stepM a l (playM a l S startM).1 with
  | .inl _ => (4, 0, (S : Int))
  | .inr c => (c, if c = 1 then (vlAt (playM a l S startM).1 (playM a l S startM).1.val).num else 0, ((playM a l S startM).2 : Int))
end Go.Proofs.YtnmkbpflbfhpnaaGreat.W

/-
  Contracts of isFuel and of the program's PlayMachine. Conditions: at most 1048576 cells.
-/
namespace Go.Proofs.YtnmkbpflbfhpnaaGreat.W
open Go.ChangeShapes Go.WideShapes Go.ChangeAt Go.RowKit
set_option linter.unusedVariables false
set_option linter.unusedSimpArgs false

theorem isFuel_any (q : Int) (w : World) : Calls Tryz.prog 23 #[.int .i64 q] w fun e w' => e = .returned (.bool (inB q 0 2000)) ∧ w' = w := by
  go_enter Tryz.func23, Tryz.ntmps23
  by_cases h1 : 0 ≤ q
  · by_cases h2 : q ≤ 2000
    · go_wp2_with fail
      go_ret
      simp [inB, h1, h2]
    · go_wp2_with fail
      go_ret
      simp [inB, h1, h2]
  · go_wp2_with fail
    go_ret
    simp [inB, h1]
    omega

/-- What PlayMachine tells. -/
def pmO (l : List Cc) (q : Int) : Bool := closed l && inB q 0 2000
def pmP (l : List Cc) (q : Int) : Mc × Nat := if inB q 0 2000 = true then (match closedT l with | some a => playM a l q.toNat startM | none => (zeroM, 0)) else (zeroM, 0)
theorem pm_not {l : List Cc} {q : Int} (h : pmO l q = false) : pmP l q = (zeroM, 0) := by
  unfold pmP
  unfold pmO closed at h
  by_cases hq : inB q 0 2000 = true
  · rw [if_pos hq]
    cases hc : closedT l with
    | none => rfl
    | some a => rw [hc, hq] at h; cases h
  · rw [if_neg hq]
theorem pm_is {l : List Cc} {q : Int} (h : pmO l q = true) : ∃ a S, closedT l = some a ∧ Cl l a ∧ q = ((S : Nat) : Int) ∧ S ≤ 2000 ∧ pmP l q = playM a l S startM := by
  unfold pmO closed at h
  rw [Bool.and_eq_true] at h
  obtain ⟨h1, h2⟩ := h
  cases hc : closedT l with
  | none => rw [hc] at h1; cases h1
  | some a =>
    have hq : 0 ≤ q ∧ q ≤ 2000 := by unfold inB at h2; simpa using h2
    obtain ⟨S, rfl⟩ := Int.eq_ofNat_of_zero_le hq.1
    refine ⟨a, S, rfl, (closedT_some hc).1, rfl, by omega, ?_⟩
    unfold pmP
    rw [if_pos h2, hc]
    rfl
end Go.Proofs.YtnmkbpflbfhpnaaGreat.W

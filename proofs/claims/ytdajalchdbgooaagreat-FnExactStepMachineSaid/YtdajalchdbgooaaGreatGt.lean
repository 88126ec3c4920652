/-
  Some texts of this proof in one: MaX0, MaX1, MaX2, SmA.
-/
import Derived.Test.YtdajalchdbgooaaGreatGr
import Derived.Test.YtdajalchdbgooaaGreatApS
import Derived.Deep.RegionHeld3
import Derived.Deep.RegionLaw
import Derived.Deep.AppendLies
import Derived.Deep.CutRange
import Derived.Test.YtdajalchdbgooaaGreatMaR5
import Derived.Lib.SliceRun
/-
  The specification's machines: copies of rows, and a contract of l6Own. Conditions: at most 1048576 elements a row.
-/
namespace Go.Proofs.YtdajalchdbgooaaGreat.W
open Go.ChangeShapes Go.WideShapes Go.ChangeAt Go.RowKit
set_option linter.unusedVariables false

theorem run_copy0 {P : Program} (w : World) (t ty e : TypeId) (i : TypeInfo) (ht : P.underlying t = some (.slice e)) (hi : P.info? e = some i) (g c : Nat) (ad : Option Addr) :
    (Builtin.append_ #[t, t] ty #[.slice (some ⟨g, 0, none⟩) 0 0, .slice ad 0 c]).run P w = .ok (.slice (some ⟨g, 0, none⟩) 0 0) w := by
  cases ad with
  | none => simp [Builtin.append_, run_underlying ht, sizeOf, typeInfo, hi, Builtin.lenOf, Builtin.firstCells, storeCells]
  | some a => simp [Builtin.append_, run_underlying ht, sizeOf, typeInfo, hi, Builtin.lenOf, Builtin.firstCells, storeCells, loadCells, loadCellsFrom]
theorem rrow_news {α : Type} {z : Nat} {f : α → Nat → Value} {w : World} {b o : Nat} {l : List α} (h : RAt z f w b o l) : ∀ j u, (rcells z f l)[j]? = some u → w.cell? ((⟨b, o, none⟩ : Addr).add j) = some u := by
  intro j u hu
  have hj := (List.getElem?_eq_some_iff.1 hu).1
  rw [rcells_len] at hj
  have hz : 0 < z := by
    rcases Nat.eq_zero_or_pos z with e | e
    · subst e; simp at hj
    · exact e
  have h1 : j = (j / z) * z + j % z := by rw [Nat.mul_comm]; exact (Nat.div_add_mod j z).symm
  have h2 : j / z < l.length := Nat.div_lt_of_lt_mul (by rw [Nat.mul_comm]; exact hj)
  have h3 : j % z < z := Nat.mod_lt _ hz
  have e1 := rcells_at z f l (j / z) h2 (j % z) h3
  rw [← h1, hu] at e1
  have e2 := h.2 (j / z) h2 (j % z) h3
  rw [iAdd, show o + j = o + j / z * z + j % z by omega, e2, e1]
theorem run_copy {α : Type} {P : Program} (w : World) (base : Nat) (t ty e : TypeId) (i : TypeInfo) (z : Value) (size bytes : Nat) (ht : P.underlying t = some (.slice e)) (hi : P.info? e = some i) (hz : i.zero = some z)
    (hsize : i.size = size) (hby : i.bytes = bytes) (hzs : z.cells.size = size) (hsz : 0 < size) (hby2 : bytes ≤ 64)
    (f : α → Nat → Value) (l : List α) (hone : ∀ u ∈ rcells size f l, u.oneCell' = true) (hl : l.length ≤ 1048576) (g c : Nat) (ad : Option Addr) (hg : w.heap[g]? = some (.cells #[] e (0, 0))) (hgb : base ≤ g) (hR : RRow size f w ad l) :
    ∃ v' w', (Builtin.append_ #[t, t] ty #[.slice (some ⟨g, 0, none⟩) 0 0, .slice ad l.length c]).run P w = .ok v' w' ∧ w'.ownsRow base e size v' l.length (rcells size f l) ∧ w.grownBy w' (some g) := by
  have hgl : g < w.heap.size := (Array.getElem?_eq_some_iff.1 hg).1
  have hown : w.ownsRow base e size (.slice (some ⟨g, 0, none⟩) 0 0) 0 [] := ⟨by simp, .inr ⟨g, 0, #[], rfl, hgb, hg, Nat.le_refl _, by unfold maxLen; omega, by simp, by simp⟩⟩
  rcases hR with rfl | ⟨b, o, rfl, hA⟩
  · exact ⟨_, w, run_copy0 w t ty e i ht hi g c ad, hown, ⟨rfl, rfl, rfl, Nat.le_refl _, fun _ _ _ => rfl⟩⟩
  · obtain ⟨v', w', h1, h2, h3, -⟩ := run_append_sep w base t ty e i z size bytes ht hi hz hsize hby hzs hsz _ 0 [] hown ⟨b, o, none⟩ l.length c (rcells size f l) (rcells_len _ _ _) (rrow_news hA) hone (by unfold maxLen; omega) (by have : (0 + l.length) * bytes ≤ 1048576 * 64 := Nat.mul_le_mul (by omega) hby2; omega) (by omega)
    rw [Nat.zero_add, List.nil_append] at h2
    exact ⟨v', w', h1, h2, h3⟩
theorem wpList_copy {α : Type} {P : Program} {w : World} {ops : Array Oper} {rest : List Oper} {o : Oper} {a : Act} {Q : Exit → Act → World → Prop} (hgd : o.guard = none) (s x : Operand) (t : TypeId)
    (ho : o.op = .call { callee := .builtin .append, args := #[s, x], argTypes := #[t, t] })
    (base : Nat) (e : TypeId) (i : TypeInfo) (z : Value) (size bytes : Nat) (ht : P.underlying t = some (.slice e)) (hi : P.info? e = some i) (hz : i.zero = some z)
    (hsize : i.size = size) (hby : i.bytes = bytes) (hzs : z.cells.size = size) (hsz : 0 < size) (hby2 : bytes ≤ 64)
    (f : α → Nat → Value) (l : List α) (hone : ∀ u ∈ rcells size f l, u.oneCell' = true) (hl : l.length ≤ 1048576) (g c : Nat) (ad : Option Addr) (hs : a.eval s = .slice (some ⟨g, 0, none⟩) 0 0) (hx : a.eval x = .slice ad l.length c)
    (hg : w.heap[g]? = some (.cells #[] e (0, 0))) (hgb : base ≤ g) (hR : RRow size f w ad l)
    (h : ∀ v' w', w'.ownsRow base e size v' l.length (rcells size f l) → w.grownBy w' (some g) → wpList P ops Q rest (a.put o.dst v') w') : wpList P ops Q (o :: rest) a w :=
  wpList_plain hgd fun _ hK => by
    obtain ⟨v', w', hr, h2, h3⟩ := run_copy w base t o.type e i z size bytes ht hi hz hsize hby hzs hsz hby2 f l hone hl g c ad hg hgb hR
    unfold Oper.wp execOp
    simp only [ho, resolve, invoke, builtin, Sem.run_bind, Sem.run_pure, Result.andThen_ok, List.map_toArray, List.map_cons, List.map_nil, hs, hx, hr]
    exact hK _ _ (h v' w' h2 h3)

theorem own_set {w : World} {lo z n b : Nat} {T T' : TypeId} {v : Value} {xs : List Value} {cs : Array Value} (hb : Bx w b cs T') (h : w.ownsRow lo T z v n xs) (hT : T' ≠ T) (i : Nat) (u : Value) : (w.setCell ⟨b, i, none⟩ u).ownsRow lo T z v n xs :=
  own_same h (fun k hk _ hl => Below.heap_setCell _ _ _ _ (fun e' => own_bx hb h hT ((show k = b from e') ▸ hk)))
/-- A box of a machine, and three rows beside it. -/
structure Kp (w : World) (b lo : Nat) (sf sv sb : Value) (fs : List Fm) (vs : List Vl) (bs : List Bd) : Prop where
  box : ∃ cs, Bx w b cs 34
  f : w.ownsRow lo 93 4 sf fs.length (rcells 4 Fm.c fs)
  v : w.ownsRow lo 88 4 sv vs.length (rcells 4 Vl.c vs)
  b' : w.ownsRow lo 85 2 sb bs.length (rcells 2 Bd.c bs)
theorem Kp.set {w : World} {b lo : Nat} {sf sv sb : Value} {fs : List Fm} {vs : List Vl} {bs : List Bd} (h : Kp w b lo sf sv sb fs vs bs) (i : Nat) (u : Value) : Kp (w.setCell ⟨b, i, none⟩ u) b lo sf sv sb fs vs bs := by
  obtain ⟨cs, hb⟩ := h.box
  exact ⟨⟨_, hb.set i u⟩, own_set hb h.f (by decide) i u, own_set hb h.v (by decide) i u, own_set hb h.b' (by decide) i u⟩
theorem Kp.own {w : World} {b lo : Nat} {sf sv sb : Value} {fs : List Fm} {vs : List Vl} {bs : List Bd} (h : Kp w b lo sf sv sb fs vs bs) (d : Bool) (p e x : Int) (h4 : fs.length ≤ 1048576) (h5 : vs.length ≤ 1048576) (h6 : bs.length ≤ 1048576) : MOwn lo w.heap.size w (.agg #[.bool d, .int .i64 p, .int .i64 e, .int .i64 x, sf, sv, sb]) ⟨d, p, e, x, fs, vs, bs⟩ :=
  ⟨_, _, _, rfl, Own.ofOwn h.f, Own.ofOwn h.v, Own.ofOwn h.b', h4, h5, h6⟩

set_option maxRecDepth 20000 in
set_option maxHeartbeats 2000000 in
theorem l6Own_any (v : Value) (m : Mc) (w : World) (h : MRow w v m) :
    Calls Tryz.prog 21 #[v] w fun e w' => ∃ v', e = .returned v' ∧ MOwn w.heap.size w'.heap.size w' v' m ∧ Below w.heap.size w w' := by
  obtain ⟨af, cf, av, cv, ab, cb, rfl, a1, a2, a3, h4, h5, h6, -, -, -⟩ := h
  have A1 := hide a1
  have A2 := hide a2
  have A3 := hide a3
  clear a1 a2 a3
  obtain ⟨d, p, e, x, fs, vs, bs⟩ := m
  simp only at h4 h5 h6 A1 A2 A3 ⊢
  obtain ⟨i1, hi1, f0, f1, f2⟩ := infoPartsT infoFm
  obtain ⟨i2, hi2, v0, v1, v2⟩ := infoPartsT infoVl
  obtain ⟨i3, hi3, b0, b1, b2⟩ := infoPartsT infoBd
  have HI1 := hide hi1
  have HI2 := hide hi2
  have HI3 := hide hi3
  clear hi1 hi2 hi3
  go_enter Tryz.func21, Tryz.ntmps21
  go_upto_region 1 with fail
  have hX := (Bx.new w #[.bool d, .int .i64 p, .int .i64 e, .int .i64 x, .slice af fs.length cf, .slice av vs.length cv, .slice ab bs.length cb] 34).alloc (.cells #[.bool false, .int .i64 0, .int .i64 0, .int .i64 0, .slice none 0 0, .slice none 0 0, .slice none 0 0] 34)
  have hY := Bx.new (w.alloc (.cells #[.bool d, .int .i64 p, .int .i64 e, .int .i64 x, .slice af fs.length cf, .slice av vs.length cv, .slice ab bs.length cb] 34)) #[.bool false, .int .i64 0, .int .i64 0, .int .i64 0, .slice none 0 0, .slice none 0 0, .slice none 0 0] 34
  rw [World.size_alloc] at hY
  have hB0 : Below w.heap.size w ((w.alloc (.cells #[.bool d, .int .i64 p, .int .i64 e, .int .i64 x, .slice af fs.length cf, .slice av vs.length cv, .slice ab bs.length cb] 34)).alloc (.cells #[.bool false, .int .i64 0, .int .i64 0, .int .i64 0, .slice none 0 0, .slice none 0 0, .slice none 0 0] 34)) := ((Below.refl _ _).alloc (Nat.le_refl _) _).alloc (by simp) _
  obtain ⟨w0, hw0⟩ : ∃ w0, w0 = (w.alloc (.cells #[.bool d, .int .i64 p, .int .i64 e, .int .i64 x, .slice af fs.length cf, .slice av vs.length cv, .slice ab bs.length cb] 34)).alloc (.cells #[.bool false, .int .i64 0, .int .i64 0, .int .i64 0, .slice none 0 0, .slice none 0 0, .slice none 0 0] 34) := ⟨_, rfl⟩
  rw [← hw0] at hX hY hB0 ⊢
  clear hw0
  have HX := hide hX
  have HY := hide hY
  have hyl := hY.lt
  have c4 : (w0.alloc (.cells #[] 93)).cell? ⟨w.heap.size, 4, none⟩ = some (.slice af fs.length cf) := (hX.alloc _).c 4
  clear hX hY
  go_wp2_with (at_builtin; refine wpList_copy rfl _ _ 30 rfl w.heap.size 93 i1 _ 4 32 Tryz.underlying30 HI1.out f0 f1 f2 rfl (by decide) (by decide) Fm.c fs (Fm.one fs) h4 w0.heap.size cf af rfl rfl (heap_alloc_new w0 _) (by omega) (RRow.below A1.out (hB0.alloc hB0.size _)) ?_)
  intro s1 w1 ho1 hg1
  have HX1 : Hid (Bx w1 w.heap.size _ _) := hide ((hg1.block _ (by simp; omega) (by simp; omega)).trans (HX.out.alloc _))
  have HY1 : Hid (Bx w1 (w.heap.size + 1) _ _) := hide ((hg1.block _ (by simp; omega) (by simp; omega)).trans (HY.out.alloc _))
  have hB1 : Below w.heap.size w w1 := Below.grown (hB0.alloc hB0.size _) hg1 (by have := hB0.size; simp; omega) (fun k hk => by simp at hk; omega)
  have HO1 := hide ho1
  obtain ⟨a1, k1, rfl⟩ := own_form ho1
  have hs1 : w.heap.size + 1 < w1.heap.size := HY1.out.lt
  clear ho1 hg1 HX HY c4
  have c4 := HX1.out.c
  have f4 := HX1.out.f
  go_upto_region 2 with fail
  have HX2 := hide (HX1.out.set 4 (.slice a1 fs.length k1))
  have HY2 := hide (HY1.out.setne w.heap.size 4 (.slice a1 fs.length k1) (by omega))
  have hB2 := bsc0 hB1 4 (.slice a1 fs.length k1)
  have HO2 := hide (own_same (w' := w1.setCell ⟨w.heap.size, 4, none⟩ (.slice a1 fs.length k1)) HO1.out (fun k hk _ hl => Below.heap_setCell _ _ _ _ (fun e' => own_bx HX1.out HO1.out (by decide) ((show k = w.heap.size from e') ▸ hk))))
  obtain ⟨w2, hw2⟩ : ∃ w2, w2 = w1.setCell ⟨w.heap.size, 4, none⟩ (.slice a1 fs.length k1) := ⟨_, rfl⟩
  rw [← hw2] at HX2 HY2 hB2 HO2 ⊢
  clear hw2 c4 f4 HX1 HY1 HO1 hB1
  have c5 := (HX2.out.alloc (.cells #[] 88)).c
  have hs2 : w.heap.size + 1 < w2.heap.size := HY2.out.lt
  go_wp2_with (at_builtin; refine wpList_copy rfl _ _ 31 rfl w.heap.size 88 i2 _ 4 32 Tryz.underlying31 HI2.out v0 v1 v2 rfl (by decide) (by decide) Vl.c vs (Vl.one vs) h5 w2.heap.size cv av rfl rfl (heap_alloc_new w2 _) (by omega) (RRow.below A2.out (hB2.alloc hB2.size _)) ?_)
  intro s3 w3 ho3 hg3
  have HX3 : Hid (Bx w3 w.heap.size _ _) := hide ((hg3.block _ (by simp; omega) (by simp; omega)).trans (HX2.out.alloc _))
  have HY3 : Hid (Bx w3 (w.heap.size + 1) _ _) := hide ((hg3.block _ (by simp; omega) (by simp; omega)).trans (HY2.out.alloc _))
  have hB3 : Below w.heap.size w w3 := Below.grown (hB2.alloc hB2.size _) hg3 (by have := hB2.size; simp; omega) (fun k hk => by simp at hk; omega)
  have HF3 := hide (own_grown (HO2.out.alloc _) hg3 (fun k hk e' => by have := (HO2.out.lt k hk).2; simp at e'; omega))
  have HO3 := hide ho3
  obtain ⟨a3, k3, rfl⟩ := own_form ho3
  have hs3 : w.heap.size + 1 < w3.heap.size := HY3.out.lt
  clear ho3 hg3 HX2 HY2 c5 HO2
  have c5 := HX3.out.c
  have f5 := HX3.out.f
  go_upto_region 3 with fail
  have HX4 := hide (HX3.out.set 5 (.slice a3 vs.length k3))
  have HY4 := hide (HY3.out.setne w.heap.size 5 (.slice a3 vs.length k3) (by omega))
  have hB4 := bsc0 hB3 5 (.slice a3 vs.length k3)
  have HF4 := hide (own_same (w' := w3.setCell ⟨w.heap.size, 5, none⟩ (.slice a3 vs.length k3)) HF3.out (fun k hk _ hl => Below.heap_setCell _ _ _ _ (fun e' => own_bx HX3.out HF3.out (by decide) ((show k = w.heap.size from e') ▸ hk))))
  have HV4 := hide (own_same (w' := w3.setCell ⟨w.heap.size, 5, none⟩ (.slice a3 vs.length k3)) HO3.out (fun k hk _ hl => Below.heap_setCell _ _ _ _ (fun e' => own_bx HX3.out HO3.out (by decide) ((show k = w.heap.size from e') ▸ hk))))
  obtain ⟨w4, hw4⟩ : ∃ w4, w4 = w3.setCell ⟨w.heap.size, 5, none⟩ (.slice a3 vs.length k3) := ⟨_, rfl⟩
  rw [← hw4] at HX4 HY4 hB4 HF4 HV4 ⊢
  clear hw4 c5 f5 HX3 HY3 HO3 hB3 HF3
  have c6 := (HX4.out.alloc (.cells #[] 85)).c
  have hs4 : w.heap.size + 1 < w4.heap.size := HY4.out.lt
  go_wp2_with (at_builtin; refine wpList_copy rfl _ _ 32 rfl w.heap.size 85 i3 _ 2 16 Tryz.underlying32 HI3.out b0 b1 b2 rfl (by decide) (by decide) Bd.c bs (Bd.one bs) h6 w4.heap.size cb ab rfl rfl (heap_alloc_new w4 _) (by omega) (RRow.below A3.out (hB4.alloc hB4.size _)) ?_)
  intro s5 w5 ho5 hg5
  have HX5 : Hid (Bx w5 w.heap.size _ _) := hide ((hg5.block _ (by simp; omega) (by simp; omega)).trans (HX4.out.alloc _))
  have HY5 : Hid (Bx w5 (w.heap.size + 1) _ _) := hide ((hg5.block _ (by simp; omega) (by simp; omega)).trans (HY4.out.alloc _))
  have hB5 : Below w.heap.size w w5 := Below.grown (hB4.alloc hB4.size _) hg5 (by have := hB4.size; simp; omega) (fun k hk => by simp at hk; omega)
  have HF5 := hide (own_grown (HF4.out.alloc _) hg5 (fun k hk e' => by have := (HF4.out.lt k hk).2; simp at e'; omega))
  have HV5 := hide (own_grown (HV4.out.alloc _) hg5 (fun k hk e' => by have := (HV4.out.lt k hk).2; simp at e'; omega))
  have HO5 := hide ho5
  obtain ⟨a5, k5, rfl⟩ := own_form ho5
  have hs5 : w.heap.size + 1 < w5.heap.size := HY5.out.lt
  clear ho5 hg5 HX4 HY4 c6 HF4 HV4
  have c6 := HX5.out.c
  have f6 := HX5.out.f
  have y6 := HY5.out.c
  have g6 := HY5.out.f
  go_wp2_with fail
  refine bodyPost_ret (v := .agg #[.bool d, .int .i64 p, .int .i64 e, .int .i64 x, .slice a1 fs.length k1, .slice a3 vs.length k3, .slice a5 bs.length k5]) (by simp [results, Tryz.results21, go_sem, y6]) rfl ⟨_, rfl, ?_, ?_⟩
  · have q0 : Kp (w5.setCell ⟨w.heap.size, 6, none⟩ (.slice a5 bs.length k5)) (w.heap.size + 1) w.heap.size (.slice a1 fs.length k1) (.slice a3 vs.length k3) (.slice a5 bs.length k5) fs vs bs :=
      ⟨⟨_, HY5.out.setne _ _ _ (by omega)⟩, own_set HX5.out HF5.out (by decide) _ _, own_set HX5.out HV5.out (by decide) _ _, own_set HX5.out HO5.out (by decide) _ _⟩
    exact (((((((q0.set 0 _).set 1 _).set 2 _).set 3 _).set 4 _).set 5 _).set 6 _).own d p e x h4 h5 h6
  · exact bsc (bsc (bsc (bsc (bsc (bsc (bsc (bsc0 hB5 _ _) _ _ _ (by omega)) _ _ _ (by omega)) _ _ _ (by omega)) _ _ _ (by omega)) _ _ _ (by omega)) _ _ _ (by omega)) _ _ _ (by omega)
end Go.Proofs.YtdajalchdbgooaaGreat.W

/-
  Contracts of l6Come and l6Next. No conditions.
-/
namespace Go.Proofs.YtdajalchdbgooaaGreat.W
open Go.ChangeShapes Go.WideShapes Go.ChangeAt Go.RowKit
set_option linter.unusedVariables false
set_option linter.unusedSimpArgs false

set_option maxHeartbeats 1000000 in
theorem l6Come_any (d : Bool) (p e x y : Int) (af av ab : Option Addr) (nf nv nb cf cv cb : Nat) (w : World) :
    Calls Tryz.prog 74 #[.agg #[.bool d, .int .i64 p, .int .i64 e, .int .i64 x, .slice af nf cf, .slice av nv cv, .slice ab nb cb], .int .i64 y] w fun r w' => r = .returned (.agg #[.bool true, .int .i64 (-1), .int .i64 (-1), .int .i64 y, .slice af nf cf, .slice av nv cv, .slice ab nb cb]) ∧ Below w.heap.size w w' := by
  go_enter Tryz.func74, Tryz.ntmps74
  go_wp2_with fail
  exact bodyPost_ret (v := .agg #[.bool true, .int .i64 (-1), .int .i64 (-1), .int .i64 y, .slice af nf cf, .slice av nv cv, .slice ab nb cb]) (by simp [results, Tryz.results74, go_sem]) rfl ⟨rfl, ((Below.refl _ _).alloc (Nat.le_refl _) _).alloc (by simp) _⟩

set_option maxHeartbeats 1000000 in
theorem l6Next_any (d : Bool) (p e x q u : Int) (af av ab : Option Addr) (nf nv nb cf cv cb : Nat) (w : World) :
    Calls Tryz.prog 75 #[.agg #[.bool d, .int .i64 p, .int .i64 e, .int .i64 x, .slice af nf cf, .slice av nv cv, .slice ab nb cb], .int .i64 q, .int .i64 u] w fun r w' => r = .returned (.agg #[.bool false, .int .i64 q, .int .i64 u, .int .i64 (-1), .slice af nf cf, .slice av nv cv, .slice ab nb cb]) ∧ Below w.heap.size w w' := by
  go_enter Tryz.func75, Tryz.ntmps75
  go_wp2_with fail
  exact bodyPost_ret (v := .agg #[.bool false, .int .i64 q, .int .i64 u, .int .i64 (-1), .slice af nf cf, .slice av nv cv, .slice ab nb cb]) (by simp [results, Tryz.results75, go_sem]) rfl ⟨rfl, ((Below.refl _ _).alloc (Nat.le_refl _) _).alloc (by simp) _⟩

end Go.Proofs.YtdajalchdbgooaaGreat.W

/-
  Contracts of l6New and l6Bind. Conditions: at most 500 values and bindings.
-/
namespace Go.Proofs.YtdajalchdbgooaaGreat.W
open Go.ChangeShapes Go.WideShapes Go.ChangeAt Go.RowKit
set_option linter.unusedVariables false
set_option linter.unusedSimpArgs false

/-- A machine of the specification whose rows are its own. -/
def SM (w : World) (lo : Nat) (v : Value) (m : Mc) : Prop := ∃ af cf av cv ab cb, v = .agg #[.bool m.done, .int .i64 m.pl, .int .i64 m.env, .int .i64 m.val, .slice af m.fs.length cf, .slice av m.vs.length cv, .slice ab m.bs.length cb] ∧
  w.ownsRow lo 93 4 (.slice af m.fs.length cf) m.fs.length (rcells 4 Fm.c m.fs) ∧ w.ownsRow lo 88 4 (.slice av m.vs.length cv) m.vs.length (rcells 4 Vl.c m.vs) ∧ w.ownsRow lo 85 2 (.slice ab m.bs.length cb) m.bs.length (rcells 2 Bd.c m.bs)
theorem SM.below {w w' : World} {lo : Nat} {v : Value} {m : Mc} (h : SM w lo v m) (hb : Below w.heap.size w w') : SM w' lo v m := by
  obtain ⟨af, cf, av, cv, ab, cb, h0, h1, h2, h3⟩ := h
  exact ⟨af, cf, av, cv, ab, cb, h0, own_keep h1 (fun k _ hk => hb.block k hk), own_keep h2 (fun k _ hk => hb.block k hk), own_keep h3 (fun k _ hk => hb.block k hk)⟩
theorem MOwn.sm {lo hi : Nat} {w : World} {v : Value} {m : Mc} (h : MOwn lo hi w v m) : SM w lo v m := by
  obtain ⟨sf, sv, sb, h0, h1, h2, h3, -⟩ := h
  obtain ⟨af, cf, rfl⟩ := own_form h1.1
  obtain ⟨av, cv, rfl⟩ := own_form h2.1
  obtain ⟨ab, cb, rfl⟩ := own_form h3.1
  exact ⟨af, cf, av, cv, ab, cb, h0, h1.1, h2.1, h3.1⟩
theorem SM.row {w : World} {lo : Nat} {v : Value} {m : Mc} (h : SM w lo v m) (h4 : m.fs.length ≤ 1048576) (h5 : m.vs.length ≤ 1048576) (h6 : m.bs.length ≤ 1048576) : MRow w v m := by
  obtain ⟨af, cf, av, cv, ab, cb, h0, h1, h2, h3⟩ := h
  exact ⟨af, cf, av, cv, ab, cb, h0, RRow.ofOwn h1 rfl, RRow.ofOwn h2 rfl, RRow.ofOwn h3 rfl, h4, h5, h6, own_cap h1, own_cap h2, own_cap h3⟩
theorem Kp.sm {w : World} {b lo : Nat} {af av ab : Option Addr} {cf cv cb : Nat} {fs : List Fm} {vs : List Vl} {bs : List Bd} (h : Kp w b lo (.slice af fs.length cf) (.slice av vs.length cv) (.slice ab bs.length cb) fs vs bs) (d : Bool) (p e x : Int) : SM w lo (.agg #[.bool d, .int .i64 p, .int .i64 e, .int .i64 x, .slice af fs.length cf, .slice av vs.length cv, .slice ab bs.length cb]) ⟨d, p, e, x, fs, vs, bs⟩ :=
  ⟨_, _, _, _, _, _, rfl, h.f, h.v, h.b'⟩
def isL : Mc ⊕ Int → Bool
  | .inl _ => true
  | .inr _ => false
def mcOf' (m : Mc) : Mc ⊕ Int → Mc
  | .inl m' => m'
  | .inr _ => m

set_option maxRecDepth 20000 in
set_option maxHeartbeats 2000000 in
theorem l6New_any (lo : Nat) (v : Value) (m : Mc) (y : Vl) (w : World) (h : SM w lo v m) (hn : m.vs.length ≤ 500) (hlo : lo ≤ w.heap.size) :
    Calls Tryz.prog 73 #[v, y.v] w fun r w' => ∃ v', r = .returned (.tuple #[v', .bool (isL (newM m y))]) ∧ SM w' lo v' (mcOf' m (newM m y)) ∧ Below lo w w' ∧ ∀ (b : Nat) (cs : Array Value) (T : TypeId), T ≠ 88 → Bx w b cs T → Bx w' b cs T := by
  obtain ⟨af, cf, av, cv, ab, cb, rfl, h1, h2, h3⟩ := h
  obtain ⟨d, p, e, x, fs, vs, bs⟩ := m
  obtain ⟨v0, v1, v2, v3⟩ := y
  simp only at h1 h2 h3 hn ⊢
  have hX := ((Bx.new w #[.bool d, .int .i64 p, .int .i64 e, .int .i64 x, .slice af fs.length cf, .slice av vs.length cv, .slice ab bs.length cb] 34).alloc (.cells #[.bool v0, .int .i64 v1, .int .i64 v2, .int .i64 v3] 88)).alloc (.cells #[.bool false, .int .i64 0, .int .i64 0, .int .i64 0, .slice none 0 0, .slice none 0 0, .slice none 0 0] 34)
  have hV := (Bx.new (w.alloc (.cells #[.bool d, .int .i64 p, .int .i64 e, .int .i64 x, .slice af fs.length cf, .slice av vs.length cv, .slice ab bs.length cb] 34)) #[.bool v0, .int .i64 v1, .int .i64 v2, .int .i64 v3] 88).alloc (.cells #[.bool false, .int .i64 0, .int .i64 0, .int .i64 0, .slice none 0 0, .slice none 0 0, .slice none 0 0] 34)
  have hY := Bx.new ((w.alloc (.cells #[.bool d, .int .i64 p, .int .i64 e, .int .i64 x, .slice af fs.length cf, .slice av vs.length cv, .slice ab bs.length cb] 34)).alloc (.cells #[.bool v0, .int .i64 v1, .int .i64 v2, .int .i64 v3] 88)) #[.bool false, .int .i64 0, .int .i64 0, .int .i64 0, .slice none 0 0, .slice none 0 0, .slice none 0 0] 34
  simp only [World.size_alloc] at hV hY
  have hB0 : Below w.heap.size w (((w.alloc (.cells #[.bool d, .int .i64 p, .int .i64 e, .int .i64 x, .slice af fs.length cf, .slice av vs.length cv, .slice ab bs.length cb] 34)).alloc (.cells #[.bool v0, .int .i64 v1, .int .i64 v2, .int .i64 v3] 88)).alloc (.cells #[.bool false, .int .i64 0, .int .i64 0, .int .i64 0, .slice none 0 0, .slice none 0 0, .slice none 0 0] 34)) := (((Below.refl _ _).alloc (Nat.le_refl _) _).alloc (by simp) _).alloc (by simp; omega) _
  have H1 := hide (own_keep h1 (fun k _ hk => hB0.block k hk))
  have H2 := hide (own_keep h2 (fun k _ hk => hB0.block k hk))
  have H3 := hide (own_keep h3 (fun k _ hk => hB0.block k hk))
  have HL2 : Hid (∀ k, (Value.slice av vs.length cv).ownBlock = some k → lo ≤ k ∧ k < w.heap.size) := hide h2.lt
  obtain ⟨i2, hi2, z0, z1, z2⟩ := infoPartsT infoVl
  have HI2 := hide hi2
  go_enter Tryz.func73, Tryz.ntmps73
  go_upto_region 1 with fail
  obtain ⟨w0, hw0⟩ : ∃ w0, w0 = ((w.alloc (.cells #[.bool d, .int .i64 p, .int .i64 e, .int .i64 x, .slice af fs.length cf, .slice av vs.length cv, .slice ab bs.length cb] 34)).alloc (.cells #[.bool v0, .int .i64 v1, .int .i64 v2, .int .i64 v3] 88)).alloc (.cells #[.bool false, .int .i64 0, .int .i64 0, .int .i64 0, .slice none 0 0, .slice none 0 0, .slice none 0 0] 34) := ⟨_, rfl⟩
  rw [← hw0] at hX hV hY hB0 H1 H2 H3 ⊢
  clear hw0 h1 h2 h3 hi2
  have HX := hide hX
  have HV := hide hV
  have HY := hide hY
  have hyl := hY.lt
  have cx := hX.c
  have fx := hX.f
  have cy := hY.c
  have fy := hY.f
  have hz0 : lo ≤ w0.heap.size := by omega
  by_cases hf : vs.length = 500
  · have hnm : newM ⟨d, p, e, x, fs, vs, bs⟩ ⟨v0, v1, v2, v3⟩ = .inr 5 := by unfold newM; rw [if_pos (by simp only; omega)]
    have hf' : ((vs.length : Nat) : Int) = 500 := by omega
    clear hX hV hY
    go_wp2_with fail
    refine bodyPost_ret (v := .tuple #[.agg #[.bool d, .int .i64 p, .int .i64 e, .int .i64 x, .slice af fs.length cf, .slice av vs.length cv, .slice ab bs.length cb], .bool false]) (by simp [results, Tryz.results73, go_sem, cy, hf]) rfl ⟨_, by rw [hnm]; rfl, ?_, ?_, fun bb cs TT hTT hbx => (((((((hbx.below hB0 hbx.lt).setne (w.heap.size + 1 + 1) 0 _ (by have := hbx.lt; omega)).setne (w.heap.size + 1 + 1) 1 _ (by have := hbx.lt; omega)).setne (w.heap.size + 1 + 1) 2 _ (by have := hbx.lt; omega)).setne (w.heap.size + 1 + 1) 3 _ (by have := hbx.lt; omega)).setne (w.heap.size + 1 + 1) 4 _ (by have := hbx.lt; omega)).setne (w.heap.size + 1 + 1) 5 _ (by have := hbx.lt; omega)).setne (w.heap.size + 1 + 1) 6 _ (by have := hbx.lt; omega)⟩
    · rw [hnm]
      have q0 : Kp w0 (w.heap.size + 1 + 1) lo (.slice af fs.length cf) (.slice av vs.length cv) (.slice ab bs.length cb) fs vs bs := ⟨⟨_, HY.out⟩, H1.out, H2.out, H3.out⟩
      exact (((((((q0.set 0 _).set 1 _).set 2 _).set 3 _).set 4 _).set 5 _).set 6 _).sm d p e x
    · exact bsc (bsc (bsc (bsc (bsc (bsc (bsc (hB0.mono hlo) _ _ _ (by omega)) _ _ _ (by omega)) _ _ _ (by omega)) _ _ _ (by omega)) _ _ _ (by omega)) _ _ _ (by omega)) _ _ _ (by omega)
  · have hf' : ¬ ((vs.length : Nat) : Int) = 500 := by omega
    have hnm : newM ⟨d, p, e, x, fs, vs, bs⟩ ⟨v0, v1, v2, v3⟩ = .inl ⟨true, -1, -1, (vs.length : Int), fs, vs ++ [⟨v0, v1, v2, v3⟩], bs⟩ := by unfold newM; rw [if_neg (by simp only; omega)]; rfl
    have HNm := hide hnm
    have cv0 := hV.c
    have cxa := (hX.alloc (.cells #[.bool v0, .int .i64 v1, .int .i64 v2, .int .i64 v3] 88)).c
    have M1 : Hid (vs.length + 1 ≤ maxLen) := hide (by unfold maxLen; omega)
    have HO1 : Hid (∀ u ∈ [Value.bool v0, .int .i64 v1, .int .i64 v2, .int .i64 v3], u.oneCell' = true) := hide (by intro u hu; simp only [List.mem_cons, List.not_mem_nil, or_false] at hu; rcases hu with rfl | rfl | rfl | rfl <;> rfl)
    clear hX hV hY hnm
    go_upto_region 3 with fail
    go_wp2_with (at_builtin; refine wpList_append_sep rfl _ _ 31 rfl lo 88 i2 _ 4 32 Tryz.underlying31 HI2.out z0 z1 z2 rfl (by decide) _ vs.length _ rfl (H2.out.alloc _) ⟨w0.heap.size, 0, none⟩ 1 1 [.bool v0, .int .i64 v1, .int .i64 v2, .int .i64 v3] rfl rfl (news4 (heap_alloc_new w0 _)) HO1.out M1.out (by omega) (by simp; omega) ?_)
    intro s1 w1 ho1 hg1 hap1
    clear hap1
    have hb1 : ∀ k, k < w0.heap.size → some k ≠ (Value.slice av vs.length cv).ownBlock → w1.heap[k]? = w0.heap[k]? := fun k hk hne => (hg1.block k (by simp; omega) hne).trans (Below.heap_alloc _ _ _ hk)
    have HX1 : Hid (Bx w1 w.heap.size _ _) := hide ((hb1 _ (by omega) (fun e' => by have := HL2.out _ e'.symm; omega)).trans HX.out)
    have HY1 : Hid (Bx w1 (w.heap.size + 1 + 1) _ _) := hide ((hb1 _ hyl (fun e' => by have := HL2.out _ e'.symm; omega)).trans HY.out)
    have d1 := own_apart H1.out H2.out (by decide)
    have d3 := own_apart H3.out H2.out (by decide)
    have HF1 := hide (own_same (w' := w1) H1.out (fun k hk _ hl => hb1 k hl (fun e' => d1 k hk e'.symm)))
    have HB1 := hide (own_same (w' := w1) H3.out (fun k hk _ hl => hb1 k hl (fun e' => d3 k hk e'.symm)))
    have hB1 : Below lo w w1 := Below.grown ((hB0.mono hlo).alloc hz0 _) hg1 (by simp; omega) (fun k hk => (HL2.out k hk).1)
    have HK1 : Hid (∀ (b : Nat) (cs : Array Value) (T : TypeId), T ≠ 88 → Bx w b cs T → Bx w1 b cs T) := hide (fun bb cs TT hTT hbx => (hb1 bb (by have := hbx.lt; omega) (fun e' => own_bx (hbx.below hB0 hbx.lt) H2.out hTT e'.symm)).trans (hbx.below hB0 hbx.lt))
    have HO1' := hide ho1
    obtain ⟨a1, k1, rfl⟩ := own_form ho1
    have hs1 : w.heap.size + 1 + 1 < w1.heap.size := HY1.out.lt
    clear ho1 hg1 hb1 cx fx cy fy cv0 cxa d1 d3 HX HY HV H1 H2 H3 HO1 M1
    have cx := HX1.out.c
    have fx := HX1.out.f
    go_upto_region 4 with fail
    have HX2 := hide (HX1.out.set 5 (.slice a1 (vs.length + 1) k1))
    have HY2 := hide (HY1.out.setne w.heap.size 5 (.slice a1 (vs.length + 1) k1) (by omega))
    have hB2 := bsc hB1 w.heap.size 5 (.slice a1 (vs.length + 1) k1) hlo
    have HF2 := hide (own_set HX1.out HF1.out (by decide) 5 (.slice a1 (vs.length + 1) k1))
    have HV2 := hide (own_set HX1.out HO1'.out (by decide) 5 (.slice a1 (vs.length + 1) k1))
    have HB2 := hide (own_set HX1.out HB1.out (by decide) 5 (.slice a1 (vs.length + 1) k1))
    have HK2 : Hid (∀ (b : Nat) (cs : Array Value) (T : TypeId), T ≠ 88 → Bx w b cs T → Bx (w1.setCell ⟨w.heap.size, 5, none⟩ (.slice a1 (vs.length + 1) k1)) b cs T) := hide (fun bb cs TT hTT hbx => (HK1.out bb cs TT hTT hbx).setne _ _ _ (by have := hbx.lt; omega))
    obtain ⟨w2, hw2⟩ : ∃ w2, w2 = w1.setCell ⟨w.heap.size, 5, none⟩ (.slice a1 (vs.length + 1) k1) := ⟨_, rfl⟩
    rw [← hw2] at HX2 HY2 hB2 HF2 HV2 HB2 HK2 ⊢
    clear hw2 cx fx HX1 HY1 HF1 HB1 HO1' hB1
    have cx2 := HX2.out.c
    have hvn : IntKind.i64.wrap (((vs.length + 1 : Nat) : Int) - 1) = ((vs.length : Nat) : Int) := by rw [show ((vs.length + 1 : Nat) : Int) - 1 = ((vs.length : Nat) : Int) by omega]; exact IntWalk.i64_in _ ⟨by omega, by omega⟩
    go_wp2_with fail
    refine (l6Come_any _ _ _ _ _ _ _ _ _ _ _ _ _ _ _).mono ?_
    rintro r w3 ⟨rfl, hb3⟩
    have HY3 := hide (HY2.out.below hb3 HY2.out.lt)
    have HF3 := hide (own_keep HF2.out (fun k _ hk => hb3.block k hk))
    have HV3 := hide (own_keep HV2.out (fun k _ hk => hb3.block k hk))
    have HB3 := hide (own_keep HB2.out (fun k _ hk => hb3.block k hk))
    have hB3 : Below lo w w3 := hB2.trans (hb3.mono (Nat.le_trans hlo hB2.size))
    have HK3 : Hid (∀ (b : Nat) (cs : Array Value) (T : TypeId), T ≠ 88 → Bx w b cs T → Bx w3 b cs T) := hide (fun bb cs TT hTT hbx => (HK2.out bb cs TT hTT hbx).below hb3 (HK2.out bb cs TT hTT hbx).lt)
    have cy3 := HY3.out.c
    have fy3 := HY3.out.f
    clear hb3 cx2 HX2 HY2 HF2 HV2 HB2
    go_wp2_with fail
    refine bodyPost_ret (v := .tuple #[.agg #[.bool true, .int .i64 (-1), .int .i64 (-1), .int .i64 (vs.length : Int), .slice af fs.length cf, .slice a1 (vs.length + 1) k1, .slice ab bs.length cb], .bool true]) (by simp [results, Tryz.results73, go_sem, cy3]) rfl ⟨_, by rw [HNm.out]; rfl, ?_, ?_, fun bb cs TT hTT hbx => (((((((HK3.out bb cs TT hTT hbx).setne (w.heap.size + 1 + 1) 0 _ (by have := hbx.lt; omega)).setne (w.heap.size + 1 + 1) 1 _ (by have := hbx.lt; omega)).setne (w.heap.size + 1 + 1) 2 _ (by have := hbx.lt; omega)).setne (w.heap.size + 1 + 1) 3 _ (by have := hbx.lt; omega)).setne (w.heap.size + 1 + 1) 4 _ (by have := hbx.lt; omega)).setne (w.heap.size + 1 + 1) 5 _ (by have := hbx.lt; omega)).setne (w.heap.size + 1 + 1) 6 _ (by have := hbx.lt; omega)⟩
    · rw [HNm.out]
      have e1 : (vs ++ [(⟨v0, v1, v2, v3⟩ : Vl)]).length = vs.length + 1 := by simp
      have hv3 := HV3.out
      rw [show rcells 4 Vl.c vs ++ [.bool v0, .int .i64 v1, .int .i64 v2, .int .i64 v3] = rcells 4 Vl.c (vs ++ [⟨v0, v1, v2, v3⟩]) from by rw [lies_v]; rfl, ← e1] at hv3
      have q0 : Kp w3 (w.heap.size + 1 + 1) lo (.slice af fs.length cf) (.slice a1 (vs ++ [(⟨v0, v1, v2, v3⟩ : Vl)]).length k1) (.slice ab bs.length cb) fs (vs ++ [⟨v0, v1, v2, v3⟩]) bs := ⟨⟨_, HY3.out⟩, HF3.out, hv3, HB3.out⟩
      have := (((((((q0.set 0 (.bool true)).set 1 (.int .i64 (-1))).set 2 (.int .i64 (-1))).set 3 (.int .i64 (vs.length : Int))).set 4 (.slice af fs.length cf)).set 5 (.slice a1 (vs.length + 1) k1)).set 6 (.slice ab bs.length cb)).sm true (-1) (-1) (vs.length : Int)
      simp only [e1] at this
      exact this
    · exact bsc (bsc (bsc (bsc (bsc (bsc (bsc hB3 _ _ _ (by omega)) _ _ _ (by omega)) _ _ _ (by omega)) _ _ _ (by omega)) _ _ _ (by omega)) _ _ _ (by omega)) _ _ _ (by omega)
end Go.Proofs.YtdajalchdbgooaaGreat.W

/-
  Contracts of slices.Clone at a machine's rows and of copiedMachine. Conditions: rows of at most 1048576. Written by wip/build/mk_stepm.py.
-/
namespace Go.Proofs.YtdajalchdbgooaaGreat.W
open Go.ChangeShapes Go.WideShapes Go.ChangeAt Go.RowKit
set_option linter.unusedVariables false
set_option linter.unusedSimpArgs false

set_option maxRecDepth 20000 in
set_option maxHeartbeats 2000000 in
theorem cloneFm_any (ad : Option Addr) (c : Nat) (l : List Fm) (w : World) (hl : l.length ≤ 1048576) (h : FmRow w ad l) :
    Calls Tryz.prog 58 #[.slice ad l.length c] w fun e w' => ∃ v, e = .returned v ∧ w'.ownsRow w.heap.size 93 4 v l.length (rcells 4 Fm.c l) ∧ Below w.heap.size w w' := by
  obtain ⟨i0, hi0, z0, z1, z2⟩ := infoPartsT infoFm
  have HI := hide hi0
  have HR := hide h
  cases ad with
  | none =>
    have hl0 : l = [] := by
      rcases h with h1 | ⟨b, o, h1, -⟩
      · exact h1
      · cases h1
    subst hl0
    clear hi0 h
    have hnil : ∀ w, (binOp .eql 30 (.slice none 0 c) (.slice none 0 0)).run Tryz.prog w = .ok (.bool true) w := fun w => by rw [Lib.run_eql_slice_nil w 30 93 _ _ _ _ _ Tryz.underlying30]; rfl
    simp only [List.length_nil]
    go_enter Tryz.func58, Tryz.ntmps58
    go_wp2_with fail
    go_ret
    exact ⟨_, rfl, World.ownsRow_nil _ _ _ _, Below.refl _ _⟩
  | some a =>
    obtain ⟨b, o, sp⟩ := a
    have hnil : ∀ w, (binOp .eql 30 (.slice (some ⟨b, o, sp⟩) l.length c) (.slice none 0 0)).run Tryz.prog w = .ok (.bool false) w := fun w => by rw [Lib.run_eql_slice_nil w 30 93 _ _ _ _ _ Tryz.underlying30]; rfl
    have hb0 : Below w.heap.size w (w.alloc (.cells #[] 93)) := (Below.refl _ _).alloc (Nat.le_refl _) _
    clear hi0 h
    go_enter Tryz.func58, Tryz.ntmps58
    go_wp2_with (at_builtin; refine wpList_copy rfl _ _ 30 rfl w.heap.size 93 i0 _ 4 32 Tryz.underlying30 HI.out z0 z1 z2 rfl (by decide) (by decide) Fm.c l (Fm.one l) hl w.heap.size c (some ⟨b, o, sp⟩) rfl rfl (heap_alloc_new w _) (Nat.le_refl _) (RRow.below HR.out hb0) ?_)
    intro v1 w1 ho1 hg1
    have hB1 : Below w.heap.size w w1 := Below.grown hb0 hg1 (by simp) (fun k hk => by simp at hk; omega)
    have HO1 := hide ho1
    clear ho1 hg1 hnil
    go_wp2_with fail
    go_ret
    exact ⟨_, rfl, HO1.out, hB1⟩

set_option maxRecDepth 20000 in
set_option maxHeartbeats 2000000 in
theorem cloneVl_any (ad : Option Addr) (c : Nat) (l : List Vl) (w : World) (hl : l.length ≤ 1048576) (h : VlRow w ad l) :
    Calls Tryz.prog 59 #[.slice ad l.length c] w fun e w' => ∃ v, e = .returned v ∧ w'.ownsRow w.heap.size 88 4 v l.length (rcells 4 Vl.c l) ∧ Below w.heap.size w w' := by
  obtain ⟨i0, hi0, z0, z1, z2⟩ := infoPartsT infoVl
  have HI := hide hi0
  have HR := hide h
  cases ad with
  | none =>
    have hl0 : l = [] := by
      rcases h with h1 | ⟨b, o, h1, -⟩
      · exact h1
      · cases h1
    subst hl0
    clear hi0 h
    have hnil : ∀ w, (binOp .eql 31 (.slice none 0 c) (.slice none 0 0)).run Tryz.prog w = .ok (.bool true) w := fun w => by rw [Lib.run_eql_slice_nil w 31 88 _ _ _ _ _ Tryz.underlying31]; rfl
    simp only [List.length_nil]
    go_enter Tryz.func59, Tryz.ntmps59
    go_wp2_with fail
    go_ret
    exact ⟨_, rfl, World.ownsRow_nil _ _ _ _, Below.refl _ _⟩
  | some a =>
    obtain ⟨b, o, sp⟩ := a
    have hnil : ∀ w, (binOp .eql 31 (.slice (some ⟨b, o, sp⟩) l.length c) (.slice none 0 0)).run Tryz.prog w = .ok (.bool false) w := fun w => by rw [Lib.run_eql_slice_nil w 31 88 _ _ _ _ _ Tryz.underlying31]; rfl
    have hb0 : Below w.heap.size w (w.alloc (.cells #[] 88)) := (Below.refl _ _).alloc (Nat.le_refl _) _
    clear hi0 h
    go_enter Tryz.func59, Tryz.ntmps59
    go_wp2_with (at_builtin; refine wpList_copy rfl _ _ 31 rfl w.heap.size 88 i0 _ 4 32 Tryz.underlying31 HI.out z0 z1 z2 rfl (by decide) (by decide) Vl.c l (Vl.one l) hl w.heap.size c (some ⟨b, o, sp⟩) rfl rfl (heap_alloc_new w _) (Nat.le_refl _) (RRow.below HR.out hb0) ?_)
    intro v1 w1 ho1 hg1
    have hB1 : Below w.heap.size w w1 := Below.grown hb0 hg1 (by simp) (fun k hk => by simp at hk; omega)
    have HO1 := hide ho1
    clear ho1 hg1 hnil
    go_wp2_with fail
    go_ret
    exact ⟨_, rfl, HO1.out, hB1⟩

set_option maxRecDepth 20000 in
set_option maxHeartbeats 2000000 in
theorem cloneBd_any (ad : Option Addr) (c : Nat) (l : List Bd) (w : World) (hl : l.length ≤ 1048576) (h : BdRow w ad l) :
    Calls Tryz.prog 60 #[.slice ad l.length c] w fun e w' => ∃ v, e = .returned v ∧ w'.ownsRow w.heap.size 85 2 v l.length (rcells 2 Bd.c l) ∧ Below w.heap.size w w' := by
  obtain ⟨i0, hi0, z0, z1, z2⟩ := infoPartsT infoBd
  have HI := hide hi0
  have HR := hide h
  cases ad with
  | none =>
    have hl0 : l = [] := by
      rcases h with h1 | ⟨b, o, h1, -⟩
      · exact h1
      · cases h1
    subst hl0
    clear hi0 h
    have hnil : ∀ w, (binOp .eql 32 (.slice none 0 c) (.slice none 0 0)).run Tryz.prog w = .ok (.bool true) w := fun w => by rw [Lib.run_eql_slice_nil w 32 85 _ _ _ _ _ Tryz.underlying32]; rfl
    simp only [List.length_nil]
    go_enter Tryz.func60, Tryz.ntmps60
    go_wp2_with fail
    go_ret
    exact ⟨_, rfl, World.ownsRow_nil _ _ _ _, Below.refl _ _⟩
  | some a =>
    obtain ⟨b, o, sp⟩ := a
    have hnil : ∀ w, (binOp .eql 32 (.slice (some ⟨b, o, sp⟩) l.length c) (.slice none 0 0)).run Tryz.prog w = .ok (.bool false) w := fun w => by rw [Lib.run_eql_slice_nil w 32 85 _ _ _ _ _ Tryz.underlying32]; rfl
    have hb0 : Below w.heap.size w (w.alloc (.cells #[] 85)) := (Below.refl _ _).alloc (Nat.le_refl _) _
    clear hi0 h
    go_enter Tryz.func60, Tryz.ntmps60
    go_wp2_with (at_builtin; refine wpList_copy rfl _ _ 32 rfl w.heap.size 85 i0 _ 2 16 Tryz.underlying32 HI.out z0 z1 z2 rfl (by decide) (by decide) Bd.c l (Bd.one l) hl w.heap.size c (some ⟨b, o, sp⟩) rfl rfl (heap_alloc_new w _) (Nat.le_refl _) (RRow.below HR.out hb0) ?_)
    intro v1 w1 ho1 hg1
    have hB1 : Below w.heap.size w w1 := Below.grown hb0 hg1 (by simp) (fun k hk => by simp at hk; omega)
    have HO1 := hide ho1
    clear ho1 hg1 hnil
    go_wp2_with fail
    go_ret
    exact ⟨_, rfl, HO1.out, hB1⟩

set_option maxRecDepth 20000 in
set_option maxHeartbeats 2000000 in
theorem copied_any (v : Value) (m : Mc) (w : World) (h : MRow w v m) :
    Calls Tryz.prog 27 #[v] w fun e w' => ∃ v', e = .returned v' ∧ MOwn w.heap.size w'.heap.size w' v' m ∧ Below w.heap.size w w' := by
  obtain ⟨af, cf, av, cv, ab, cb, rfl, a1, a2, a3, h4, h5, h6, -, -, -⟩ := h
  obtain ⟨d, p, e, x, fs, vs, bs⟩ := m
  simp only at a1 a2 a3 h4 h5 h6 ⊢
  have C1 := hide (fun (w' : World) (hb : Below w.heap.size w w') => cloneFm_any af cf fs w' h4 (a1.below hb))
  have C2 := hide (fun (w' : World) (hb : Below w.heap.size w w') => cloneVl_any av cv vs w' h5 (a2.below hb))
  have C3 := hide (fun (w' : World) (hb : Below w.heap.size w w') => cloneBd_any ab cb bs w' h6 (a3.below hb))
  clear a1 a2 a3
  go_enter Tryz.func27, Tryz.ntmps27
  go_upto_region 1 with fail
  have hX := (Bx.new w #[.bool d, .int .i64 p, .int .i64 e, .int .i64 x, .slice af fs.length cf, .slice av vs.length cv, .slice ab bs.length cb] 34).alloc (.cells #[.bool false, .int .i64 0, .int .i64 0, .int .i64 0, .slice none 0 0, .slice none 0 0, .slice none 0 0] 34)
  have hY := Bx.new (w.alloc (.cells #[.bool d, .int .i64 p, .int .i64 e, .int .i64 x, .slice af fs.length cf, .slice av vs.length cv, .slice ab bs.length cb] 34)) #[.bool false, .int .i64 0, .int .i64 0, .int .i64 0, .slice none 0 0, .slice none 0 0, .slice none 0 0] 34
  rw [World.size_alloc] at hY
  have hB0 : Below w.heap.size w ((w.alloc (.cells #[.bool d, .int .i64 p, .int .i64 e, .int .i64 x, .slice af fs.length cf, .slice av vs.length cv, .slice ab bs.length cb] 34)).alloc (.cells #[.bool false, .int .i64 0, .int .i64 0, .int .i64 0, .slice none 0 0, .slice none 0 0, .slice none 0 0] 34)) := ((Below.refl _ _).alloc (Nat.le_refl _) _).alloc (by simp) _
  obtain ⟨w0, hw0⟩ : ∃ w0, w0 = (w.alloc (.cells #[.bool d, .int .i64 p, .int .i64 e, .int .i64 x, .slice af fs.length cf, .slice av vs.length cv, .slice ab bs.length cb] 34)).alloc (.cells #[.bool false, .int .i64 0, .int .i64 0, .int .i64 0, .slice none 0 0, .slice none 0 0, .slice none 0 0] 34) := ⟨_, rfl⟩
  rw [← hw0] at hX hY hB0 ⊢
  clear hw0
  have HX := hide hX
  have HY := hide hY
  have hyl := hY.lt
  have c4 := hX.c
  clear hX hY
  go_wp2_with fail
  refine (C1.out _ hB0).mono ?_
  rintro r w1 ⟨s1, rfl, ho1, hb1⟩
  have HX1 := hide (HX.out.below hb1 HX.out.lt)
  have HY1 := hide (HY.out.below hb1 hyl)
  have hB1 : Below w.heap.size w w1 := hB0.trans (hb1.mono hB0.size)
  have HO1 := hide (own_lower ho1 hB0.size)
  obtain ⟨a1, k1, rfl⟩ := own_form ho1
  have hs1 : w.heap.size + 1 < w1.heap.size := HY1.out.lt
  clear ho1 hb1 HX HY c4
  have c4 := HX1.out.c
  have f4 := HX1.out.f
  go_upto_region 2 with fail
  have HX2 := hide (HX1.out.set 4 (.slice a1 fs.length k1))
  have HY2 := hide (HY1.out.setne w.heap.size 4 (.slice a1 fs.length k1) (by omega))
  have hB2 := bsc0 hB1 4 (.slice a1 fs.length k1)
  have HO2 := hide (own_set HX1.out HO1.out (by decide) 4 (.slice a1 fs.length k1))
  obtain ⟨w2, hw2⟩ : ∃ w2, w2 = w1.setCell ⟨w.heap.size, 4, none⟩ (.slice a1 fs.length k1) := ⟨_, rfl⟩
  rw [← hw2] at HX2 HY2 hB2 HO2 ⊢
  clear hw2 c4 f4 HX1 HY1 HO1 hB1
  have c5 := HX2.out.c
  have hs2 : w.heap.size + 1 < w2.heap.size := HY2.out.lt
  go_wp2_with fail
  refine (C2.out _ hB2).mono ?_
  rintro r w3 ⟨s3, rfl, ho3, hb3⟩
  have HX3 := hide (HX2.out.below hb3 HX2.out.lt)
  have HY3 := hide (HY2.out.below hb3 hs2)
  have hB3 : Below w.heap.size w w3 := hB2.trans (hb3.mono hB2.size)
  have HF3 := hide (own_keep HO2.out (fun k _ hk => hb3.block k hk))
  have HO3 := hide (own_lower ho3 hB2.size)
  obtain ⟨a3, k3, rfl⟩ := own_form ho3
  have hs3 : w.heap.size + 1 < w3.heap.size := HY3.out.lt
  clear ho3 hb3 HX2 HY2 c5 HO2
  have c5 := HX3.out.c
  have f5 := HX3.out.f
  go_upto_region 3 with fail
  have HX4 := hide (HX3.out.set 5 (.slice a3 vs.length k3))
  have HY4 := hide (HY3.out.setne w.heap.size 5 (.slice a3 vs.length k3) (by omega))
  have hB4 := bsc0 hB3 5 (.slice a3 vs.length k3)
  have HF4 := hide (own_set HX3.out HF3.out (by decide) 5 (.slice a3 vs.length k3))
  have HV4 := hide (own_set HX3.out HO3.out (by decide) 5 (.slice a3 vs.length k3))
  obtain ⟨w4, hw4⟩ : ∃ w4, w4 = w3.setCell ⟨w.heap.size, 5, none⟩ (.slice a3 vs.length k3) := ⟨_, rfl⟩
  rw [← hw4] at HX4 HY4 hB4 HF4 HV4 ⊢
  clear hw4 c5 f5 HX3 HY3 HO3 hB3 HF3
  have c6 := HX4.out.c
  have hs4 : w.heap.size + 1 < w4.heap.size := HY4.out.lt
  go_wp2_with fail
  refine (C3.out _ hB4).mono ?_
  rintro r w5 ⟨s5, rfl, ho5, hb5⟩
  have HX5 := hide (HX4.out.below hb5 HX4.out.lt)
  have HY5 := hide (HY4.out.below hb5 hs4)
  have hB5 : Below w.heap.size w w5 := hB4.trans (hb5.mono hB4.size)
  have HF5 := hide (own_keep HF4.out (fun k _ hk => hb5.block k hk))
  have HV5 := hide (own_keep HV4.out (fun k _ hk => hb5.block k hk))
  have HO5 := hide (own_lower ho5 hB4.size)
  obtain ⟨a5, k5, rfl⟩ := own_form ho5
  have hs5 : w.heap.size + 1 < w5.heap.size := HY5.out.lt
  clear ho5 hb5 HX4 HY4 c6 HF4 HV4
  have c6 := HX5.out.c
  have f6 := HX5.out.f
  have y6 := HY5.out.c
  have g6 := HY5.out.f
  go_wp2_with fail
  refine bodyPost_ret (v := .agg #[.bool d, .int .i64 p, .int .i64 e, .int .i64 x, .slice a1 fs.length k1, .slice a3 vs.length k3, .slice a5 bs.length k5]) (by simp [results, Tryz.results27, go_sem, y6]) rfl ⟨_, rfl, ?_, ?_⟩
  · have q0 : Kp (w5.setCell ⟨w.heap.size, 6, none⟩ (.slice a5 bs.length k5)) (w.heap.size + 1) w.heap.size (.slice a1 fs.length k1) (.slice a3 vs.length k3) (.slice a5 bs.length k5) fs vs bs :=
      ⟨⟨_, HY5.out.setne _ _ _ (by omega)⟩, own_set HX5.out HF5.out (by decide) _ _, own_set HX5.out HV5.out (by decide) _ _, own_set HX5.out HO5.out (by decide) _ _⟩
    exact (((((((q0.set 0 _).set 1 _).set 2 _).set 3 _).set 4 _).set 5 _).set 6 _).own d p e x h4 h5 h6
  · exact bsc (bsc (bsc (bsc (bsc (bsc (bsc (bsc0 hB5 _ _) _ _ _ (by omega)) _ _ _ (by omega)) _ _ _ (by omega)) _ _ _ (by omega)) _ _ _ (by omega)) _ _ _ (by omega)) _ _ _ (by omega)
end Go.Proofs.YtdajalchdbgooaaGreat.W

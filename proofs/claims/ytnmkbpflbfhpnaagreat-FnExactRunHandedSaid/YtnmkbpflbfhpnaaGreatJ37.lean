/-
  Some texts of this proof in one: HnZ, CeO.
-/
import Derived.Test.YtnmkbpflbfhpnaaGreatJ17
import Derived.Test.YtnmkbpflbfhpnaaGreatJ28
import Derived.Test.YtnmkbpflbfhpnaaGreatJ36
import Derived.Test.YtnmkbpflbfhpnaaGreatJ00
import Derived.Deep.Slices
import Derived.Lib.SmallJoins
import Derived.ChangeOld
/-
  RunHanded of the specification. Conditions: at most 1048576 cells.
-/
namespace Go.Proofs.YtnmkbpflbfhpnaaGreat.W
open Go.ChangeShapes Go.WideShapes Go.ChangeAt Go.RowKit
set_option linter.unusedVariables false

set_option maxRecDepth 20000 in
set_option maxHeartbeats 4000000 in
theorem specRunHanded_any (ad : Option Addr) (c : Nat) (l : List Cc) (q : Int) (w : World) (hl : l.length ≤ 1048576) (h : CRow w ad l) :
    Calls Tryz.prog 7 #[.slice ad l.length c, .int .i64 q] w fun e w' => e = .returned (.tuple #[.int .i64 (rhC l q), .int .i64 (rhN l q), .bool (rhB l q)]) ∧ Below w.heap.size w w' := by
  have HC := hide (l7Of_any ad c l w hl h)
  unfold OfV at HC
  have HLn := hide (hoL_len l)
  clear h
  cases hB : hoB l with
  | false =>
    obtain ⟨e1, e2, e3⟩ := rh_no (q := q) hB
    rw [e1, e2, e3]
    rw [hB] at HC
    clear e1 e2 e3 hB
    go_enter Tryz.func7, Tryz.ntmps7
    go_wp2_with fail
    refine Calls.mono HC.out ?_
    rintro e w1 ⟨he, hb1⟩
    have he' : e = .returned (.tuple #[.agg #[.int .i64 0, .int .i64 0, .slice none 0 0], .bool false]) := he
    subst he'
    clear HC he
    go_wp2_with fail
    exact bodyPost_ret (v := .tuple #[.int .i64 0, .int .i64 0, .bool false]) (by simp [results, Tryz.results7, go_sem]) rfl ⟨rfl, hb1.alloc hb1.size _⟩
  | true =>
    obtain ⟨e1, e2, e3⟩ := rh_yes (q := q) hB
    rw [e1, e2, e3]
    rw [hB] at HC
    have HBt := hide hB
    have HRL := hide (rhL_len l)
    have HRn : Hid (∀ (ad : Option Addr) (c base : Nat) (w : World), w.ownsRow base 46 2 (.slice ad (rhL l).length c) (rhL l).length (cv (rhL l)) → Calls Tryz.prog 17 #[.slice ad (rhL l).length c, .int .i64 q] w fun e w' => e = .returned (.tuple #[.int .i64 (rnR (rhL l) q).1, .int .i64 (rnR (rhL l) q).2.1, .int .i64 (rnR (rhL l) q).2.2, .bool (pmO (rhL l) q)]) ∧ Below w.heap.size w w') := hide (fun ad c base w h => by
      obtain ⟨ad', c', e, -, hr⟩ := cOwn_row h
      simp only [Value.slice.injEq, true_and] at e
      obtain ⟨rfl, rfl⟩ := e
      exact specRun_any ad c (rhL l) q w (by have := HRL.out; omega) hr)
    have HNo : Hid (pmO (rhL l) q = false → (rnR (rhL l) q).1 = 0 ∧ (rnR (rhL l) q).2.1 = 0) := hide (fun h => by rw [rn_not h]; exact ⟨rfl, rfl⟩)
    obtain ⟨R1, hR1⟩ : ∃ R1, R1 = (rnR (rhL l) q).1 := ⟨_, rfl⟩
    obtain ⟨R2, hR2⟩ : ∃ R2, R2 = (rnR (rhL l) q).2.1 := ⟨_, rfl⟩
    obtain ⟨R3, hR3⟩ : ∃ R3, R3 = (rnR (rhL l) q).2.2 := ⟨_, rfl⟩
    obtain ⟨R4, hR4⟩ : ∃ R4, R4 = pmO (rhL l) q := ⟨_, rfl⟩
    rw [← hR1, ← hR2, ← hR3, ← hR4] at HRn
    rw [← hR1, ← hR2, ← hR4] at HNo ⊢
    clear e1 e2 e3 hB hR1 hR2 hR3 hR4
    go_enter Tryz.func7, Tryz.ntmps7
    go_wp2_with fail
    refine Calls.mono HC.out ?_
    rintro e w1 ⟨he, hb1⟩
    have he' : ∃ b v, hoR l = some b ∧ e = .returned (.tuple #[v, .bool true]) ∧ TV w1 AnyQ b v := he
    obtain ⟨b, v, hR, rfl, hv⟩ := he'
    have hLe := hoL_some hR HBt.out
    have hv' := hv
    obtain ⟨x, k, s, hbe, rfl, hK⟩ := hv'
    obtain ⟨sad, sc, rfl⟩ := hK.form
    obtain ⟨KL, hKL⟩ : ∃ KL, KL = k.len := ⟨_, rfl⟩
    rw [← hKL] at hv ⊢
    have hrh : rhL l = (appT b (lamT (varT 0))).flat := by
      unfold rhL
      rw [hLe]
      simp [appT, lamT, varT, F.flat, F.app_flat]
    have hsm : (appT b (lamT (varT 0))).flat.length ≤ 603 := by rw [← hrh]; exact HRL.out
    have HFl : Hid (∀ (v : Value) (w' : World), TV w' AnyQ (appT b (lamT (varT 0))) v → Calls Tryz.prog 18 #[v, .slice none 0 0] w' fun e w'' => ∃ v', e = .returned v' ∧ w''.ownsRow w'.heap.size 46 2 v' (rhL l).length (cv (rhL l)) ∧ Below w'.heap.size w' w'') := hide (fun v w' hT => by
      obtain ⟨x', k', s', e1, rfl, hk'⟩ := hT
      have e2 : (appT b (lamT (varT 0))).flat = x' :: k'.flat := by rw [e1]; simp [F.flat]
      have hl' : 0 + (k'.flat.length + 1) = (rhL l).length := by rw [hrh, e2]; simp
      refine Calls.mono (l3Flat_any k' x' s' (.slice none 0 0) w'.heap.size 0 [] AnyQ w' (fun g _ _ h => by cases h) (by rw [hl']; have := HRL.out; omega) (Nat.le_refl _) hk' (World.ownsRow_nil _ _ _ _)) ?_
      rintro e w'' ⟨v', rfl, ho, hg, -⟩
      rw [hl', List.nil_append, ← e2, ← hrh] at ho
      exact ⟨v', rfl, ho, ⟨hg.os, hg.tape, hg.output, hg.size, fun k hk => hg.block k hk (fun h => by cases h)⟩⟩)
    have HB1 := hide hb1
    have HV := hide hv
    obtain ⟨ML, hML⟩ : ∃ ML, ML = (rhL l).length := ⟨_, rfl⟩
    rw [← hML] at HFl HRn
    clear he hR hLe hK hKL hb1 HC hv hbe hrh hsm hML
    go_wp2_with fail
    obtain ⟨w0, hw0⟩ : ∃ w0, w0 = w1.alloc (.cells #[.int .i64 x.k, .int .i64 x.n, .slice sad KL sc] 50) := ⟨_, rfl⟩
    rw [← hw0]
    have hbx : w0.heap[w1.heap.size]? = some (.cells #[.int .i64 x.k, .int .i64 x.n, .slice sad KL sc] 50) := by rw [hw0]; exact heap_alloc_new _ _
    have hlx : w1.heap.size < w0.heap.size := by rw [hw0]; simp
    have HVb : Hid (TV w0 AnyQ b (.agg #[.int .i64 x.k, .int .i64 x.n, .slice sad KL sc])) := hide (by rw [hw0]; exact HV.out.below (bel1 _ _))
    have HBw : Hid (Below w.heap.size w w0) := hide (by rw [hw0]; exact HB1.out.alloc HB1.out.size _)
    have HAll : Hid (∀ w', Below w0.heap.size w0 w' → w'.cell? ⟨w1.heap.size, 0, none⟩ = some (.int .i64 x.k) ∧ w'.cell? ⟨w1.heap.size, 1, none⟩ = some (.int .i64 x.n) ∧ w'.cell? ⟨w1.heap.size, 2, none⟩ = some (.slice sad KL sc)) := hide (fun w' hb => ⟨(hb.cell (p := ⟨w1.heap.size, 0, none⟩) hlx).trans ((cell_of_blk hbx 0).trans rfl), (hb.cell (p := ⟨w1.heap.size, 1, none⟩) hlx).trans ((cell_of_blk hbx 1).trans rfl), (hb.cell (p := ⟨w1.heap.size, 2, none⟩) hlx).trans ((cell_of_blk hbx 2).trans rfl)⟩)
    clear hw0 hbx
    have HWB0d : Hid (Below w0.heap.size w0 w0.drew) := hide (belowDrew (Below.refl _ _))
    obtain ⟨Wu0, Wu1, Wu2⟩ := HAll.out w0.drew HWB0d.out
    go_region_held3 (fun w' => w'.cell? ⟨w1.heap.size, 0, none⟩ = some (.int .i64 x.k) ∧ w'.cell? ⟨w1.heap.size, 1, none⟩ = some (.int .i64 x.n) ∧ w'.cell? ⟨w1.heap.size, 2, none⟩ = some (.slice sad KL sc)) (first | (with_reducible exact HAll.out _ HWB0d.out) | (with_reducible exact HAll.out _ HWB1.out) | (with_reducible exact HAll.out _ HWB2.out) | (with_reducible exact HAll.out _ HWB3.out) | (with_reducible exact HAll.out _ HWB4.out) | (with_reducible exact HAll.out _ HWB5.out))
      (first
        | ((with_reducible refine Calls.mono (var_tv 0 _) ?_); rintro e W1 ⟨Wv1, rfl, hv, hx⟩; have HWB1 : Hid (Below w0.heap.size w0 W1) := hide (by first | exact HWB0d.out.trans (hx.mono HWB0d.out.size)); have HWV1_1 := hide hv; obtain ⟨Wk1, Wn1, Wa1, Wl1, Wc1, rfl⟩ := hv.form; clear hv hx)
        | ((with_reducible refine Calls.mono (lam_tv (varT 0) _ _ (by first | exact HWV1_1.out)) ?_); rintro e W2 ⟨Wv2, rfl, hv, hx⟩; have HWB2 : Hid (Below w0.heap.size w0 W2) := hide (by first | exact HWB1.out.trans (hx.mono HWB1.out.size)); have HWV1_2 := hide (show TV W2 AnyQ _ _ from (by first | exact HWV1_1.out.below hx)); have HWV2_2 := hide hv; obtain ⟨Wk2, Wn2, Wa2, Wl2, Wc2, rfl⟩ := hv.form; clear hv hx)
        | ((with_reducible refine Calls.mono (app_tv b (lamT (varT 0)) (.agg #[.int .i64 x.k, .int .i64 x.n, .slice sad KL sc]) _ _ (by first | exact HVb.out.below HWB2.out) (by first | exact HWV2_2.out)) ?_); rintro e W3 ⟨Wv3, rfl, hv, hx⟩; have HWB3 : Hid (Below w0.heap.size w0 W3) := hide (by first | exact HWB2.out.trans (hx.mono HWB2.out.size)); have HWV1_3 := hide (show TV W3 AnyQ _ _ from (by first | exact HWV1_2.out.below hx)); have HWV2_3 := hide (show TV W3 AnyQ _ _ from (by first | exact HWV2_2.out.below hx)); have HWV3_3 := hide hv; obtain ⟨Wk3, Wn3, Wa3, Wl3, Wc3, rfl⟩ := hv.form; clear hv hx)
        | ((with_reducible refine Calls.mono (HFl.out _ _ HWV3_3.out) ?_); rintro e W4 ⟨v4, rfl, ho4, hx⟩; obtain ⟨a4, c4, rfl⟩ := own_form ho4; have HWB4 : Hid (Below w0.heap.size w0 W4) := hide (HWB3.out.trans (hx.mono HWB3.out.size)); have HO4 := hide ho4; clear ho4 hx)
        | ((with_reducible refine Calls.mono (HRn.out _ _ _ _ HO4.out) ?_); rintro e W5 ⟨rfl, hx⟩; have HWB5 : Hid (Below w0.heap.size w0 W5) := hide (HWB4.out.trans (hx.mono HWB4.out.size)); clear hx))
    have hBf := HBw.out.trans (HWB5.out.mono HBw.out.size)
    cases R4 with
    | true =>
      go_wp2_with fail
      exact bodyPost_ret (v := .tuple #[.int .i64 R1, .int .i64 R2, .bool true]) (by simp [results, Tryz.results7, go_sem]) rfl ⟨rfl, hBf⟩
    | false =>
      obtain ⟨n1, n2⟩ := HNo.out rfl
      subst n1 n2
      go_wp2_with fail
      exact bodyPost_ret (v := .tuple #[.int .i64 0, .int .i64 0, .bool false]) (by simp [results, Tryz.results7, go_sem]) rfl ⟨rfl, hBf⟩
end Go.Proofs.YtnmkbpflbfhpnaaGreat.W

/-
  A row of cells of terms that came in as an argument, opened. No conditions.
-/
namespace Go.Proofs.YtnmkbpflbfhpnaaGreat.W
open Go.ChangeShapes Go.WideShapes Go.ChangeAt Go.RowKit


set_option maxRecDepth 20000 in
theorem open_cells {H : Type} {enc : TypeId × Value → H} {W : World} {sp : Nat → Bool} {held : Bool} {fuel : Nat} {ad : Option Addr} {len cap : Nat} {x : DataW H × List MemPlace}
    (h : DataW.trod enc Tryz.prog W 0 sp held fuel 31 [.slice ad len cap] = some x) :
    ∃ l : List Cc, l.length = len ∧ len ≤ maxLen ∧ CRow W ad l := by
  rcases Go.Deep.open_slice Tryz.underlying31 h with ⟨hcs, -⟩ | ⟨a, len', cap', m, n, D, Pl, hcs, hb, hl, hm, hmm, -, hx⟩
  · simp at hcs
    exact ⟨[], by simp [hcs.2.1], by omega, .inl rfl⟩
  simp at hcs
  obtain ⟨rfl, rfl, rfl⟩ := hcs
  have hlm : len ≤ m := by rw [hmm]; split <;> omega
  have hc : Tryz.prog.cellsOf 72 = 2 := by kernel_rfl
  have ci : Tryz.prog.cellsOf 3 = 1 := by kernel_rfl
  haveI : Inhabited Cc := ⟨⟨0, 0⟩⟩
  obtain ⟨F, hF⟩ := Go.Deep.choose_lt (α := Cc) (n := len) (p := fun i q => W.cell? (a.add (i * 2)) = some (.int .i64 q.k) ∧ W.cell? (a.add (i * 2 + 1)) = some (.int .i64 q.n)) (fun i hi => by
    obtain ⟨cs', h1, h2⟩ := hx i (by omega)
    rw [hc] at h1
    obtain ⟨_, hlen, hcell⟩ := World.cells?_some h1
    obtain ⟨xs, k, hk, hxy, _, hxl, hf⟩ := DataW.trod_struct Tryz.underlying72 h2
    match cs', hlen with
    | [v0, v1], _ =>
      have g0 := hf 0 _ rfl
      have g1 := hf 1 _ rfl
      simp [ci] at g0 g1
      rw [List.getElem?_eq_getElem (by rw [hxl]; decide)] at g0 g1
      obtain ⟨k0, e0, -, -⟩ := DataW.trod_int Tryz.underlying3 g0
      obtain ⟨n0, e1, -, -⟩ := DataW.trod_int Tryz.underlying3 g1
      simp at e0 e1
      subst e0 e1
      have c0 := hcell 0 (by omega)
      have c1 := hcell 1 (by omega)
      rw [Go.Deep.add_add] at c0 c1
      exact ⟨⟨k0, n0⟩, by simpa using c0, by simpa using c1⟩)
  refine ⟨(List.range len).map F, by simp, by omega, ?_⟩
  · by_cases h0 : len = 0
    · left; simp [h0]
    · right
      obtain ⟨b, o, spot⟩ := a
      have hspot : spot = none := by simpa [Addr.add] using World.cell?_spot (hF 0 (by omega)).1
      subst hspot
      refine ⟨b, o, rfl, ?_, fun i hi => ?_⟩
      · have := World.block_lt_of_cell? _ _ (hF 0 (by omega)).1
        simpa [Addr.add] using this
      · have hi' : i < len := by simpa using hi
        obtain ⟨f0, f1⟩ := hF i hi'
        rw [Addr.add_lit] at f0 f1
        simp only [List.getElem_map, List.getElem_range]
        exact ⟨f0, f1⟩

end Go.Proofs.YtnmkbpflbfhpnaaGreat.W

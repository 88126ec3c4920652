/-
  Some texts of this proof in one: RbJ, TeC.
-/
import Derived.Test.YtdajalchdbgooaaJ10
import Derived.Test.YtdajalchdbgooaaJ03
import Derived.Test.YtdajalchdbgooaaJ04
import Derived.Deep.AppendLies
/-
  Values read back by the program: the contract of valuePart. Conditions: a good machine.
-/
namespace Go.Proofs.Ytdajalchdbgooaa.W
open Go.ChangeShapes Go.WideShapes Go.ChangeAt Go.RowKit
set_option linter.unusedVariables false

theorem VlRow.cells {w : World} {ad : Option Addr} {l : List Vl} (h : VlRow w ad l) {i : Nat} (hi : i < l.length) : ∃ b o, ad = some ⟨b, o, none⟩ ∧ b < w.heap.size ∧ w.cell? ⟨b, o + i * 4, none⟩ = some (.bool l[i].fn) ∧ w.cell? ⟨b, o + i * 4 + 1, none⟩ = some (.int .i64 l[i].num) ∧ w.cell? ⟨b, o + i * 4 + 2, none⟩ = some (.int .i64 l[i].pl) ∧ w.cell? ⟨b, o + i * 4 + 3, none⟩ = some (.int .i64 l[i].env) := VlRow.tok h (Below.refl _ _) hi

set_option maxRecDepth 20000 in
set_option maxHeartbeats 4000000 in
theorem vp_num (B : RdB) (hok : B.ok) (f j : Nat) (s : Int) (w : World) (hjv : j < B.m.vs.length) (hcore : B.core s w) (hf : B.m.vs[j].fn = false) :
    Calls Try.prog 62 #[.pointer (some ⟨B.wB.heap.size, 0, none⟩), .int .i64 (j : Int)] w fun e w' => e = .returned (pvT (numT B.m.vs[j].num)) ∧ B.core (wrap64 (s + 1)) w' ∧ Oth B.wB.heap.size w w' := by
  obtain ⟨b, o, hav, hb, p0, p1, p2, p3⟩ := VlRow.cells (hcore.2.row hok.vr) hjv
  rw [hf] at p0
  have hc8 := hcore.1.c
  have hf8 := hcore.1.f
  have hcl := hcore.1.lt
  simp only [RdB.cells] at hc8
  rw [hav] at hc8
  have HC := hide hcore
  have hji : (j : Int) < (B.m.vs.length : Int) := by omega
  obtain ⟨num, hnum⟩ : ∃ num, num = B.m.vs[j].num := ⟨_, rfl⟩
  rw [← hnum] at p1 ⊢
  clear hcore hok hav hnum hf
  have hp : pvT (numT num) = .iface 148 (.agg #[.int .i64 num]) := rfl
  rw [hp]
  go_enter Try.func62, Try.ntmps62
  go_wp2_with fail
  go_ret
  refine ⟨rfl, ?_, ?_⟩
  · exact ((HC.out.set _).below ((Below.refl _ _).alloc (Nat.le_refl _) _)).below ((Below.refl _ _).alloc (Nat.le_refl _) _)
  · exact (((Oth.refl _ _).setCell 8 _).trans (Oth.ofBelow ((Below.refl _ _).alloc (Nat.le_refl _) _))).trans (Oth.ofBelow ((Below.refl _ _).alloc (Nat.le_refl _) _))

theorem allD_of {N : Nat} {e : Int} (he : e = (N : Int)) : ∀ (a : F) (pk : Int) (d i : Nat), FBv pk (N + d) i a → AllD (fun n d => n - (d : Int) < e) pk d i a
  | .nil, _, _, _, _ => trivial
  | .cons x k r, pk, d, i, ⟨h1, h2, h3⟩ => by
    rw [show N + d + binds pk i = N + (d + binds pk i) by omega] at h1 h2
    exact ⟨fun hx => by have := h1 hx; omega, allD_of he k _ _ _ h2, allD_of he r _ _ _ h3⟩

set_option maxRecDepth 20000 in
set_option maxHeartbeats 8000000 in
theorem vp_fn (B : RdB) (hok : B.ok) (f j : Nat) (ih : VPGoal B f) (s : Int) (w : World) (hj : j ≤ f) (hjv : j < B.m.vs.length) (hcore : B.core s w) (hf : B.m.vs[j].fn = true) :
    Calls Try.prog 62 #[.pointer (some ⟨B.wB.heap.size, 0, none⟩), .int .i64 (j : Int)] w fun e w' => e = .returned (pvT (rbW B.l B.m.vs B.m.bs (f + 1) (j : Int) s).1) ∧ B.core (rbW B.l B.m.vs B.m.bs (f + 1) (j : Int) s).2 w' ∧ Oth B.wB.heap.size w w' := by
  obtain ⟨b, o, hav, hb, p0, p1, p2, p3⟩ := VlRow.cells (hcore.2.row hok.vr) hjv
  obtain ⟨x, k, r, hr, hx, hgx, hkx, hox, hfb, pl0, pl1, he, hw0, hlt, hle, hsz⟩ := val_part hok.cl hok.gm hjv hf
  obtain ⟨P, hP⟩ := Int.eq_ofNat_of_zero_le pl0
  have hPt : B.m.vs[j].pl.toNat = P := by rw [hP]; rfl
  have e0 : B.m.vs[((j : Int)).toNat]? = some B.m.vs[j] := by simp [hjv]
  have hlf : (F.cons x k .nil).flat.length = k.flat.length + 1 := by simp [F.flat]
  have eW : rbW B.l B.m.vs B.m.bs (f + 1) (j : Int) s = if 600 < wrap64 (s + ((k.flat.length + 1 : Nat) : Int)) then (numT 0, wrap64 (s + ((k.flat.length + 1 : Nat) : Int))) else wv (rbGw (rbW B.l B.m.vs B.m.bs f) B.m.bs B.m.vs[j].env) (rbUw (rbW B.l B.m.vs B.m.bs f) B.m.bs B.m.vs[j].env) 0 0 0 (.cons x k .nil) (wrap64 (s + ((k.flat.length + 1 : Nat) : Int))) := by
    rw [rbW, e0]
    simp only
    rw [if_pos hf, hr]
    simp only
    rw [hlf]
  rw [eW]
  rw [hPt] at hr hsz
  have hrf := rt_flat hr
  have hl6 := hok.cl.le
  have hcc := hok.hc
  have hPl : P < B.l.length := by omega
  have hdl : (B.l.drop P).length = B.l.length - P := List.length_drop
  have HCut := hide (fun (w' : World) (hc : CRowAt w' B.tb B.tof B.l) => cutAhead_any B.tb (B.tof + P * 2) (B.c - P) (B.l.drop P) (k.flat.length + 1) w' (by omega) (by omega) hsz (by have := congrArg List.length hrf.1; rw [List.length_append, hlf] at this; omega) (hc.drop P))
  rw [hdl] at HCut
  have HPart := hide (fun (w' : World) (hc : CRowAt w' B.tb B.tof B.l) => partOf_any (.cons x k .nil) (some ⟨B.tb, B.tof + P * 2, none⟩) (B.c - P) w' ⟨hgx, hkx, hox, trivial⟩ rfl (by rw [hlf]; omega) (by rw [hlf]; have := congrArg List.length hrf.1; rw [List.length_append, hlf] at this; omega) (.inr ⟨_, _, rfl, by
    have hd := hc.drop P
    rw [hrf.1] at hd
    exact ⟨hd.1, fun i hi => by
      have := hd.2 i (by rw [List.length_append]; omega)
      rwa [List.getElem_append_left hi] at this⟩⟩))
  rw [hlf] at HPart
  obtain ⟨nn, hnn⟩ : ∃ nn, nn = k.flat.length + 1 := ⟨_, rfl⟩
  have hnl : nn ≤ 600 := by omega
  rw [← hnn] at HCut HPart ⊢
  obtain ⟨T0, u0, hT0⟩ := pvT_iface (show (F.cons x k .nil).len = 1 from rfl)
  have HT0 := hide hT0
  rw [hT0] at HPart
  have HWV := hide (fun (bb bv : Nat) (h1 : bb ≠ B.wB.heap.size) (h2 : bv ≠ B.wB.heap.size) (s1 : Int) => withVariables_D (σ := Int) 91 #[.pointer (some ⟨bb, 0, none⟩), .pointer (some ⟨bv, 0, none⟩)] B.wB.heap.size (B.lit bb bv B.m.vs[j]) (rbGw (rbW B.l B.m.vs B.m.bs f) B.m.bs B.m.vs[j].env) (rbUw (rbW B.l B.m.vs B.m.bs f) B.m.bs B.m.vs[j].env) (fun n d => n - (d : Int) < (bw B.m.bs B.m.vs[j].env).1) ent_vp1 (vp1_chg B hok f ih bb bv j B.m.vs[j] hjv hj rfl hf h1 h2) (fun s n d => by unfold rbGw; split; rfl; exact rbW_len _ _ _ _ _ _) k x s1 0 hgx hkx hox
    (fun hx1 => by omega) (by have := (allD_of (N := (bw B.m.bs B.m.vs[j].env).1.toNat) (e := (bw B.m.bs B.m.vs[j].env).1) (by omega) (.cons x k .nil) 0 0 0 hfb).2.1; simpa [binds_0'] using this) (by omega))
  unfold WVC at HWV
  have HLn := hide (fun (s1 : Int) => wv_len (g := rbGw (rbW B.l B.m.vs B.m.bs f) B.m.bs B.m.vs[j].env) (st := rbUw (rbW B.l B.m.vs B.m.bs f) B.m.bs B.m.vs[j].env) (fun s n d => by unfold rbGw; split; rfl; exact rbW_len _ _ _ _ _ _) (.cons x k .nil) 0 0 0 s1)
  have hpv : pv x.k x.n (pvs k) = .iface T0 u0 := hT0
  rw [hpv] at HWV
  rw [hf] at p0
  rw [hP] at p2
  have hc8 := hcore.1.c
  have hf8 := hcore.1.f
  have hcl := hcore.1.lt
  simp only [RdB.cells] at hc8
  rw [hav] at hc8
  have HC := hide hcore
  have HCR := hide hok.cr
  have hji : (j : Int) < (B.m.vs.length : Int) := by omega
  have hP0 : (0 : Int) ≤ (P : Int) := by omega
  have hPL : (P : Int) ≤ (B.l.length : Int) := by omega
  have hLC : (B.l.length : Int) ≤ (B.c : Int) := by omega
  have hPC : (P : Int) ≤ (B.c : Int) := by omega
  have hcp : ¬ (B.c : Int) - (P : Int) = 0 := by omega
  have hcp' : ¬ B.c - P = 0 := by omega
  have hcpe : ¬ B.c = P := by omega
  obtain ⟨num, hnum⟩ : ∃ num, num = B.m.vs[j].num := ⟨_, rfl⟩
  obtain ⟨env, henv⟩ : ∃ env, env = B.m.vs[j].env := ⟨_, rfl⟩
  rw [← hnum] at p1
  rw [← henv] at p3
  have HNum := hide hnum
  have HEnv := hide henv
  have HFn := hide hf
  have HPl := hide hP
  have HAv := hide hav
  clear hcore hok hav hnum henv hf hr hx hgx hkx hox hfb pl0 pl1 he hw0 hlt hle hsz hPt e0 hlf eW hrf hl6 hcc hdl hnn hT0 hpv ih hP hPl
  obtain ⟨RES, hRES⟩ : ∃ RES, RES = if 600 < wrap64 (s + (nn : Int)) then (numT 0, wrap64 (s + (nn : Int))) else wv (rbGw (rbW B.l B.m.vs B.m.bs f) B.m.bs B.m.vs[j].env) (rbUw (rbW B.l B.m.vs B.m.bs f) B.m.bs B.m.vs[j].env) 0 0 0 (.cons x k .nil) (wrap64 (s + (nn : Int))) := ⟨_, rfl⟩
  rw [← hRES]
  have HRES := hide hRES
  clear hRES
  go_enter Try.func62, Try.ntmps62
  go_wp2_with fail
  obtain ⟨w0, hw0⟩ : ∃ w0, w0 = (w.alloc (.cells #[.pointer (some ⟨B.wB.heap.size, 0, none⟩)] 146)).alloc (.cells #[.bool true, .int .i64 num, .int .i64 (P : Int), .int .i64 env] 74) := ⟨_, rfl⟩
  rw [← hw0]
  have hB0 : Below w.heap.size w w0 := by rw [hw0]; exact ((Below.refl _ _).alloc (Nat.le_refl _) _).alloc (by simp) _
  have hbb0 : Bx w0 w.heap.size #[.pointer (some ⟨B.wB.heap.size, 0, none⟩)] 146 := by rw [hw0]; exact (Bx.new _ _ _).alloc _
  have hbv0 : Bx w0 (w.heap.size + 1) #[.bool true, .int .i64 num, .int .i64 (P : Int), .int .i64 env] 74 := by
    have := Bx.new (w.alloc (.cells #[.pointer (some ⟨B.wB.heap.size, 0, none⟩)] 146)) #[.bool true, .int .i64 num, .int .i64 (P : Int), .int .i64 env] 74
    rw [hw0]
    simpa using this
  have HC0 := hide (HC.out.below hB0)
  have HD0 := hide HC0.out.1
  have HBB := hide hbb0
  have HBV := hide hbv0
  have HO0 : Hid (Oth B.wB.heap.size w w0) := hide (Oth.ofBelow hB0)
  have HSS : Hid (∀ (w' : World) (s' : Int), Bx w' w.heap.size #[.pointer (some ⟨B.wB.heap.size, 0, none⟩)] 146 → Bx w' (w.heap.size + 1) #[.bool true, .int .i64 num, .int .i64 (P : Int), .int .i64 env] 74 → Bx w' B.wB.heap.size (B.cells s') 107 → w'.cell? ⟨w.heap.size, 0, none⟩ = some (.pointer (some ⟨B.wB.heap.size, 0, none⟩)) ∧ w'.cell? ⟨B.wB.heap.size, 7, none⟩ = some (.slice (some ⟨B.tb, B.tof, none⟩) B.l.length B.c) ∧ w'.cell? ⟨w.heap.size + 1, 2, none⟩ = some (.int .i64 (P : Int))) := hide (fun w' s' k1 k2 k4 => ⟨(k1.c 0).trans rfl, (k4.c 7).trans rfl, (k2.c 2).trans rfl⟩)
  have HR0 : Hid (CRowAt w0.drew B.tb B.tof B.l) := hide (HC0.out.2.crow HCR.out)
  have hne1 : w.heap.size ≠ B.wB.heap.size := by omega
  have hne2 : w.heap.size + 1 ≠ B.wB.heap.size := by omega
  obtain ⟨v0, v1, v2⟩ := HSS.out w0.drew s hbb0.drew hbv0.drew HD0.out.drew
  clear hw0 hB0 hbb0 hbv0 hc8 hf8 p0 p1 p2 p3
  go_region_held3 (fun w' => w'.cell? ⟨w.heap.size, 0, none⟩ = some (.pointer (some ⟨B.wB.heap.size, 0, none⟩)) ∧ w'.cell? ⟨B.wB.heap.size, 7, none⟩ = some (.slice (some ⟨B.tb, B.tof, none⟩) B.l.length B.c) ∧ w'.cell? ⟨w.heap.size + 1, 2, none⟩ = some (.int .i64 (P : Int))) (first | (with_reducible exact HSS.out _ _ HBB.out.drew HBV.out.drew HD0.out.drew) | (with_reducible exact HSS.out _ _ HBB1.out HBV1.out HD1.out))
    (first
      | ((with_reducible refine Calls.mono (HCut.out _ HR0.out) ?_); rintro e W1 ⟨qq, rfl, -, hx⟩; have HC1 : Hid (B.core s W1) := hide (HC0.out.below ⟨hx.os, hx.tape, hx.output, hx.size, hx.block⟩); have HD1 := hide HC1.out.1; have HBB1 := hide (HBB.out.drew.below hx HBB.out.lt); have HBV1 := hide (HBV.out.drew.below hx HBV.out.lt); have HO1 := hide (HO0.out.trans (show Oth B.wB.heap.size w0 W1 from ⟨hx.os, hx.tape, hx.output, hx.size, fun k hk _ => hx.block k hk⟩)); clear hx))
  have hc1 := HD1.out.c
  have hf1 := HD1.out.f
  have hb1c := HBB1.out.c
  simp only [RdB.cells] at hc1
  have hcl1 := HD1.out.lt
  by_cases h6 : 600 < wrap64 (s + (nn : Int))
  · have hr : RES = (numT 0, wrap64 (s + (nn : Int))) := by rw [HRES.out, if_pos h6]
    subst hr
    go_wp2_with fail
    go_ret
    exact ⟨rfl, HC1.out.set _, HO1.out.setCell 8 _⟩
  · obtain ⟨S1, hS1⟩ : ∃ S1, S1 = wrap64 (s + (nn : Int)) := ⟨_, rfl⟩
    have hr : RES = wv (rbGw (rbW B.l B.m.vs B.m.bs f) B.m.bs B.m.vs[j].env) (rbUw (rbW B.l B.m.vs B.m.bs f) B.m.bs B.m.vs[j].env) 0 0 0 (.cons x k .nil) S1 := by rw [HRES.out, if_neg h6, hS1]
    have HRE := hide hr
    clear hr
    go_wp2_with fail
    rw [← hS1]
    obtain ⟨W2, hW2⟩ : ∃ W2, W2 = W1.setCell ⟨B.wB.heap.size, 8, none⟩ (.int .i64 S1) := ⟨_, rfl⟩
    rw [← hW2]
    have HC2 : Hid (B.core S1 W2) := hide (by rw [hW2]; exact HC1.out.set S1)
    have HBB2 : Hid (Bx W2 w.heap.size #[.pointer (some ⟨B.wB.heap.size, 0, none⟩)] 146) := hide (by rw [hW2]; exact HBB1.out.setne _ _ _ hne1)
    have HBV2 : Hid (Bx W2 (w.heap.size + 1) #[.bool true, .int .i64 num, .int .i64 (P : Int), .int .i64 env] 74) := hide (by rw [hW2]; exact HBV1.out.setne _ _ _ hne2)
    have HO2 : Hid (Oth B.wB.heap.size w W2) := hide (by rw [hW2]; exact HO1.out.setCell 8 _)
    clear hW2 hc1 hf1 hb1c hcl1 hS1
    refine Calls.mono (HPart.out _ (HC2.out.2.crow HCR.out)) ?_
    rintro e W3 ⟨rfl, hx⟩
    have HC3 := hide (HC2.out.below hx)
    have HBB3 := hide (HBB2.out.below hx HBB2.out.lt)
    have HBV3 := hide (HBV2.out.below hx HBV2.out.lt)
    have HO3 := hide (HO2.out.trans (Oth.ofBelow hx))
    clear hx
    have hlit : B.lit w.heap.size (w.heap.size + 1) B.m.vs[j] S1 W3 := ⟨HC3.out, HBB3.out, by rw [HFn.out, ← HNum.out, HPl.out, ← HEnv.out]; exact HBV3.out⟩
    have HLit := hide hlit.inv
    have HW := hide (HWV.out w.heap.size (w.heap.size + 1) hne1 hne2 S1 W3 HC3.out.1.lt HLit.out)
    have hrw : w1 (rbGw (rbW B.l B.m.vs B.m.bs f) B.m.bs B.m.vs[j].env) (rbUw (rbW B.l B.m.vs B.m.bs f) B.m.bs B.m.vs[j].env) 0 x k S1 = RES := HRE.out.symm
    rw [hrw] at HW
    have hl1 := HLn.out S1
    rw [← HRE.out] at hl1
    obtain ⟨T9, u9, hT9⟩ := pvT_iface hl1
    rw [hT9] at HW
    have HT9 := hide hT9
    clear hlit hrw hl1 hT9
    go_wp2_with fail
    refine Calls.mono HW.out ?_
    rintro e W4 ⟨rfl, hi, ho⟩
    have HC4 := hide hi.get.1
    have HO4 := hide (HO3.out.trans ho)
    clear hi ho HW
    go_wp2_with fail
    go_ret
    exact ⟨by rw [HT9.out]; rfl, HC4.out, HO4.out⟩

theorem vp_any (B : RdB) (hok : B.ok) : ∀ f, VPGoal B f
  | 0 => fun j s w hj _ _ => by omega
  | f + 1 => fun j s w hj hjv hc => by
    by_cases hf : B.m.vs[j].fn = true
    · exact vp_fn B hok f j (vp_any B hok f) s w (by omega) hjv hc hf
    · have e0 : B.m.vs[((j : Int)).toNat]? = some B.m.vs[j] := by simp [hjv]
      have eW : rbW B.l B.m.vs B.m.bs (f + 1) (j : Int) s = (numT B.m.vs[j].num, wrap64 (s + 1)) := by
        rw [rbW, e0]
        simp only
        rw [if_neg hf]
      rw [eW]
      exact vp_num B hok f j s w hjv hc (by simpa using hf)
end Go.Proofs.Ytdajalchdbgooaa.W

/-
  Parts told as cells: contracts of the cellsOnto methods and of goodCells. Conditions: as the theorems state.
-/
namespace Go.Proofs.Ytdajalchdbgooaa.W
open Go.ChangeShapes Go.WideShapes Go.ChangeAt Go.RowKit
set_option linter.unusedVariables false

/-- Cells in memory. -/
def cv : List Cc → List Value
  | [] => []
  | x :: l => .int .i64 x.k :: .int .i64 x.n :: cv l
theorem cv_len : ∀ l : List Cc, (cv l).length = l.length * 2
  | [] => rfl
  | x :: l => by simp [cv, cv_len l]; omega
theorem cv_app : ∀ a b : List Cc, cv (a ++ b) = cv a ++ cv b
  | [], b => rfl
  | x :: a, b => by simp [cv, cv_app a b]

theorem grownT {w w1 w2 : World} {r r' : Option Nat} (h1 : w.grownBy w1 r) (h2 : w1.grownBy w2 r') (hr : ∀ k, r' = some k → r = some k ∨ w.heap.size ≤ k) : w.grownBy w2 r :=
  ⟨h2.os.trans h1.os, h2.tape.trans h1.tape, h2.output.trans h1.output, Nat.le_trans h1.size h2.size, fun k hk hne => (h2.block k (Nat.lt_of_lt_of_le hk h1.size) (fun e => by
    rcases hr k e.symm with h | h
    · exact hne h.symm
    · omega)).trans (h1.block k hk hne)⟩
theorem apartT {w w1 : World} {v v1 v2 : Value} (h1 : Apart w v v1) (h2 : Apart w1 v1 v2) (hs : w.heap.size ≤ w1.heap.size) : Apart w v v2 := fun g hg => by
  rcases h2 g hg with h | h
  · exact h1 g h
  · exact .inr (by omega)
theorem apart_ne {w1 : World} {v1 v2 : Value} {x : Nat} (ha : Apart w1 v1 v2) (hn : ∀ k, v1.ownBlock = some k → k ≠ x) (hx : x < w1.heap.size) : ∀ k, v2.ownBlock = some k → k ≠ x := fun k hk => by
  rcases ha k hk with h | h
  · exact hn k h
  · omega
theorem lies_ne {ad : Option Addr} {n c g n' c' x H : Nat} (hat : (Value.slice ad n c).ownBlock = some g ∨ g = H) (hol : ∀ k, (Value.slice ad n c).ownBlock = some k → k < x) (hH : x < H) : ∀ k, (Value.slice (some ⟨g, 0, none⟩) n' c').ownBlock = some k → k ≠ x := fun k hk => by
  simp only [Value.ownBlock, Option.some.injEq] at hk
  subst hk
  rcases hat with h | h
  · have := hol _ h; omega
  · omega
theorem lies_apart {w : World} {ad : Option Addr} {n c g n' c' H : Nat} (hat : (Value.slice ad n c).ownBlock = some g ∨ g = H) (hH : w.heap.size ≤ H) : Apart w (.slice ad n c) (.slice (some ⟨g, 0, none⟩) n' c') := fun k hk => by
  simp only [Value.ownBlock, Option.some.injEq] at hk
  subst hk
  rcases hat with h | h
  · exact .inl h
  · right; omega
theorem grownA (w : World) (o : Obj) (r : Option Nat) : w.grownBy (w.alloc o) r := World.grownBy_alloc w o r
theorem grownD {w w' : World} {r : Option Nat} (h : w.grownBy w' r) : w.grownBy w'.drew r := ⟨h.os, h.tape, h.output, h.size, h.block⟩

/-- A part whose method tells these cells behind those that are told. -/
def MC (V : Value) (cs : List Cc) : Prop := ∃ T u f, V = .iface T u ∧ (∀ w, (method 310 T u "loop.example/g00339/impl.cellsOnto").run Try.prog w = .ok (f, u) w) ∧ (∀ args w, (callFunc f args).run Try.prog w = .ok (.enter f args) w) ∧
  ∀ (base n : Nat) (xs : List Value) (v : Value) (w : World), w.ownsRow base 59 2 v n xs → n + cs.length ≤ 1048576 → base ≤ w.heap.size →
    Calls Try.prog f #[u, v] w fun e w' => ∃ v', e = .returned v' ∧ w'.ownsRow base 59 2 v' (n + cs.length) (xs ++ cv cs) ∧ w.grownBy w' v.ownBlock ∧ Apart w v v'

theorem c2_one (k n : Int) : ∀ u ∈ [Value.int .i64 k, .int .i64 n], u.oneCell' = true := by
  intro u hu
  simp only [List.mem_cons, List.not_mem_nil, or_false] at hu
  rcases hu with rfl | rfl <;> rfl
theorem c2_news {w : World} {g : Nat} {k n : Int} {t : TypeId} (h : w.heap[g]? = some (.cells #[.int .i64 k, .int .i64 n] t (0, 0))) : ∀ j u, [Value.int .i64 k, .int .i64 n][j]? = some u → w.cell? ((⟨g, 0, none⟩ : Addr).add j) = some u := by
  intro j u hu
  rw [iAdd, Nat.zero_add, cell_of_blk h, ← hu]
  simp

theorem cm_var (u : Value) (w : World) : (method 310 154 u "loop.example/g00339/impl.cellsOnto").run Try.prog w = .ok (140, u) w := by kernel_rfl
theorem cf_var (args : Array Value) (w : World) : (callFunc 140 args).run Try.prog w = .ok (.enter 140 args) w := by kernel_rfl
theorem cm_num (u : Value) (w : World) : (method 310 148 u "loop.example/g00339/impl.cellsOnto").run Try.prog w = .ok (139, u) w := by kernel_rfl
theorem cf_num (args : Array Value) (w : World) : (callFunc 139 args).run Try.prog w = .ok (.enter 139 args) w := by kernel_rfl
theorem cm_lam (u : Value) (w : World) : (method 310 176 u "loop.example/g00339/impl.cellsOnto").run Try.prog w = .ok (141, u) w := by kernel_rfl
theorem cf_lam (args : Array Value) (w : World) : (callFunc 141 args).run Try.prog w = .ok (.enter 141 args) w := by kernel_rfl
theorem cm_app (u : Value) (w : World) : (method 310 178 u "loop.example/g00339/impl.cellsOnto").run Try.prog w = .ok (142, u) w := by kernel_rfl
theorem cf_app (args : Array Value) (w : World) : (callFunc 142 args).run Try.prog w = .ok (.enter 142 args) w := by kernel_rfl
theorem cm_add (u : Value) (w : World) : (method 310 180 u "loop.example/g00339/impl.cellsOnto").run Try.prog w = .ok (143, u) w := by kernel_rfl
theorem cf_add (args : Array Value) (w : World) : (callFunc 143 args).run Try.prog w = .ok (.enter 143 args) w := by kernel_rfl
theorem cm_if (u : Value) (w : World) : (method 310 182 u "loop.example/g00339/impl.cellsOnto").run Try.prog w = .ok (144, u) w := by kernel_rfl
theorem cf_if (args : Array Value) (w : World) : (callFunc 144 args).run Try.prog w = .ok (.enter 144 args) w := by kernel_rfl
theorem cm_let (u : Value) (w : World) : (method 310 184 u "loop.example/g00339/impl.cellsOnto").run Try.prog w = .ok (145, u) w := by kernel_rfl
theorem cf_let (args : Array Value) (w : World) : (callFunc 145 args).run Try.prog w = .ok (.enter 145 args) w := by kernel_rfl

set_option maxRecDepth 20000 in
set_option maxHeartbeats 1000000 in
theorem mc_var (k : Int) (base n : Nat) (xs : List Value) (v : Value) (w : World) (hown : w.ownsRow base 59 2 v n xs) (hn : n + 1 ≤ 1048576) (hb : base ≤ w.heap.size) :
    Calls Try.prog 140 #[.agg #[.int .i64 k], v] w fun e w' => ∃ v', e = .returned v' ∧ w'.ownsRow base 59 2 v' (n + 1) (xs ++ cv [⟨1, k⟩]) ∧ w.grownBy w' v.ownBlock ∧ Apart w v v' := by
  obtain ⟨i0, hi0, hz0, hz1, hz2⟩ := infoPartsT infoCe
  have Hi := hide hi0
  have HO := hide hown
  obtain ⟨ad, c, rfl⟩ := iOwn_form hown
  have M1 : Hid (n + 1 ≤ maxLen) := hide (by unfold maxLen; omega)
  clear hi0 hown
  go_enter Try.func140, Try.ntmps140
  go_wp2_with (at_builtin; refine wpList_append_sep rfl _ _ 31 rfl base 59 i0 (.agg #[.int .i64 0, .int .i64 0]) 2 16 Try.underlying31 Hi.out hz0 hz1 hz2 rfl (by decide) _ n xs rfl ((HO.out.alloc _).alloc _) ⟨w.heap.size + 1, 0, none⟩ 1 1 [.int .i64 1, .int .i64 k] rfl rfl (c2_news (by have := heap_alloc_new (w.alloc (.cells #[.int .i64 k] 154)) (.cells #[.int .i64 1, .int .i64 k] 59); simpa using this)) (c2_one _ _) M1.out (by omega) (by simp; omega) ?_)
  intro v' w2 hown2 hgrow2 hap2
  obtain ⟨ad2, c2, rfl⟩ := iOwn_form hown2
  have HO2 := hide hown2
  have HG2 := hide (grownT ((grownA w (.cells #[.int .i64 k] 154) _)) (grownT (grownA _ (.cells #[.int .i64 1, .int .i64 k] 59) _) hgrow2 (fun k hk => .inl hk)) (fun k hk => .inl hk))
  have HA2 : Hid (Apart w (.slice ad n c) (.slice ad2 (n + 1) c2)) := hide (fun g hg => by
    rcases hap2 g hg with h | h
    · exact .inl h
    · right; simp at h; omega)
  clear hown2 hgrow2 hap2
  go_wp2_with fail
  go_ret
  exact ⟨_, rfl, HO2.out, HG2.out, HA2.out⟩

set_option maxRecDepth 20000 in
set_option maxHeartbeats 1000000 in
theorem mc_num (k : Int) (base n : Nat) (xs : List Value) (v : Value) (w : World) (hown : w.ownsRow base 59 2 v n xs) (hn : n + 1 ≤ 1048576) (hb : base ≤ w.heap.size) :
    Calls Try.prog 139 #[.agg #[.int .i64 k], v] w fun e w' => ∃ v', e = .returned v' ∧ w'.ownsRow base 59 2 v' (n + 1) (xs ++ cv [⟨2, k⟩]) ∧ w.grownBy w' v.ownBlock ∧ Apart w v v' := by
  obtain ⟨i0, hi0, hz0, hz1, hz2⟩ := infoPartsT infoCe
  have Hi := hide hi0
  have HO := hide hown
  obtain ⟨ad, c, rfl⟩ := iOwn_form hown
  have M1 : Hid (n + 1 ≤ maxLen) := hide (by unfold maxLen; omega)
  clear hi0 hown
  go_enter Try.func139, Try.ntmps139
  go_wp2_with (at_builtin; refine wpList_append_sep rfl _ _ 31 rfl base 59 i0 (.agg #[.int .i64 0, .int .i64 0]) 2 16 Try.underlying31 Hi.out hz0 hz1 hz2 rfl (by decide) _ n xs rfl ((HO.out.alloc _).alloc _) ⟨w.heap.size + 1, 0, none⟩ 1 1 [.int .i64 2, .int .i64 k] rfl rfl (c2_news (by have := heap_alloc_new (w.alloc (.cells #[.int .i64 k] 148)) (.cells #[.int .i64 2, .int .i64 k] 59); simpa using this)) (c2_one _ _) M1.out (by omega) (by simp; omega) ?_)
  intro v' w2 hown2 hgrow2 hap2
  obtain ⟨ad2, c2, rfl⟩ := iOwn_form hown2
  have HO2 := hide hown2
  have HG2 := hide (grownT ((grownA w (.cells #[.int .i64 k] 148) _)) (grownT (grownA _ (.cells #[.int .i64 2, .int .i64 k] 59) _) hgrow2 (fun k hk => .inl hk)) (fun k hk => .inl hk))
  have HA2 : Hid (Apart w (.slice ad n c) (.slice ad2 (n + 1) c2)) := hide (fun g hg => by
    rcases hap2 g hg with h | h
    · exact .inl h
    · right; simp at h; omega)
  clear hown2 hgrow2 hap2
  go_wp2_with fail
  go_ret
  exact ⟨_, rfl, HO2.out, HG2.out, HA2.out⟩

set_option maxRecDepth 20000 in
set_option maxHeartbeats 4000000 in
theorem mc_lam (V0 : Value) (c0 : List Cc) (h0 : MC V0 c0) (base n : Nat) (xs : List Value) (v : Value) (w : World) (hown : w.ownsRow base 59 2 v n xs) (hn : n + (1 + c0.length) ≤ 1048576) (hb : base ≤ w.heap.size) :
    Calls Try.prog 141 #[.agg #[V0], v] w fun e w' => ∃ v', e = .returned v' ∧ w'.ownsRow base 59 2 v' (n + (1 + c0.length)) (xs ++ cv (⟨3, 0⟩ :: (c0))) ∧ w.grownBy w' v.ownBlock ∧ Apart w v v' := by
  obtain ⟨T0, u0, f0, rfl, hm0, hf0, hc0⟩ := h0
  have HC0 := hide hc0
  obtain ⟨i0, hi0, hz0, hz1, hz2⟩ := infoPartsT infoCe
  have Hi := hide hi0
  have HO := hide hown
  obtain ⟨ad, c, rfl⟩ := iOwn_form hown
  have hol : ∀ k, (Value.slice ad n c).ownBlock = some k → k < w.heap.size := fun k hk => (HO.out.lt k hk).2
  have HOL := hide hol
  have M1 : Hid (n + 1 ≤ maxLen) := hide (by unfold maxLen; omega)
  clear hi0 hown hol hc0
  go_enter Try.func141, Try.ntmps141
  go_wp2_with fail
  obtain ⟨w0, hw0⟩ : ∃ w0, w0 = w.alloc (.cells #[.iface T0 u0] 176) := ⟨_, rfl⟩
  rw [← hw0]
  have hb0 : w0.heap[w.heap.size]? = some (.cells #[.iface T0 u0] 176) := by rw [hw0]; exact heap_alloc_new _ _
  have hsz0 : w0.heap.size = w.heap.size + 1 := by rw [hw0]; simp
  have hg0 : w.grownBy w0 (Value.slice ad n c).ownBlock := by rw [hw0]; exact grownA _ _ _
  have e0 : w0.cell? ⟨w.heap.size, 0, none⟩ = some (.iface T0 u0) := (cell_of_blk hb0 0).trans rfl
  have hO0 : ((w0.alloc (.cells #[.int .i64 3, .int .i64 0] 59)).drew).ownsRow base 59 2 (.slice ad n c) n xs := by
    have h1 : w0.ownsRow base 59 2 (.slice ad n c) n xs := by have := (HO.out.alloc (.cells #[.iface T0 u0] 176)); rw [← hw0] at this; exact this
    exact h1.alloc (.cells #[.int .i64 3, .int .i64 0] 59)
  have HO0 := hide hO0
  have HG0 := hide hg0
  have HNw : Hid (∀ j u, [Value.int .i64 3, .int .i64 0][j]? = some u → ((w0.alloc (.cells #[.int .i64 3, .int .i64 0] 59)).drew).cell? ((⟨w0.heap.size, 0, none⟩ : Addr).add j) = some u) := hide (c2_news (w := (w0.alloc _).drew) (heap_alloc_new w0 _))
  have HB1 : Hid (base ≤ ((w0.alloc (.cells #[.int .i64 3, .int .i64 0] 59)).drew).heap.size) := hide (by show base ≤ (w0.alloc _).heap.size; simp; omega)
  have Hle0 : Hid (n + 1 + c0.length ≤ 1048576) := hide (by omega)
  have HH1 : Hid (w.heap.size < ((w0.alloc (.cells #[.int .i64 3, .int .i64 0] 59)).drew).heap.size) := hide (by show w.heap.size < (w0.alloc _).heap.size; simp; omega)
  have HSz := hide hsz0
  clear hw0 hb0 hO0 hg0 hsz0
  go_region_held3 (fun w' => w'.cell? ⟨w.heap.size, 0, none⟩ = some (.iface T0 u0)) (go_keep)
    (first
      | (refine step_append_lies _ rfl _ _ 31 rfl base 59 i0 (.agg #[.int .i64 0, .int .i64 0]) 2 16 Try.underlying31 Hi.out hz0 hz1 hz2 rfl (by decide) _ n xs rfl HO0.out ⟨w0.heap.size, 0, none⟩ 1 1 [.int .i64 3, .int .i64 0] rfl rfl HNw.out (c2_one _ _) (by omega) M1.out (by omega) HB1.out _ rfl ?_; intro g1 cap1 w1 hown1 hgrow1 hat1 hlt1; have e0_1 := hgrow1.cell (show ((w0.alloc (.cells #[.int .i64 3, .int .i64 0] 59)).drew).cell? ⟨w.heap.size, 0, none⟩ = some (.iface T0 u0) by simp [*]) (fun e => by have := HOL.out w.heap.size e.symm; omega); have HO1 := hide hown1; have HG1 := hide hgrow1; have HB1 : Hid (base ≤ w1.heap.size) := hide (Nat.le_trans HB1.out hgrow1.size); have HN1 : Hid (∀ k, (Value.slice (some ⟨g1, 0, none⟩) (n + 1) cap1).ownBlock = some k → k ≠ w.heap.size) := hide (lies_ne hat1 HOL.out HH1.out); have HL1 : Hid (w.heap.size < w1.heap.size) := hide (Nat.lt_of_lt_of_le HH1.out hgrow1.size); have HT1 : Hid (Apart w (.slice ad n c) (.slice (some ⟨g1, 0, none⟩) (n + 1) cap1)) := hide (lies_apart hat1 (Nat.le_of_lt HH1.out)); clear hown1 hgrow1 hat1)
      | ((with_reducible refine Calls.mono (HC0.out base _ _ _ w1 HO1.out (Hle0.out) HB1.out) ?_); rintro e w2 ⟨v2, rfl, ho2, hg2, ha2⟩; obtain ⟨a2, k2, rfl⟩ := iOwn_form ho2; have HO2 := hide ho2; have HG2 := hide hg2; have HA2 := hide ha2; have HB2 : Hid (base ≤ w2.heap.size) := hide (Nat.le_trans HB1.out hg2.size); have HN2 : Hid (∀ k, (Value.slice a2 (n + 1 + c0.length) k2).ownBlock = some k → k ≠ w.heap.size) := hide (apart_ne ha2 HN1.out HL1.out); have HL2 : Hid (w.heap.size < w2.heap.size) := hide (Nat.lt_of_lt_of_le HL1.out hg2.size); have e0_2 := hg2.cell e0_1 (fun e => absurd rfl (HN1.out w.heap.size e.symm)); clear ho2 hg2 ha2))
  go_wp2_with fail
  go_ret
  have hsz := HSz.out
  have hA1 := HT1.out
  have G1 : w.grownBy w1 (Value.slice ad n c).ownBlock := grownT HG0.out (grownT (grownD (grownA w0 _ _)) HG1.out (fun k hk => .inl hk)) (fun k hk => .inl hk)
  have G2 : w.grownBy w2 (Value.slice ad n c).ownBlock := grownT G1 HG2.out hA1
  have hA2 := apartT hA1 HA2.out G1.size
  refine ⟨_, rfl, ?_, G2, hA2⟩
  have h3 := HO2.out
  have e1 : n + (1 + c0.length) = n + 1 + c0.length := by omega
  have e2 : xs ++ cv (⟨3, 0⟩ :: (c0)) = xs ++ [.int .i64 3, .int .i64 0] ++ cv c0 := by simp [cv]
  rw [e1, e2]
  exact h3

set_option maxRecDepth 20000 in
set_option maxHeartbeats 4000000 in
theorem mc_app (V0 : Value) (c0 : List Cc) (h0 : MC V0 c0) (V1 : Value) (c1 : List Cc) (h1 : MC V1 c1) (base n : Nat) (xs : List Value) (v : Value) (w : World) (hown : w.ownsRow base 59 2 v n xs) (hn : n + (1 + c0.length + c1.length) ≤ 1048576) (hb : base ≤ w.heap.size) :
    Calls Try.prog 142 #[.agg #[V0, V1], v] w fun e w' => ∃ v', e = .returned v' ∧ w'.ownsRow base 59 2 v' (n + (1 + c0.length + c1.length)) (xs ++ cv (⟨4, 0⟩ :: (c0 ++ c1))) ∧ w.grownBy w' v.ownBlock ∧ Apart w v v' := by
  obtain ⟨T0, u0, f0, rfl, hm0, hf0, hc0⟩ := h0
  have HC0 := hide hc0
  obtain ⟨T1, u1, f1, rfl, hm1, hf1, hc1⟩ := h1
  have HC1 := hide hc1
  obtain ⟨i0, hi0, hz0, hz1, hz2⟩ := infoPartsT infoCe
  have Hi := hide hi0
  have HO := hide hown
  obtain ⟨ad, c, rfl⟩ := iOwn_form hown
  have hol : ∀ k, (Value.slice ad n c).ownBlock = some k → k < w.heap.size := fun k hk => (HO.out.lt k hk).2
  have HOL := hide hol
  have M1 : Hid (n + 1 ≤ maxLen) := hide (by unfold maxLen; omega)
  clear hi0 hown hol hc0 hc1
  go_enter Try.func142, Try.ntmps142
  go_wp2_with fail
  obtain ⟨w0, hw0⟩ : ∃ w0, w0 = w.alloc (.cells #[.iface T0 u0, .iface T1 u1] 178) := ⟨_, rfl⟩
  rw [← hw0]
  have hb0 : w0.heap[w.heap.size]? = some (.cells #[.iface T0 u0, .iface T1 u1] 178) := by rw [hw0]; exact heap_alloc_new _ _
  have hsz0 : w0.heap.size = w.heap.size + 1 := by rw [hw0]; simp
  have hg0 : w.grownBy w0 (Value.slice ad n c).ownBlock := by rw [hw0]; exact grownA _ _ _
  have e0 : w0.cell? ⟨w.heap.size, 0, none⟩ = some (.iface T0 u0) := (cell_of_blk hb0 0).trans rfl
  have e1 : w0.cell? ⟨w.heap.size, 1, none⟩ = some (.iface T1 u1) := (cell_of_blk hb0 1).trans rfl
  have hO0 : ((w0.alloc (.cells #[.int .i64 4, .int .i64 0] 59)).drew).ownsRow base 59 2 (.slice ad n c) n xs := by
    have h1 : w0.ownsRow base 59 2 (.slice ad n c) n xs := by have := (HO.out.alloc (.cells #[.iface T0 u0, .iface T1 u1] 178)); rw [← hw0] at this; exact this
    exact h1.alloc (.cells #[.int .i64 4, .int .i64 0] 59)
  have HO0 := hide hO0
  have HG0 := hide hg0
  have HNw : Hid (∀ j u, [Value.int .i64 4, .int .i64 0][j]? = some u → ((w0.alloc (.cells #[.int .i64 4, .int .i64 0] 59)).drew).cell? ((⟨w0.heap.size, 0, none⟩ : Addr).add j) = some u) := hide (c2_news (w := (w0.alloc _).drew) (heap_alloc_new w0 _))
  have HB1 : Hid (base ≤ ((w0.alloc (.cells #[.int .i64 4, .int .i64 0] 59)).drew).heap.size) := hide (by show base ≤ (w0.alloc _).heap.size; simp; omega)
  have Hle0 : Hid (n + 1 + c0.length ≤ 1048576) := hide (by omega)
  have Hle1 : Hid (n + 1 + c0.length + c1.length ≤ 1048576) := hide (by omega)
  have HH1 : Hid (w.heap.size < ((w0.alloc (.cells #[.int .i64 4, .int .i64 0] 59)).drew).heap.size) := hide (by show w.heap.size < (w0.alloc _).heap.size; simp; omega)
  have HSz := hide hsz0
  clear hw0 hb0 hO0 hg0 hsz0
  go_region_held3 (fun w' => w'.cell? ⟨w.heap.size, 0, none⟩ = some (.iface T0 u0) ∧ w'.cell? ⟨w.heap.size, 1, none⟩ = some (.iface T1 u1)) (go_keep)
    (first
      | (refine step_append_lies _ rfl _ _ 31 rfl base 59 i0 (.agg #[.int .i64 0, .int .i64 0]) 2 16 Try.underlying31 Hi.out hz0 hz1 hz2 rfl (by decide) _ n xs rfl HO0.out ⟨w0.heap.size, 0, none⟩ 1 1 [.int .i64 4, .int .i64 0] rfl rfl HNw.out (c2_one _ _) (by omega) M1.out (by omega) HB1.out _ rfl ?_; intro g1 cap1 w1 hown1 hgrow1 hat1 hlt1; have e0_1 := hgrow1.cell (show ((w0.alloc (.cells #[.int .i64 4, .int .i64 0] 59)).drew).cell? ⟨w.heap.size, 0, none⟩ = some (.iface T0 u0) by simp [*]) (fun e => by have := HOL.out w.heap.size e.symm; omega); have e1_1 := hgrow1.cell (show ((w0.alloc (.cells #[.int .i64 4, .int .i64 0] 59)).drew).cell? ⟨w.heap.size, 1, none⟩ = some (.iface T1 u1) by simp [*]) (fun e => by have := HOL.out w.heap.size e.symm; omega); have HO1 := hide hown1; have HG1 := hide hgrow1; have HB1 : Hid (base ≤ w1.heap.size) := hide (Nat.le_trans HB1.out hgrow1.size); have HN1 : Hid (∀ k, (Value.slice (some ⟨g1, 0, none⟩) (n + 1) cap1).ownBlock = some k → k ≠ w.heap.size) := hide (lies_ne hat1 HOL.out HH1.out); have HL1 : Hid (w.heap.size < w1.heap.size) := hide (Nat.lt_of_lt_of_le HH1.out hgrow1.size); have HT1 : Hid (Apart w (.slice ad n c) (.slice (some ⟨g1, 0, none⟩) (n + 1) cap1)) := hide (lies_apart hat1 (Nat.le_of_lt HH1.out)); clear hown1 hgrow1 hat1)
      | ((with_reducible refine Calls.mono (HC0.out base _ _ _ w1 HO1.out (Hle0.out) HB1.out) ?_); rintro e w2 ⟨v2, rfl, ho2, hg2, ha2⟩; obtain ⟨a2, k2, rfl⟩ := iOwn_form ho2; have HO2 := hide ho2; have HG2 := hide hg2; have HA2 := hide ha2; have HB2 : Hid (base ≤ w2.heap.size) := hide (Nat.le_trans HB1.out hg2.size); have HN2 : Hid (∀ k, (Value.slice a2 (n + 1 + c0.length) k2).ownBlock = some k → k ≠ w.heap.size) := hide (apart_ne ha2 HN1.out HL1.out); have HL2 : Hid (w.heap.size < w2.heap.size) := hide (Nat.lt_of_lt_of_le HL1.out hg2.size); have e0_2 := hg2.cell e0_1 (fun e => absurd rfl (HN1.out w.heap.size e.symm)); have e1_2 := hg2.cell e1_1 (fun e => absurd rfl (HN1.out w.heap.size e.symm)); clear ho2 hg2 ha2)
      | ((with_reducible refine Calls.mono (HC1.out base _ _ _ w2 HO2.out (Hle1.out) HB2.out) ?_); rintro e w3 ⟨v3, rfl, ho3, hg3, ha3⟩; obtain ⟨a3, k3, rfl⟩ := iOwn_form ho3; have HO3 := hide ho3; have HG3 := hide hg3; have HA3 := hide ha3; have HB3 : Hid (base ≤ w3.heap.size) := hide (Nat.le_trans HB2.out hg3.size); have HN3 : Hid (∀ k, (Value.slice a3 (n + 1 + c0.length + c1.length) k3).ownBlock = some k → k ≠ w.heap.size) := hide (apart_ne ha3 HN2.out HL2.out); have HL3 : Hid (w.heap.size < w3.heap.size) := hide (Nat.lt_of_lt_of_le HL2.out hg3.size); have e0_3 := hg3.cell e0_2 (fun e => absurd rfl (HN2.out w.heap.size e.symm)); have e1_3 := hg3.cell e1_2 (fun e => absurd rfl (HN2.out w.heap.size e.symm)); clear ho3 hg3 ha3))
  go_wp2_with fail
  go_ret
  have hsz := HSz.out
  have hA1 := HT1.out
  have G1 : w.grownBy w1 (Value.slice ad n c).ownBlock := grownT HG0.out (grownT (grownD (grownA w0 _ _)) HG1.out (fun k hk => .inl hk)) (fun k hk => .inl hk)
  have G2 : w.grownBy w2 (Value.slice ad n c).ownBlock := grownT G1 HG2.out hA1
  have hA2 := apartT hA1 HA2.out G1.size
  have G3 : w.grownBy w3 (Value.slice ad n c).ownBlock := grownT G2 HG3.out hA2
  have hA3 := apartT hA2 HA3.out G2.size
  refine ⟨_, rfl, ?_, G3, hA3⟩
  have h3 := HO3.out
  have e1 : n + (1 + c0.length + c1.length) = n + 1 + c0.length + c1.length := by omega
  have e2 : xs ++ cv (⟨4, 0⟩ :: (c0 ++ c1)) = xs ++ [.int .i64 4, .int .i64 0] ++ cv c0 ++ cv c1 := by simp [cv, cv_app]
  rw [e1, e2]
  exact h3

set_option maxRecDepth 20000 in
set_option maxHeartbeats 4000000 in
theorem mc_add (V0 : Value) (c0 : List Cc) (h0 : MC V0 c0) (V1 : Value) (c1 : List Cc) (h1 : MC V1 c1) (base n : Nat) (xs : List Value) (v : Value) (w : World) (hown : w.ownsRow base 59 2 v n xs) (hn : n + (1 + c0.length + c1.length) ≤ 1048576) (hb : base ≤ w.heap.size) :
    Calls Try.prog 143 #[.agg #[V0, V1], v] w fun e w' => ∃ v', e = .returned v' ∧ w'.ownsRow base 59 2 v' (n + (1 + c0.length + c1.length)) (xs ++ cv (⟨5, 0⟩ :: (c0 ++ c1))) ∧ w.grownBy w' v.ownBlock ∧ Apart w v v' := by
  obtain ⟨T0, u0, f0, rfl, hm0, hf0, hc0⟩ := h0
  have HC0 := hide hc0
  obtain ⟨T1, u1, f1, rfl, hm1, hf1, hc1⟩ := h1
  have HC1 := hide hc1
  obtain ⟨i0, hi0, hz0, hz1, hz2⟩ := infoPartsT infoCe
  have Hi := hide hi0
  have HO := hide hown
  obtain ⟨ad, c, rfl⟩ := iOwn_form hown
  have hol : ∀ k, (Value.slice ad n c).ownBlock = some k → k < w.heap.size := fun k hk => (HO.out.lt k hk).2
  have HOL := hide hol
  have M1 : Hid (n + 1 ≤ maxLen) := hide (by unfold maxLen; omega)
  clear hi0 hown hol hc0 hc1
  go_enter Try.func143, Try.ntmps143
  go_wp2_with fail
  obtain ⟨w0, hw0⟩ : ∃ w0, w0 = w.alloc (.cells #[.iface T0 u0, .iface T1 u1] 180) := ⟨_, rfl⟩
  rw [← hw0]
  have hb0 : w0.heap[w.heap.size]? = some (.cells #[.iface T0 u0, .iface T1 u1] 180) := by rw [hw0]; exact heap_alloc_new _ _
  have hsz0 : w0.heap.size = w.heap.size + 1 := by rw [hw0]; simp
  have hg0 : w.grownBy w0 (Value.slice ad n c).ownBlock := by rw [hw0]; exact grownA _ _ _
  have e0 : w0.cell? ⟨w.heap.size, 0, none⟩ = some (.iface T0 u0) := (cell_of_blk hb0 0).trans rfl
  have e1 : w0.cell? ⟨w.heap.size, 1, none⟩ = some (.iface T1 u1) := (cell_of_blk hb0 1).trans rfl
  have hO0 : ((w0.alloc (.cells #[.int .i64 5, .int .i64 0] 59)).drew).ownsRow base 59 2 (.slice ad n c) n xs := by
    have h1 : w0.ownsRow base 59 2 (.slice ad n c) n xs := by have := (HO.out.alloc (.cells #[.iface T0 u0, .iface T1 u1] 180)); rw [← hw0] at this; exact this
    exact h1.alloc (.cells #[.int .i64 5, .int .i64 0] 59)
  have HO0 := hide hO0
  have HG0 := hide hg0
  have HNw : Hid (∀ j u, [Value.int .i64 5, .int .i64 0][j]? = some u → ((w0.alloc (.cells #[.int .i64 5, .int .i64 0] 59)).drew).cell? ((⟨w0.heap.size, 0, none⟩ : Addr).add j) = some u) := hide (c2_news (w := (w0.alloc _).drew) (heap_alloc_new w0 _))
  have HB1 : Hid (base ≤ ((w0.alloc (.cells #[.int .i64 5, .int .i64 0] 59)).drew).heap.size) := hide (by show base ≤ (w0.alloc _).heap.size; simp; omega)
  have Hle0 : Hid (n + 1 + c0.length ≤ 1048576) := hide (by omega)
  have Hle1 : Hid (n + 1 + c0.length + c1.length ≤ 1048576) := hide (by omega)
  have HH1 : Hid (w.heap.size < ((w0.alloc (.cells #[.int .i64 5, .int .i64 0] 59)).drew).heap.size) := hide (by show w.heap.size < (w0.alloc _).heap.size; simp; omega)
  have HSz := hide hsz0
  clear hw0 hb0 hO0 hg0 hsz0
  go_region_held3 (fun w' => w'.cell? ⟨w.heap.size, 0, none⟩ = some (.iface T0 u0) ∧ w'.cell? ⟨w.heap.size, 1, none⟩ = some (.iface T1 u1)) (go_keep)
    (first
      | (refine step_append_lies _ rfl _ _ 31 rfl base 59 i0 (.agg #[.int .i64 0, .int .i64 0]) 2 16 Try.underlying31 Hi.out hz0 hz1 hz2 rfl (by decide) _ n xs rfl HO0.out ⟨w0.heap.size, 0, none⟩ 1 1 [.int .i64 5, .int .i64 0] rfl rfl HNw.out (c2_one _ _) (by omega) M1.out (by omega) HB1.out _ rfl ?_; intro g1 cap1 w1 hown1 hgrow1 hat1 hlt1; have e0_1 := hgrow1.cell (show ((w0.alloc (.cells #[.int .i64 5, .int .i64 0] 59)).drew).cell? ⟨w.heap.size, 0, none⟩ = some (.iface T0 u0) by simp [*]) (fun e => by have := HOL.out w.heap.size e.symm; omega); have e1_1 := hgrow1.cell (show ((w0.alloc (.cells #[.int .i64 5, .int .i64 0] 59)).drew).cell? ⟨w.heap.size, 1, none⟩ = some (.iface T1 u1) by simp [*]) (fun e => by have := HOL.out w.heap.size e.symm; omega); have HO1 := hide hown1; have HG1 := hide hgrow1; have HB1 : Hid (base ≤ w1.heap.size) := hide (Nat.le_trans HB1.out hgrow1.size); have HN1 : Hid (∀ k, (Value.slice (some ⟨g1, 0, none⟩) (n + 1) cap1).ownBlock = some k → k ≠ w.heap.size) := hide (lies_ne hat1 HOL.out HH1.out); have HL1 : Hid (w.heap.size < w1.heap.size) := hide (Nat.lt_of_lt_of_le HH1.out hgrow1.size); have HT1 : Hid (Apart w (.slice ad n c) (.slice (some ⟨g1, 0, none⟩) (n + 1) cap1)) := hide (lies_apart hat1 (Nat.le_of_lt HH1.out)); clear hown1 hgrow1 hat1)
      | ((with_reducible refine Calls.mono (HC0.out base _ _ _ w1 HO1.out (Hle0.out) HB1.out) ?_); rintro e w2 ⟨v2, rfl, ho2, hg2, ha2⟩; obtain ⟨a2, k2, rfl⟩ := iOwn_form ho2; have HO2 := hide ho2; have HG2 := hide hg2; have HA2 := hide ha2; have HB2 : Hid (base ≤ w2.heap.size) := hide (Nat.le_trans HB1.out hg2.size); have HN2 : Hid (∀ k, (Value.slice a2 (n + 1 + c0.length) k2).ownBlock = some k → k ≠ w.heap.size) := hide (apart_ne ha2 HN1.out HL1.out); have HL2 : Hid (w.heap.size < w2.heap.size) := hide (Nat.lt_of_lt_of_le HL1.out hg2.size); have e0_2 := hg2.cell e0_1 (fun e => absurd rfl (HN1.out w.heap.size e.symm)); have e1_2 := hg2.cell e1_1 (fun e => absurd rfl (HN1.out w.heap.size e.symm)); clear ho2 hg2 ha2)
      | ((with_reducible refine Calls.mono (HC1.out base _ _ _ w2 HO2.out (Hle1.out) HB2.out) ?_); rintro e w3 ⟨v3, rfl, ho3, hg3, ha3⟩; obtain ⟨a3, k3, rfl⟩ := iOwn_form ho3; have HO3 := hide ho3; have HG3 := hide hg3; have HA3 := hide ha3; have HB3 : Hid (base ≤ w3.heap.size) := hide (Nat.le_trans HB2.out hg3.size); have HN3 : Hid (∀ k, (Value.slice a3 (n + 1 + c0.length + c1.length) k3).ownBlock = some k → k ≠ w.heap.size) := hide (apart_ne ha3 HN2.out HL2.out); have HL3 : Hid (w.heap.size < w3.heap.size) := hide (Nat.lt_of_lt_of_le HL2.out hg3.size); have e0_3 := hg3.cell e0_2 (fun e => absurd rfl (HN2.out w.heap.size e.symm)); have e1_3 := hg3.cell e1_2 (fun e => absurd rfl (HN2.out w.heap.size e.symm)); clear ho3 hg3 ha3))
  go_wp2_with fail
  go_ret
  have hsz := HSz.out
  have hA1 := HT1.out
  have G1 : w.grownBy w1 (Value.slice ad n c).ownBlock := grownT HG0.out (grownT (grownD (grownA w0 _ _)) HG1.out (fun k hk => .inl hk)) (fun k hk => .inl hk)
  have G2 : w.grownBy w2 (Value.slice ad n c).ownBlock := grownT G1 HG2.out hA1
  have hA2 := apartT hA1 HA2.out G1.size
  have G3 : w.grownBy w3 (Value.slice ad n c).ownBlock := grownT G2 HG3.out hA2
  have hA3 := apartT hA2 HA3.out G2.size
  refine ⟨_, rfl, ?_, G3, hA3⟩
  have h3 := HO3.out
  have e1 : n + (1 + c0.length + c1.length) = n + 1 + c0.length + c1.length := by omega
  have e2 : xs ++ cv (⟨5, 0⟩ :: (c0 ++ c1)) = xs ++ [.int .i64 5, .int .i64 0] ++ cv c0 ++ cv c1 := by simp [cv, cv_app]
  rw [e1, e2]
  exact h3

set_option maxRecDepth 20000 in
set_option maxHeartbeats 4000000 in
theorem mc_if (V0 : Value) (c0 : List Cc) (h0 : MC V0 c0) (V1 : Value) (c1 : List Cc) (h1 : MC V1 c1) (V2 : Value) (c2 : List Cc) (h2 : MC V2 c2) (base n : Nat) (xs : List Value) (v : Value) (w : World) (hown : w.ownsRow base 59 2 v n xs) (hn : n + (1 + c0.length + c1.length + c2.length) ≤ 1048576) (hb : base ≤ w.heap.size) :
    Calls Try.prog 144 #[.agg #[V0, V1, V2], v] w fun e w' => ∃ v', e = .returned v' ∧ w'.ownsRow base 59 2 v' (n + (1 + c0.length + c1.length + c2.length)) (xs ++ cv (⟨6, 0⟩ :: (c0 ++ c1 ++ c2))) ∧ w.grownBy w' v.ownBlock ∧ Apart w v v' := by
  obtain ⟨T0, u0, f0, rfl, hm0, hf0, hc0⟩ := h0
  have HC0 := hide hc0
  obtain ⟨T1, u1, f1, rfl, hm1, hf1, hc1⟩ := h1
  have HC1 := hide hc1
  obtain ⟨T2, u2, f2, rfl, hm2, hf2, hc2⟩ := h2
  have HC2 := hide hc2
  obtain ⟨i0, hi0, hz0, hz1, hz2⟩ := infoPartsT infoCe
  have Hi := hide hi0
  have HO := hide hown
  obtain ⟨ad, c, rfl⟩ := iOwn_form hown
  have hol : ∀ k, (Value.slice ad n c).ownBlock = some k → k < w.heap.size := fun k hk => (HO.out.lt k hk).2
  have HOL := hide hol
  have M1 : Hid (n + 1 ≤ maxLen) := hide (by unfold maxLen; omega)
  clear hi0 hown hol hc0 hc1 hc2
  go_enter Try.func144, Try.ntmps144
  go_wp2_with fail
  obtain ⟨w0, hw0⟩ : ∃ w0, w0 = w.alloc (.cells #[.iface T0 u0, .iface T1 u1, .iface T2 u2] 182) := ⟨_, rfl⟩
  rw [← hw0]
  have hb0 : w0.heap[w.heap.size]? = some (.cells #[.iface T0 u0, .iface T1 u1, .iface T2 u2] 182) := by rw [hw0]; exact heap_alloc_new _ _
  have hsz0 : w0.heap.size = w.heap.size + 1 := by rw [hw0]; simp
  have hg0 : w.grownBy w0 (Value.slice ad n c).ownBlock := by rw [hw0]; exact grownA _ _ _
  have e0 : w0.cell? ⟨w.heap.size, 0, none⟩ = some (.iface T0 u0) := (cell_of_blk hb0 0).trans rfl
  have e1 : w0.cell? ⟨w.heap.size, 1, none⟩ = some (.iface T1 u1) := (cell_of_blk hb0 1).trans rfl
  have e2 : w0.cell? ⟨w.heap.size, 2, none⟩ = some (.iface T2 u2) := (cell_of_blk hb0 2).trans rfl
  have hO0 : ((w0.alloc (.cells #[.int .i64 6, .int .i64 0] 59)).drew).ownsRow base 59 2 (.slice ad n c) n xs := by
    have h1 : w0.ownsRow base 59 2 (.slice ad n c) n xs := by have := (HO.out.alloc (.cells #[.iface T0 u0, .iface T1 u1, .iface T2 u2] 182)); rw [← hw0] at this; exact this
    exact h1.alloc (.cells #[.int .i64 6, .int .i64 0] 59)
  have HO0 := hide hO0
  have HG0 := hide hg0
  have HNw : Hid (∀ j u, [Value.int .i64 6, .int .i64 0][j]? = some u → ((w0.alloc (.cells #[.int .i64 6, .int .i64 0] 59)).drew).cell? ((⟨w0.heap.size, 0, none⟩ : Addr).add j) = some u) := hide (c2_news (w := (w0.alloc _).drew) (heap_alloc_new w0 _))
  have HB1 : Hid (base ≤ ((w0.alloc (.cells #[.int .i64 6, .int .i64 0] 59)).drew).heap.size) := hide (by show base ≤ (w0.alloc _).heap.size; simp; omega)
  have Hle0 : Hid (n + 1 + c0.length ≤ 1048576) := hide (by omega)
  have Hle1 : Hid (n + 1 + c0.length + c1.length ≤ 1048576) := hide (by omega)
  have Hle2 : Hid (n + 1 + c0.length + c1.length + c2.length ≤ 1048576) := hide (by omega)
  have HH1 : Hid (w.heap.size < ((w0.alloc (.cells #[.int .i64 6, .int .i64 0] 59)).drew).heap.size) := hide (by show w.heap.size < (w0.alloc _).heap.size; simp; omega)
  have HSz := hide hsz0
  clear hw0 hb0 hO0 hg0 hsz0
  go_region_held3 (fun w' => w'.cell? ⟨w.heap.size, 0, none⟩ = some (.iface T0 u0) ∧ w'.cell? ⟨w.heap.size, 1, none⟩ = some (.iface T1 u1) ∧ w'.cell? ⟨w.heap.size, 2, none⟩ = some (.iface T2 u2)) (go_keep)
    (first
      | (refine step_append_lies _ rfl _ _ 31 rfl base 59 i0 (.agg #[.int .i64 0, .int .i64 0]) 2 16 Try.underlying31 Hi.out hz0 hz1 hz2 rfl (by decide) _ n xs rfl HO0.out ⟨w0.heap.size, 0, none⟩ 1 1 [.int .i64 6, .int .i64 0] rfl rfl HNw.out (c2_one _ _) (by omega) M1.out (by omega) HB1.out _ rfl ?_; intro g1 cap1 w1 hown1 hgrow1 hat1 hlt1; have e0_1 := hgrow1.cell (show ((w0.alloc (.cells #[.int .i64 6, .int .i64 0] 59)).drew).cell? ⟨w.heap.size, 0, none⟩ = some (.iface T0 u0) by simp [*]) (fun e => by have := HOL.out w.heap.size e.symm; omega); have e1_1 := hgrow1.cell (show ((w0.alloc (.cells #[.int .i64 6, .int .i64 0] 59)).drew).cell? ⟨w.heap.size, 1, none⟩ = some (.iface T1 u1) by simp [*]) (fun e => by have := HOL.out w.heap.size e.symm; omega); have e2_1 := hgrow1.cell (show ((w0.alloc (.cells #[.int .i64 6, .int .i64 0] 59)).drew).cell? ⟨w.heap.size, 2, none⟩ = some (.iface T2 u2) by simp [*]) (fun e => by have := HOL.out w.heap.size e.symm; omega); have HO1 := hide hown1; have HG1 := hide hgrow1; have HB1 : Hid (base ≤ w1.heap.size) := hide (Nat.le_trans HB1.out hgrow1.size); have HN1 : Hid (∀ k, (Value.slice (some ⟨g1, 0, none⟩) (n + 1) cap1).ownBlock = some k → k ≠ w.heap.size) := hide (lies_ne hat1 HOL.out HH1.out); have HL1 : Hid (w.heap.size < w1.heap.size) := hide (Nat.lt_of_lt_of_le HH1.out hgrow1.size); have HT1 : Hid (Apart w (.slice ad n c) (.slice (some ⟨g1, 0, none⟩) (n + 1) cap1)) := hide (lies_apart hat1 (Nat.le_of_lt HH1.out)); clear hown1 hgrow1 hat1)
      | ((with_reducible refine Calls.mono (HC0.out base _ _ _ w1 HO1.out (Hle0.out) HB1.out) ?_); rintro e w2 ⟨v2, rfl, ho2, hg2, ha2⟩; obtain ⟨a2, k2, rfl⟩ := iOwn_form ho2; have HO2 := hide ho2; have HG2 := hide hg2; have HA2 := hide ha2; have HB2 : Hid (base ≤ w2.heap.size) := hide (Nat.le_trans HB1.out hg2.size); have HN2 : Hid (∀ k, (Value.slice a2 (n + 1 + c0.length) k2).ownBlock = some k → k ≠ w.heap.size) := hide (apart_ne ha2 HN1.out HL1.out); have HL2 : Hid (w.heap.size < w2.heap.size) := hide (Nat.lt_of_lt_of_le HL1.out hg2.size); have e0_2 := hg2.cell e0_1 (fun e => absurd rfl (HN1.out w.heap.size e.symm)); have e1_2 := hg2.cell e1_1 (fun e => absurd rfl (HN1.out w.heap.size e.symm)); have e2_2 := hg2.cell e2_1 (fun e => absurd rfl (HN1.out w.heap.size e.symm)); clear ho2 hg2 ha2)
      | ((with_reducible refine Calls.mono (HC1.out base _ _ _ w2 HO2.out (Hle1.out) HB2.out) ?_); rintro e w3 ⟨v3, rfl, ho3, hg3, ha3⟩; obtain ⟨a3, k3, rfl⟩ := iOwn_form ho3; have HO3 := hide ho3; have HG3 := hide hg3; have HA3 := hide ha3; have HB3 : Hid (base ≤ w3.heap.size) := hide (Nat.le_trans HB2.out hg3.size); have HN3 : Hid (∀ k, (Value.slice a3 (n + 1 + c0.length + c1.length) k3).ownBlock = some k → k ≠ w.heap.size) := hide (apart_ne ha3 HN2.out HL2.out); have HL3 : Hid (w.heap.size < w3.heap.size) := hide (Nat.lt_of_lt_of_le HL2.out hg3.size); have e0_3 := hg3.cell e0_2 (fun e => absurd rfl (HN2.out w.heap.size e.symm)); have e1_3 := hg3.cell e1_2 (fun e => absurd rfl (HN2.out w.heap.size e.symm)); have e2_3 := hg3.cell e2_2 (fun e => absurd rfl (HN2.out w.heap.size e.symm)); clear ho3 hg3 ha3)
      | ((with_reducible refine Calls.mono (HC2.out base _ _ _ w3 HO3.out (Hle2.out) HB3.out) ?_); rintro e w4 ⟨v4, rfl, ho4, hg4, ha4⟩; obtain ⟨a4, k4, rfl⟩ := iOwn_form ho4; have HO4 := hide ho4; have HG4 := hide hg4; have HA4 := hide ha4; have HB4 : Hid (base ≤ w4.heap.size) := hide (Nat.le_trans HB3.out hg4.size); have HN4 : Hid (∀ k, (Value.slice a4 (n + 1 + c0.length + c1.length + c2.length) k4).ownBlock = some k → k ≠ w.heap.size) := hide (apart_ne ha4 HN3.out HL3.out); have HL4 : Hid (w.heap.size < w4.heap.size) := hide (Nat.lt_of_lt_of_le HL3.out hg4.size); have e0_4 := hg4.cell e0_3 (fun e => absurd rfl (HN3.out w.heap.size e.symm)); have e1_4 := hg4.cell e1_3 (fun e => absurd rfl (HN3.out w.heap.size e.symm)); have e2_4 := hg4.cell e2_3 (fun e => absurd rfl (HN3.out w.heap.size e.symm)); clear ho4 hg4 ha4))
  go_wp2_with fail
  go_ret
  have hsz := HSz.out
  have hA1 := HT1.out
  have G1 : w.grownBy w1 (Value.slice ad n c).ownBlock := grownT HG0.out (grownT (grownD (grownA w0 _ _)) HG1.out (fun k hk => .inl hk)) (fun k hk => .inl hk)
  have G2 : w.grownBy w2 (Value.slice ad n c).ownBlock := grownT G1 HG2.out hA1
  have hA2 := apartT hA1 HA2.out G1.size
  have G3 : w.grownBy w3 (Value.slice ad n c).ownBlock := grownT G2 HG3.out hA2
  have hA3 := apartT hA2 HA3.out G2.size
  have G4 : w.grownBy w4 (Value.slice ad n c).ownBlock := grownT G3 HG4.out hA3
  have hA4 := apartT hA3 HA4.out G3.size
  refine ⟨_, rfl, ?_, G4, hA4⟩
  have h3 := HO4.out
  have e1 : n + (1 + c0.length + c1.length + c2.length) = n + 1 + c0.length + c1.length + c2.length := by omega
  have e2 : xs ++ cv (⟨6, 0⟩ :: (c0 ++ c1 ++ c2)) = xs ++ [.int .i64 6, .int .i64 0] ++ cv c0 ++ cv c1 ++ cv c2 := by simp [cv, cv_app]
  rw [e1, e2]
  exact h3

set_option maxRecDepth 20000 in
set_option maxHeartbeats 4000000 in
theorem mc_let (V0 : Value) (c0 : List Cc) (h0 : MC V0 c0) (V1 : Value) (c1 : List Cc) (h1 : MC V1 c1) (base n : Nat) (xs : List Value) (v : Value) (w : World) (hown : w.ownsRow base 59 2 v n xs) (hn : n + (1 + c0.length + c1.length) ≤ 1048576) (hb : base ≤ w.heap.size) :
    Calls Try.prog 145 #[.agg #[V0, V1], v] w fun e w' => ∃ v', e = .returned v' ∧ w'.ownsRow base 59 2 v' (n + (1 + c0.length + c1.length)) (xs ++ cv (⟨7, 0⟩ :: (c0 ++ c1))) ∧ w.grownBy w' v.ownBlock ∧ Apart w v v' := by
  obtain ⟨T0, u0, f0, rfl, hm0, hf0, hc0⟩ := h0
  have HC0 := hide hc0
  obtain ⟨T1, u1, f1, rfl, hm1, hf1, hc1⟩ := h1
  have HC1 := hide hc1
  obtain ⟨i0, hi0, hz0, hz1, hz2⟩ := infoPartsT infoCe
  have Hi := hide hi0
  have HO := hide hown
  obtain ⟨ad, c, rfl⟩ := iOwn_form hown
  have hol : ∀ k, (Value.slice ad n c).ownBlock = some k → k < w.heap.size := fun k hk => (HO.out.lt k hk).2
  have HOL := hide hol
  have M1 : Hid (n + 1 ≤ maxLen) := hide (by unfold maxLen; omega)
  clear hi0 hown hol hc0 hc1
  go_enter Try.func145, Try.ntmps145
  go_wp2_with fail
  obtain ⟨w0, hw0⟩ : ∃ w0, w0 = w.alloc (.cells #[.iface T0 u0, .iface T1 u1] 184) := ⟨_, rfl⟩
  rw [← hw0]
  have hb0 : w0.heap[w.heap.size]? = some (.cells #[.iface T0 u0, .iface T1 u1] 184) := by rw [hw0]; exact heap_alloc_new _ _
  have hsz0 : w0.heap.size = w.heap.size + 1 := by rw [hw0]; simp
  have hg0 : w.grownBy w0 (Value.slice ad n c).ownBlock := by rw [hw0]; exact grownA _ _ _
  have e0 : w0.cell? ⟨w.heap.size, 0, none⟩ = some (.iface T0 u0) := (cell_of_blk hb0 0).trans rfl
  have e1 : w0.cell? ⟨w.heap.size, 1, none⟩ = some (.iface T1 u1) := (cell_of_blk hb0 1).trans rfl
  have hO0 : ((w0.alloc (.cells #[.int .i64 7, .int .i64 0] 59)).drew).ownsRow base 59 2 (.slice ad n c) n xs := by
    have h1 : w0.ownsRow base 59 2 (.slice ad n c) n xs := by have := (HO.out.alloc (.cells #[.iface T0 u0, .iface T1 u1] 184)); rw [← hw0] at this; exact this
    exact h1.alloc (.cells #[.int .i64 7, .int .i64 0] 59)
  have HO0 := hide hO0
  have HG0 := hide hg0
  have HNw : Hid (∀ j u, [Value.int .i64 7, .int .i64 0][j]? = some u → ((w0.alloc (.cells #[.int .i64 7, .int .i64 0] 59)).drew).cell? ((⟨w0.heap.size, 0, none⟩ : Addr).add j) = some u) := hide (c2_news (w := (w0.alloc _).drew) (heap_alloc_new w0 _))
  have HB1 : Hid (base ≤ ((w0.alloc (.cells #[.int .i64 7, .int .i64 0] 59)).drew).heap.size) := hide (by show base ≤ (w0.alloc _).heap.size; simp; omega)
  have Hle0 : Hid (n + 1 + c0.length ≤ 1048576) := hide (by omega)
  have Hle1 : Hid (n + 1 + c0.length + c1.length ≤ 1048576) := hide (by omega)
  have HH1 : Hid (w.heap.size < ((w0.alloc (.cells #[.int .i64 7, .int .i64 0] 59)).drew).heap.size) := hide (by show w.heap.size < (w0.alloc _).heap.size; simp; omega)
  have HSz := hide hsz0
  clear hw0 hb0 hO0 hg0 hsz0
  go_region_held3 (fun w' => w'.cell? ⟨w.heap.size, 0, none⟩ = some (.iface T0 u0) ∧ w'.cell? ⟨w.heap.size, 1, none⟩ = some (.iface T1 u1)) (go_keep)
    (first
      | (refine step_append_lies _ rfl _ _ 31 rfl base 59 i0 (.agg #[.int .i64 0, .int .i64 0]) 2 16 Try.underlying31 Hi.out hz0 hz1 hz2 rfl (by decide) _ n xs rfl HO0.out ⟨w0.heap.size, 0, none⟩ 1 1 [.int .i64 7, .int .i64 0] rfl rfl HNw.out (c2_one _ _) (by omega) M1.out (by omega) HB1.out _ rfl ?_; intro g1 cap1 w1 hown1 hgrow1 hat1 hlt1; have e0_1 := hgrow1.cell (show ((w0.alloc (.cells #[.int .i64 7, .int .i64 0] 59)).drew).cell? ⟨w.heap.size, 0, none⟩ = some (.iface T0 u0) by simp [*]) (fun e => by have := HOL.out w.heap.size e.symm; omega); have e1_1 := hgrow1.cell (show ((w0.alloc (.cells #[.int .i64 7, .int .i64 0] 59)).drew).cell? ⟨w.heap.size, 1, none⟩ = some (.iface T1 u1) by simp [*]) (fun e => by have := HOL.out w.heap.size e.symm; omega); have HO1 := hide hown1; have HG1 := hide hgrow1; have HB1 : Hid (base ≤ w1.heap.size) := hide (Nat.le_trans HB1.out hgrow1.size); have HN1 : Hid (∀ k, (Value.slice (some ⟨g1, 0, none⟩) (n + 1) cap1).ownBlock = some k → k ≠ w.heap.size) := hide (lies_ne hat1 HOL.out HH1.out); have HL1 : Hid (w.heap.size < w1.heap.size) := hide (Nat.lt_of_lt_of_le HH1.out hgrow1.size); have HT1 : Hid (Apart w (.slice ad n c) (.slice (some ⟨g1, 0, none⟩) (n + 1) cap1)) := hide (lies_apart hat1 (Nat.le_of_lt HH1.out)); clear hown1 hgrow1 hat1)
      | ((with_reducible refine Calls.mono (HC0.out base _ _ _ w1 HO1.out (Hle0.out) HB1.out) ?_); rintro e w2 ⟨v2, rfl, ho2, hg2, ha2⟩; obtain ⟨a2, k2, rfl⟩ := iOwn_form ho2; have HO2 := hide ho2; have HG2 := hide hg2; have HA2 := hide ha2; have HB2 : Hid (base ≤ w2.heap.size) := hide (Nat.le_trans HB1.out hg2.size); have HN2 : Hid (∀ k, (Value.slice a2 (n + 1 + c0.length) k2).ownBlock = some k → k ≠ w.heap.size) := hide (apart_ne ha2 HN1.out HL1.out); have HL2 : Hid (w.heap.size < w2.heap.size) := hide (Nat.lt_of_lt_of_le HL1.out hg2.size); have e0_2 := hg2.cell e0_1 (fun e => absurd rfl (HN1.out w.heap.size e.symm)); have e1_2 := hg2.cell e1_1 (fun e => absurd rfl (HN1.out w.heap.size e.symm)); clear ho2 hg2 ha2)
      | ((with_reducible refine Calls.mono (HC1.out base _ _ _ w2 HO2.out (Hle1.out) HB2.out) ?_); rintro e w3 ⟨v3, rfl, ho3, hg3, ha3⟩; obtain ⟨a3, k3, rfl⟩ := iOwn_form ho3; have HO3 := hide ho3; have HG3 := hide hg3; have HA3 := hide ha3; have HB3 : Hid (base ≤ w3.heap.size) := hide (Nat.le_trans HB2.out hg3.size); have HN3 : Hid (∀ k, (Value.slice a3 (n + 1 + c0.length + c1.length) k3).ownBlock = some k → k ≠ w.heap.size) := hide (apart_ne ha3 HN2.out HL2.out); have HL3 : Hid (w.heap.size < w3.heap.size) := hide (Nat.lt_of_lt_of_le HL2.out hg3.size); have e0_3 := hg3.cell e0_2 (fun e => absurd rfl (HN2.out w.heap.size e.symm)); have e1_3 := hg3.cell e1_2 (fun e => absurd rfl (HN2.out w.heap.size e.symm)); clear ho3 hg3 ha3))
  go_wp2_with fail
  go_ret
  have hsz := HSz.out
  have hA1 := HT1.out
  have G1 : w.grownBy w1 (Value.slice ad n c).ownBlock := grownT HG0.out (grownT (grownD (grownA w0 _ _)) HG1.out (fun k hk => .inl hk)) (fun k hk => .inl hk)
  have G2 : w.grownBy w2 (Value.slice ad n c).ownBlock := grownT G1 HG2.out hA1
  have hA2 := apartT hA1 HA2.out G1.size
  have G3 : w.grownBy w3 (Value.slice ad n c).ownBlock := grownT G2 HG3.out hA2
  have hA3 := apartT hA2 HA3.out G2.size
  refine ⟨_, rfl, ?_, G3, hA3⟩
  have h3 := HO3.out
  have e1 : n + (1 + c0.length + c1.length) = n + 1 + c0.length + c1.length := by omega
  have e2 : xs ++ cv (⟨7, 0⟩ :: (c0 ++ c1)) = xs ++ [.int .i64 7, .int .i64 0] ++ cv c0 ++ cv c1 := by simp [cv, cv_app]
  rw [e1, e2]
  exact h3

end Go.Proofs.Ytdajalchdbgooaa.W

/-
  Parts made by closures: contracts of handed and of its function literals. Conditions: parts of a good term whose variables are bound around it.
-/
import Derived.Test.YtnmkbpflbfhpnaaHnD
import Derived.Test.YtnmkbpflbfhpnaaMaP
namespace Go.Proofs.Ytnmkbpflbfhpnaa.W
open Go.ChangeShapes Go.WideShapes Go.ChangeAt Go.RowKit
set_option linter.unusedVariables false

theorem ent_h1 : Enters 36 := fun args w => by kernel_rfl
theorem ent_h2 : Enters 39 := fun args w => by kernel_rfl
theorem ent_h3 : Enters 41 := fun args w => by kernel_rfl
theorem ent_h4 : Enters 44 := fun args w => by kernel_rfl
theorem ent_h5 : Enters 46 := fun args w => by kernel_rfl
theorem ent_h6 : Enters 47 := fun args w => by kernel_rfl
theorem Sr.func {n : Int} {w : World} {v : Value} {ρ : Int → M} (h : Sr n w v ρ) (hn : n ≠ 0) : ∃ fid cap, v = .func (.func fid) #[] cap := by
  rcases h with h | ⟨fid, cap, h, -⟩
  · exact absurd h.2 hn
  · exact ⟨fid, cap, h⟩
theorem belD (w : World) : Below w.heap.size w w.drew := belowDrew (Below.refl _ _)

set_option maxRecDepth 20000 in
set_option maxHeartbeats 4000000 in
theorem h1_bd (bx ba : Nat) (T : TypeId) (q va : Value) (n : Int) (ρ : Int → M) (H : (Int → M) → M) (w : World) (h0n : 0 ≤ n) (hn : n ≤ 1000000) (hbx : bx < w.heap.size) (hba : ba < w.heap.size) (hcx : w.cell? ⟨bx, 0, none⟩ = some (.iface T q)) (hca : w.cell? ⟨ba, 0, none⟩ = some va) (hp : HdC (.iface T q) (n + 1) H) (ha : Sr n w va ρ) :
    Bd w (.func (.func 36) #[] #[.pointer (some ⟨bx, 0, none⟩), .pointer (some ⟨ba, 0, none⟩)]) (fun b => H (extM ρ b)) := by
  refine ⟨_, _, rfl, ent_h1, fun vm m w' hw hm => ?_⟩
  have cx := (hw.cell (p := ⟨bx, 0, none⟩) hbx).trans hcx
  have ca := (hw.cell (p := ⟨ba, 0, none⟩) hba).trans hca
  have HP := hide hp
  unfold HdC at HP
  have HA := hide ((ha.below hw).below (belD w'))
  have HM := hide (hm.below (belD w'))
  have HW0 := hide (belD w')
  obtain ⟨fidm, capm, rfl⟩ := hm.form
  have hfa := ha.form
  clear hw hp ha hm hcx hca
  show Calls _ _ #[.func (.func fidm) #[] capm, .pointer (some ⟨bx, 0, none⟩), .pointer (some ⟨ba, 0, none⟩)] _ _
  rcases hfa with rfl | ⟨fida, capa, rfl⟩
  · go_enter Try.func36, Try.ntmps36
    go_wp2_with fail
    go_region_held3 (fun w1 => w1.cell? ⟨bx, 0, none⟩ = some (.iface T q) ∧ w1.cell? ⟨ba, 0, none⟩ = some (.nilFunc)) (go_keep)
      (first
        | ((with_reducible refine Calls.mono (with_any _ _ m n ρ _ hn HM.out HA.out) ?_); rintro e w1 ⟨v1, rfl, hs1, hx⟩; obtain ⟨fid1, cap1, rfl⟩ := hs1.func (by omega); have cx1 := (hx.cell (p := ⟨bx, 0, none⟩) (World.block_lt_of_cell? _ _ cx)).trans cx; have ca1 := (hx.cell (p := ⟨ba, 0, none⟩) (World.block_lt_of_cell? _ _ ca)).trans ca; have HS1 := hide hs1; have HW1 := hide (HW0.out.trans (hx.mono HW0.out.size)); clear hs1 hx)
        | ((with_reducible refine Calls.mono (HP.out _ _ _ HS1.out) ?_); rintro e w2 ⟨v2, rfl, hm2, hx⟩; have HM2 := hide hm2; obtain ⟨fid2, cap2, rfl⟩ := hm2.form; have cx2 := (hx.cell (p := ⟨bx, 0, none⟩) (World.block_lt_of_cell? _ _ cx1)).trans cx1; have ca2 := (hx.cell (p := ⟨ba, 0, none⟩) (World.block_lt_of_cell? _ _ ca1)).trans ca1; have HW2 := hide (HW1.out.trans (hx.mono HW1.out.size)); clear hm2 hx))
    go_wp2_with fail
    go_ret
    exact ⟨_, rfl, HM2.out, HW2.out⟩
  · go_enter Try.func36, Try.ntmps36
    go_wp2_with fail
    go_region_held3 (fun w1 => w1.cell? ⟨bx, 0, none⟩ = some (.iface T q) ∧ w1.cell? ⟨ba, 0, none⟩ = some (.func (.func fida) #[] capa)) (go_keep)
      (first
        | ((with_reducible refine Calls.mono (with_any _ _ m n ρ _ hn HM.out HA.out) ?_); rintro e w1 ⟨v1, rfl, hs1, hx⟩; obtain ⟨fid1, cap1, rfl⟩ := hs1.func (by omega); have cx1 := (hx.cell (p := ⟨bx, 0, none⟩) (World.block_lt_of_cell? _ _ cx)).trans cx; have ca1 := (hx.cell (p := ⟨ba, 0, none⟩) (World.block_lt_of_cell? _ _ ca)).trans ca; have HS1 := hide hs1; have HW1 := hide (HW0.out.trans (hx.mono HW0.out.size)); clear hs1 hx)
        | ((with_reducible refine Calls.mono (HP.out _ _ _ HS1.out) ?_); rintro e w2 ⟨v2, rfl, hm2, hx⟩; have HM2 := hide hm2; obtain ⟨fid2, cap2, rfl⟩ := hm2.form; have cx2 := (hx.cell (p := ⟨bx, 0, none⟩) (World.block_lt_of_cell? _ _ cx1)).trans cx1; have ca2 := (hx.cell (p := ⟨ba, 0, none⟩) (World.block_lt_of_cell? _ _ ca1)).trans ca1; have HW2 := hide (HW1.out.trans (hx.mono HW1.out.size)); clear hm2 hx))
    go_wp2_with fail
    go_ret
    exact ⟨_, rfl, HM2.out, HW2.out⟩

set_option maxHeartbeats 1000000 in
theorem h2_t3 (w : World) : T3 w (.func (.func 39) #[] #[]) (fun a b next => appM (appM a b) next) := by
  refine ⟨_, _, rfl, ent_h2, fun va vb vc a b c w' hw ha hb hc => ?_⟩
  have HA := hide ha
  have HB := hide hb
  have HC := hide hc
  obtain ⟨fida, capa, rfl⟩ := ha.form
  obtain ⟨fidb, capb, rfl⟩ := hb.form
  obtain ⟨fidc, capc, rfl⟩ := hc.form
  clear ha hb hc hw
  show Calls _ _ #[.func (.func fida) #[] capa, .func (.func fidb) #[] capb, .func (.func fidc) #[] capc] _ _
  go_enter Try.func39, Try.ntmps39
  go_wp2_with fail
  refine Calls.mono (makeApp_any _ _ _ _ _ HA.out HB.out) ?_
  rintro e w1 ⟨v1, rfl, hm1, hb1⟩
  have HM1 := hide hm1
  obtain ⟨fid1, cap1, rfl⟩ := hm1.form
  have HB1 := hide hb1
  clear hm1 hb1
  go_wp2_with fail
  refine Calls.mono (makeApp_any _ _ _ _ _ HM1.out (HC.out.below HB1.out)) ?_
  rintro e w2 ⟨v2, rfl, hm2, hb2⟩
  have HM2 := hide hm2
  obtain ⟨fid2, cap2, rfl⟩ := hm2.form
  have HB2 := hide hb2
  clear hm2 hb2
  go_wp2_with fail
  go_ret
  exact ⟨_, rfl, HM2.out, HB1.out.trans (HB2.out.mono HB1.out.size)⟩

set_option maxHeartbeats 1000000 in
theorem h3_t3 (w : World) : T3 w (.func (.func 41) #[] #[]) (fun a b next => appM next (addM a b)) := by
  refine ⟨_, _, rfl, ent_h3, fun va vb vc a b c w' hw ha hb hc => ?_⟩
  have HA := hide ha
  have HB := hide hb
  have HC := hide hc
  obtain ⟨fida, capa, rfl⟩ := ha.form
  obtain ⟨fidb, capb, rfl⟩ := hb.form
  obtain ⟨fidc, capc, rfl⟩ := hc.form
  clear ha hb hc hw
  show Calls _ _ #[.func (.func fida) #[] capa, .func (.func fidb) #[] capb, .func (.func fidc) #[] capc] _ _
  go_enter Try.func41, Try.ntmps41
  go_wp2_with fail
  refine Calls.mono (makeAdd_any _ _ _ _ _ HA.out HB.out) ?_
  rintro e w1 ⟨v1, rfl, hm1, hb1⟩
  have HM1 := hide hm1
  obtain ⟨fid1, cap1, rfl⟩ := hm1.form
  have HB1 := hide hb1
  clear hm1 hb1
  go_wp2_with fail
  refine Calls.mono (makeApp_any _ _ _ _ _ (HC.out.below HB1.out) HM1.out) ?_
  rintro e w2 ⟨v2, rfl, hm2, hb2⟩
  have HM2 := hide hm2
  obtain ⟨fid2, cap2, rfl⟩ := hm2.form
  have HB2 := hide hb2
  clear hm2 hb2
  go_wp2_with fail
  go_ret
  exact ⟨_, rfl, HM2.out, HB1.out.trans (HB2.out.mono HB1.out.size)⟩

set_option maxRecDepth 20000 in
set_option maxHeartbeats 8000000 in
theorem h4_t2 (bx ba : Nat) (T1 T2' : TypeId) (q1 q2 va : Value) (n : Int) (ρ : Int → M) (H1 H2 : (Int → M) → M) (w : World) (hbx : bx < w.heap.size) (hba : ba < w.heap.size) (hc1 : w.cell? ⟨bx, 1, none⟩ = some (.iface T1 q1)) (hc2 : w.cell? ⟨bx, 2, none⟩ = some (.iface T2' q2)) (hca : w.cell? ⟨ba, 0, none⟩ = some va) (hp1 : HdC (.iface T1 q1) n H1) (hp2 : HdC (.iface T2' q2) n H2) (ha : Sr n w va ρ) :
    T2 w (.func (.func 44) #[] #[.pointer (some ⟨bx, 0, none⟩), .pointer (some ⟨ba, 0, none⟩)]) (fun a next => ifM a (appM (H1 ρ) next) (appM (H2 ρ) next)) := by
  refine ⟨_, _, rfl, ent_h4, fun vs vn s m w' hw hs hm => ?_⟩
  have c1 := (hw.cell (p := ⟨bx, 1, none⟩) hbx).trans hc1
  have c2 := (hw.cell (p := ⟨bx, 2, none⟩) hbx).trans hc2
  have ca := (hw.cell (p := ⟨ba, 0, none⟩) hba).trans hca
  have HP1 := hide hp1
  have HP2 := hide hp2
  unfold HdC at HP1 HP2
  have HA := hide (ha.below hw)
  have HN := hide hm
  have HS := hide hs
  have HW0 := hide (belD w')
  obtain ⟨fidn, capn, rfl⟩ := hm.form
  obtain ⟨fids, caps, rfl⟩ := hs.form
  have hfa := ha.form
  clear hw hp1 hp2 ha hm hs hc1 hc2 hca
  show Calls _ _ #[.func (.func fids) #[] caps, .func (.func fidn) #[] capn, .pointer (some ⟨bx, 0, none⟩), .pointer (some ⟨ba, 0, none⟩)] _ _
  rcases hfa with rfl | ⟨fida, capa, rfl⟩
  · go_enter Try.func44, Try.ntmps44
    go_wp2_with fail
    go_region_held3 (fun w1 => w1.cell? ⟨bx, 1, none⟩ = some (.iface T1 q1) ∧ w1.cell? ⟨bx, 2, none⟩ = some (.iface T2' q2) ∧ w1.cell? ⟨ba, 0, none⟩ = some (.nilFunc)) (go_keep)
      (first
        | ((with_reducible refine Calls.mono (HP1.out _ _ _ (HA.out.below HW0.out)) ?_); rintro e w1 ⟨v1, rfl, hm, hx⟩; have HM1 := hide hm; obtain ⟨fid1, cap1, rfl⟩ := hm.form; have c1_1 := (hx.cell (p := ⟨bx, 1, none⟩) (World.block_lt_of_cell? _ _ c1)).trans c1; have c2_1 := (hx.cell (p := ⟨bx, 2, none⟩) (World.block_lt_of_cell? _ _ c2)).trans c2; have ca_1 := (hx.cell (p := ⟨ba, 0, none⟩) (World.block_lt_of_cell? _ _ ca)).trans ca; have HX1 := hide hx; have HW1 := hide (HW0.out.trans (hx.mono HW0.out.size)); clear hm hx)
        | ((with_reducible refine Calls.mono (makeApp_any (.func (.func fid1) #[] cap1) (.func (.func fidn) #[] capn) (H1 ρ) m _ HM1.out (HN.out.below HW1.out)) ?_); rintro e w2 ⟨v2, rfl, hm, hx⟩; have HM2 := hide hm; obtain ⟨fid2, cap2, rfl⟩ := hm.form; have c1_2 := (hx.cell (p := ⟨bx, 1, none⟩) (World.block_lt_of_cell? _ _ c1_1)).trans c1_1; have c2_2 := (hx.cell (p := ⟨bx, 2, none⟩) (World.block_lt_of_cell? _ _ c2_1)).trans c2_1; have ca_2 := (hx.cell (p := ⟨ba, 0, none⟩) (World.block_lt_of_cell? _ _ ca_1)).trans ca_1; have HX2 := hide hx; have HW2 := hide (HW1.out.trans (hx.mono HW1.out.size)); clear hm hx)
        | ((with_reducible refine Calls.mono (HP2.out _ _ _ (HA.out.below HW2.out)) ?_); rintro e w3 ⟨v3, rfl, hm, hx⟩; have HM3 := hide hm; obtain ⟨fid3, cap3, rfl⟩ := hm.form; have c1_3 := (hx.cell (p := ⟨bx, 1, none⟩) (World.block_lt_of_cell? _ _ c1_2)).trans c1_2; have c2_3 := (hx.cell (p := ⟨bx, 2, none⟩) (World.block_lt_of_cell? _ _ c2_2)).trans c2_2; have ca_3 := (hx.cell (p := ⟨ba, 0, none⟩) (World.block_lt_of_cell? _ _ ca_2)).trans ca_2; have HX3 := hide hx; have HW3 := hide (HW2.out.trans (hx.mono HW2.out.size)); clear hm hx)
        | ((with_reducible refine Calls.mono (makeApp_any (.func (.func fid3) #[] cap3) (.func (.func fidn) #[] capn) (H2 ρ) m _ HM3.out (HN.out.below HW3.out)) ?_); rintro e w4 ⟨v4, rfl, hm, hx⟩; have HM4 := hide hm; obtain ⟨fid4, cap4, rfl⟩ := hm.form; have c1_4 := (hx.cell (p := ⟨bx, 1, none⟩) (World.block_lt_of_cell? _ _ c1_3)).trans c1_3; have c2_4 := (hx.cell (p := ⟨bx, 2, none⟩) (World.block_lt_of_cell? _ _ c2_3)).trans c2_3; have ca_4 := (hx.cell (p := ⟨ba, 0, none⟩) (World.block_lt_of_cell? _ _ ca_3)).trans ca_3; have HX4 := hide hx; have HW4 := hide (HW3.out.trans (hx.mono HW3.out.size)); clear hm hx)
        | ((with_reducible refine Calls.mono (makeIf_any _ _ _ _ _ _ _ (HS.out.below HW4.out) ((HM2.out.below HX3.out).below HX4.out) HM4.out) ?_); rintro e w5 ⟨v5, rfl, hm, hx⟩; have HM5 := hide hm; obtain ⟨fid5, cap5, rfl⟩ := hm.form; have c1_5 := (hx.cell (p := ⟨bx, 1, none⟩) (World.block_lt_of_cell? _ _ c1_4)).trans c1_4; have c2_5 := (hx.cell (p := ⟨bx, 2, none⟩) (World.block_lt_of_cell? _ _ c2_4)).trans c2_4; have ca_5 := (hx.cell (p := ⟨ba, 0, none⟩) (World.block_lt_of_cell? _ _ ca_4)).trans ca_4; have HX5 := hide hx; have HW5 := hide (HW4.out.trans (hx.mono HW4.out.size)); clear hm hx))
    go_wp2_with fail
    go_ret
    exact ⟨_, rfl, HM5.out, HW5.out⟩
  · go_enter Try.func44, Try.ntmps44
    go_wp2_with fail
    go_region_held3 (fun w1 => w1.cell? ⟨bx, 1, none⟩ = some (.iface T1 q1) ∧ w1.cell? ⟨bx, 2, none⟩ = some (.iface T2' q2) ∧ w1.cell? ⟨ba, 0, none⟩ = some (.func (.func fida) #[] capa)) (go_keep)
      (first
        | ((with_reducible refine Calls.mono (HP1.out _ _ _ (HA.out.below HW0.out)) ?_); rintro e w1 ⟨v1, rfl, hm, hx⟩; have HM1 := hide hm; obtain ⟨fid1, cap1, rfl⟩ := hm.form; have c1_1 := (hx.cell (p := ⟨bx, 1, none⟩) (World.block_lt_of_cell? _ _ c1)).trans c1; have c2_1 := (hx.cell (p := ⟨bx, 2, none⟩) (World.block_lt_of_cell? _ _ c2)).trans c2; have ca_1 := (hx.cell (p := ⟨ba, 0, none⟩) (World.block_lt_of_cell? _ _ ca)).trans ca; have HX1 := hide hx; have HW1 := hide (HW0.out.trans (hx.mono HW0.out.size)); clear hm hx)
        | ((with_reducible refine Calls.mono (makeApp_any (.func (.func fid1) #[] cap1) (.func (.func fidn) #[] capn) (H1 ρ) m _ HM1.out (HN.out.below HW1.out)) ?_); rintro e w2 ⟨v2, rfl, hm, hx⟩; have HM2 := hide hm; obtain ⟨fid2, cap2, rfl⟩ := hm.form; have c1_2 := (hx.cell (p := ⟨bx, 1, none⟩) (World.block_lt_of_cell? _ _ c1_1)).trans c1_1; have c2_2 := (hx.cell (p := ⟨bx, 2, none⟩) (World.block_lt_of_cell? _ _ c2_1)).trans c2_1; have ca_2 := (hx.cell (p := ⟨ba, 0, none⟩) (World.block_lt_of_cell? _ _ ca_1)).trans ca_1; have HX2 := hide hx; have HW2 := hide (HW1.out.trans (hx.mono HW1.out.size)); clear hm hx)
        | ((with_reducible refine Calls.mono (HP2.out _ _ _ (HA.out.below HW2.out)) ?_); rintro e w3 ⟨v3, rfl, hm, hx⟩; have HM3 := hide hm; obtain ⟨fid3, cap3, rfl⟩ := hm.form; have c1_3 := (hx.cell (p := ⟨bx, 1, none⟩) (World.block_lt_of_cell? _ _ c1_2)).trans c1_2; have c2_3 := (hx.cell (p := ⟨bx, 2, none⟩) (World.block_lt_of_cell? _ _ c2_2)).trans c2_2; have ca_3 := (hx.cell (p := ⟨ba, 0, none⟩) (World.block_lt_of_cell? _ _ ca_2)).trans ca_2; have HX3 := hide hx; have HW3 := hide (HW2.out.trans (hx.mono HW2.out.size)); clear hm hx)
        | ((with_reducible refine Calls.mono (makeApp_any (.func (.func fid3) #[] cap3) (.func (.func fidn) #[] capn) (H2 ρ) m _ HM3.out (HN.out.below HW3.out)) ?_); rintro e w4 ⟨v4, rfl, hm, hx⟩; have HM4 := hide hm; obtain ⟨fid4, cap4, rfl⟩ := hm.form; have c1_4 := (hx.cell (p := ⟨bx, 1, none⟩) (World.block_lt_of_cell? _ _ c1_3)).trans c1_3; have c2_4 := (hx.cell (p := ⟨bx, 2, none⟩) (World.block_lt_of_cell? _ _ c2_3)).trans c2_3; have ca_4 := (hx.cell (p := ⟨ba, 0, none⟩) (World.block_lt_of_cell? _ _ ca_3)).trans ca_3; have HX4 := hide hx; have HW4 := hide (HW3.out.trans (hx.mono HW3.out.size)); clear hm hx)
        | ((with_reducible refine Calls.mono (makeIf_any _ _ _ _ _ _ _ (HS.out.below HW4.out) ((HM2.out.below HX3.out).below HX4.out) HM4.out) ?_); rintro e w5 ⟨v5, rfl, hm, hx⟩; have HM5 := hide hm; obtain ⟨fid5, cap5, rfl⟩ := hm.form; have c1_5 := (hx.cell (p := ⟨bx, 1, none⟩) (World.block_lt_of_cell? _ _ c1_4)).trans c1_4; have c2_5 := (hx.cell (p := ⟨bx, 2, none⟩) (World.block_lt_of_cell? _ _ c2_4)).trans c2_4; have ca_5 := (hx.cell (p := ⟨ba, 0, none⟩) (World.block_lt_of_cell? _ _ ca_4)).trans ca_4; have HX5 := hide hx; have HW5 := hide (HW4.out.trans (hx.mono HW4.out.size)); clear hm hx))
    go_wp2_with fail
    go_ret
    exact ⟨_, rfl, HM5.out, HW5.out⟩

set_option maxRecDepth 20000 in
set_option maxHeartbeats 8000000 in
theorem h5_t2 (bx ba : Nat) (T : TypeId) (q va : Value) (n : Int) (ρ : Int → M) (H : (Int → M) → M) (w : World) (h0n : 0 ≤ n) (hn : n ≤ 1000000) (hbx : bx < w.heap.size) (hba : ba < w.heap.size) (hc1 : w.cell? ⟨bx, 1, none⟩ = some (.iface T q)) (hca : w.cell? ⟨ba, 0, none⟩ = some va) (hp : HdC (.iface T q) (n + 1) H) (ha : Sr n w va ρ) :
    T2 w (.func (.func 46) #[] #[.pointer (some ⟨bx, 0, none⟩), .pointer (some ⟨ba, 0, none⟩)]) (fun a next => appM (H (extM ρ a)) next) := by
  refine ⟨_, _, rfl, ent_h5, fun vs vn s m w' hw hs hm => ?_⟩
  have c1 := (hw.cell (p := ⟨bx, 1, none⟩) hbx).trans hc1
  have ca := (hw.cell (p := ⟨ba, 0, none⟩) hba).trans hca
  have HP := hide hp
  unfold HdC at HP
  have HA := hide (ha.below hw)
  have HN := hide hm
  have HS := hide hs
  have HW0 := hide (belD w')
  obtain ⟨fidn, capn, rfl⟩ := hm.form
  obtain ⟨fids, caps, rfl⟩ := hs.form
  have hfa := ha.form
  clear hw hp ha hm hs hc1 hca
  show Calls _ _ #[.func (.func fids) #[] caps, .func (.func fidn) #[] capn, .pointer (some ⟨bx, 0, none⟩), .pointer (some ⟨ba, 0, none⟩)] _ _
  rcases hfa with rfl | ⟨fida, capa, rfl⟩
  · go_enter Try.func46, Try.ntmps46
    go_wp2_with fail
    go_region_held3 (fun w1 => w1.cell? ⟨bx, 1, none⟩ = some (.iface T q) ∧ w1.cell? ⟨ba, 0, none⟩ = some (.nilFunc)) (go_keep)
      (first
        | ((with_reducible refine Calls.mono (with_any _ _ s n ρ _ hn (HS.out.below HW0.out) (HA.out.below HW0.out)) ?_); rintro e w1 ⟨v1, rfl, hm, hx⟩; have HM1 := hide hm; obtain ⟨fid1, cap1, rfl⟩ := hm.func (by omega); have c1_1 := (hx.cell (p := ⟨bx, 1, none⟩) (World.block_lt_of_cell? _ _ c1)).trans c1; have ca_1 := (hx.cell (p := ⟨ba, 0, none⟩) (World.block_lt_of_cell? _ _ ca)).trans ca; have HX1 := hide hx; have HW1 := hide (HW0.out.trans (hx.mono HW0.out.size)); clear hm hx)
        | ((with_reducible refine Calls.mono (HP.out _ _ _ HM1.out) ?_); rintro e w2 ⟨v2, rfl, hm, hx⟩; have HM2 := hide hm; obtain ⟨fid2, cap2, rfl⟩ := hm.form; have c1_2 := (hx.cell (p := ⟨bx, 1, none⟩) (World.block_lt_of_cell? _ _ c1_1)).trans c1_1; have ca_2 := (hx.cell (p := ⟨ba, 0, none⟩) (World.block_lt_of_cell? _ _ ca_1)).trans ca_1; have HX2 := hide hx; have HW2 := hide (HW1.out.trans (hx.mono HW1.out.size)); clear hm hx)
        | ((with_reducible refine Calls.mono (makeApp_any _ _ _ _ _ HM2.out (HN.out.below HW2.out)) ?_); rintro e w3 ⟨v3, rfl, hm, hx⟩; have HM3 := hide hm; obtain ⟨fid3, cap3, rfl⟩ := hm.form; have c1_3 := (hx.cell (p := ⟨bx, 1, none⟩) (World.block_lt_of_cell? _ _ c1_2)).trans c1_2; have ca_3 := (hx.cell (p := ⟨ba, 0, none⟩) (World.block_lt_of_cell? _ _ ca_2)).trans ca_2; have HX3 := hide hx; have HW3 := hide (HW2.out.trans (hx.mono HW2.out.size)); clear hm hx))
    go_wp2_with fail
    go_ret
    exact ⟨_, rfl, HM3.out, HW3.out⟩
  · go_enter Try.func46, Try.ntmps46
    go_wp2_with fail
    go_region_held3 (fun w1 => w1.cell? ⟨bx, 1, none⟩ = some (.iface T q) ∧ w1.cell? ⟨ba, 0, none⟩ = some (.func (.func fida) #[] capa)) (go_keep)
      (first
        | ((with_reducible refine Calls.mono (with_any _ _ s n ρ _ hn (HS.out.below HW0.out) (HA.out.below HW0.out)) ?_); rintro e w1 ⟨v1, rfl, hm, hx⟩; have HM1 := hide hm; obtain ⟨fid1, cap1, rfl⟩ := hm.func (by omega); have c1_1 := (hx.cell (p := ⟨bx, 1, none⟩) (World.block_lt_of_cell? _ _ c1)).trans c1; have ca_1 := (hx.cell (p := ⟨ba, 0, none⟩) (World.block_lt_of_cell? _ _ ca)).trans ca; have HX1 := hide hx; have HW1 := hide (HW0.out.trans (hx.mono HW0.out.size)); clear hm hx)
        | ((with_reducible refine Calls.mono (HP.out _ _ _ HM1.out) ?_); rintro e w2 ⟨v2, rfl, hm, hx⟩; have HM2 := hide hm; obtain ⟨fid2, cap2, rfl⟩ := hm.form; have c1_2 := (hx.cell (p := ⟨bx, 1, none⟩) (World.block_lt_of_cell? _ _ c1_1)).trans c1_1; have ca_2 := (hx.cell (p := ⟨ba, 0, none⟩) (World.block_lt_of_cell? _ _ ca_1)).trans ca_1; have HX2 := hide hx; have HW2 := hide (HW1.out.trans (hx.mono HW1.out.size)); clear hm hx)
        | ((with_reducible refine Calls.mono (makeApp_any _ _ _ _ _ HM2.out (HN.out.below HW2.out)) ?_); rintro e w3 ⟨v3, rfl, hm, hx⟩; have HM3 := hide hm; obtain ⟨fid3, cap3, rfl⟩ := hm.form; have c1_3 := (hx.cell (p := ⟨bx, 1, none⟩) (World.block_lt_of_cell? _ _ c1_2)).trans c1_2; have ca_3 := (hx.cell (p := ⟨ba, 0, none⟩) (World.block_lt_of_cell? _ _ ca_2)).trans ca_2; have HX3 := hide hx; have HW3 := hide (HW2.out.trans (hx.mono HW2.out.size)); clear hm hx))
    go_wp2_with fail
    go_ret
    exact ⟨_, rfl, HM3.out, HW3.out⟩

set_option maxHeartbeats 1000000 in
theorem h6_mk (b : Nat) (a : F) (ha : a.len = 1) (w : World) (hb : b < w.heap.size) (hc : w.cell? ⟨b, 0, none⟩ = some (pvT a)) : Mk w (.func (.func 47) #[] #[.pointer (some ⟨b, 0, none⟩)]) (fun _ => a) := by
  refine ⟨_, _, rfl, ent_h6, fun _ => ha, fun u w' hw => ?_⟩
  have c := (hw.cell (p := ⟨b, 0, none⟩) hb).trans hc
  obtain ⟨T, q, hT⟩ := pvT_iface ha
  rw [hT] at c ⊢
  clear hc hw hT
  show Calls _ _ #[.int .i64 u, .pointer (some ⟨b, 0, none⟩)] _ _
  go_enter Try.func47, Try.ntmps47
  go_wp2_with fail
  go_ret
  exact ⟨rfl, Below.refl _ _⟩
end Go.Proofs.Ytnmkbpflbfhpnaa.W

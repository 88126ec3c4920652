/-
  Parts made by closures: contracts of handFirst and handTwo, whatever the parts that they hand on hold. No conditions.
-/
import Derived.Test.YtnmkbpflbfhpnaaHnC
namespace Go.Proofs.Ytnmkbpflbfhpnaa.W
open Go.ChangeShapes Go.WideShapes Go.ChangeAt Go.RowKit
set_option linter.unusedVariables false

theorem bel1 (w : World) (o : Obj) : Below w.heap.size w (w.alloc o) := (Below.refl _ _).alloc (Nat.le_refl _) _
theorem bel2 (w : World) (o p : Obj) : Below w.heap.size w ((w.alloc o).alloc p) := (bel1 w o).alloc (by simp) _
theorem bel3 (w : World) (o p q : Obj) : Below w.heap.size w (((w.alloc o).alloc p).alloc q) := (bel2 w o p).alloc (by simp; omega) _
/-- What handed does with a part. -/
def HdC (p : Value) (n : Int) (H : (Int → M) → M) : Prop := ∀ (v : Value) (ρ : Int → M) (w : World), Sr n w v ρ → Calls Try.prog 22 #[p, v] w fun e w' => ∃ v', e = .returned v' ∧ Mk w' v' (H ρ) ∧ Below w.heap.size w w'
theorem T2.form {w : World} {v : Value} {t : M → M → M} (h : T2 w v t) : ∃ fid cap, v = .func (.func fid) #[] cap := by
  obtain ⟨fid, cap, h1, -⟩ := h
  exact ⟨fid, cap, h1⟩
theorem T3.form {w : World} {v : Value} {t : M → M → M → M} (h : T3 w v t) : ∃ fid cap, v = .func (.func fid) #[] cap := by
  obtain ⟨fid, cap, h1, -⟩ := h
  exact ⟨fid, cap, h1⟩

theorem ent_first1 : Enters 72 := fun args w => by kernel_rfl
theorem ent_first11 : Enters 73 := fun args w => by kernel_rfl
theorem ent_two1 : Enters 68 := fun args w => by kernel_rfl
theorem ent_two11 : Enters 69 := fun args w => by kernel_rfl

set_option maxHeartbeats 1000000 in
theorem first11_bd (b1 b2 : Nat) (vt vn : Value) (t : M → M → M) (m : M) (w : World) (hb1 : b1 < w.heap.size) (hb2 : b2 < w.heap.size) (hc1 : w.cell? ⟨b1, 0, none⟩ = some vt) (hc2 : w.cell? ⟨b2, 0, none⟩ = some vn) (ht : T2 w vt t) (hm : Mk w vn m) :
    Bd w (.func (.func 73) #[] #[.pointer (some ⟨b1, 0, none⟩), .pointer (some ⟨b2, 0, none⟩)]) (fun came => t came m) := by
  refine ⟨_, _, rfl, ent_first11, fun vc c w' hw hcm => ?_⟩
  have c1 := (hw.cell (p := ⟨b1, 0, none⟩) hb1).trans hc1
  have c2 := (hw.cell (p := ⟨b2, 0, none⟩) hb2).trans hc2
  have hm' := hm.below hw
  obtain ⟨fidt, capt, rfl, hent, hk⟩ := ht
  have ent : ∀ args w, (callFunc fidt args).run Try.prog w = .ok (.enter fidt args) w := hent
  have HK := hide (hk vc vn c m w' hw hcm hm')
  obtain ⟨fidc, capc, rfl⟩ := hcm.form
  obtain ⟨fidn, capn, rfl⟩ := hm.form
  clear hk hent hcm hm hm' hc1 hc2 hw
  show Calls _ _ #[.func (.func fidc) #[] capc, .pointer (some ⟨b1, 0, none⟩), .pointer (some ⟨b2, 0, none⟩)] _ _
  go_enter Try.func73, Try.ntmps73
  go_wp2_with fail
  refine Calls.mono HK.out ?_
  rintro e w2 ⟨v', rfl, hm2, hb2⟩
  obtain ⟨fid3, cap3, rfl⟩ := hm2.form
  go_wp2_with fail
  go_ret
  exact ⟨_, rfl, hm2, hb2⟩

set_option maxRecDepth 20000 in
set_option maxHeartbeats 2000000 in
theorem first1_bd (b1 b2 b3 : Nat) (T : TypeId) (q va vt : Value) (n : Int) (ρ : Int → M) (H : (Int → M) → M) (t : M → M → M) (w : World) (hb1 : b1 < w.heap.size) (hb2 : b2 < w.heap.size) (hb3 : b3 < w.heap.size) (hc1 : w.cell? ⟨b1, 0, none⟩ = some (.iface T q)) (hc2 : w.cell? ⟨b2, 0, none⟩ = some va) (hc3 : w.cell? ⟨b3, 0, none⟩ = some vt)
    (hp : HdC (.iface T q) n H) (ha : Sr n w va ρ) (ht : T2 w vt t) :
    Bd w (.func (.func 72) #[] #[.pointer (some ⟨b1, 0, none⟩), .pointer (some ⟨b2, 0, none⟩), .pointer (some ⟨b3, 0, none⟩)]) (fun next => appM (H ρ) (lamM fun came => t came next)) := by
  refine ⟨_, _, rfl, ent_first1, fun vn m w' hw hm => ?_⟩
  have c1 := (hw.cell (p := ⟨b1, 0, none⟩) hb1).trans hc1
  have c2 := (hw.cell (p := ⟨b2, 0, none⟩) hb2).trans hc2
  have c3 := (hw.cell (p := ⟨b3, 0, none⟩) hb3).trans hc3
  have hl1 : b1 < w'.heap.size := Nat.lt_of_lt_of_le hb1 hw.size
  have hl2 : b2 < w'.heap.size := Nat.lt_of_lt_of_le hb2 hw.size
  have hl3 : b3 < w'.heap.size := Nat.lt_of_lt_of_le hb3 hw.size
  have HP := hide hp
  have HA := hide (ha.below hw)
  have HT := hide (ht.below hw)
  have HM := hide hm
  have HC3 := hide c3
  obtain ⟨fidn, capn, rfl⟩ := hm.form
  obtain ⟨fidt, capt, rfl⟩ := ht.form
  have hfa := ha.form
  clear hc1 hc2 hc3 hw hp ha ht hm
  show Calls _ _ #[.func (.func fidn) #[] capn, .pointer (some ⟨b1, 0, none⟩), .pointer (some ⟨b2, 0, none⟩), .pointer (some ⟨b3, 0, none⟩)] _ _
  rcases hfa with rfl | ⟨fida, capa, rfl⟩
  all_goals
    go_enter Try.func72, Try.ntmps72
    go_wp2_with fail
    refine Calls.mono (HP.out _ _ _ (HA.out.below (bel1 _ _))) ?_
    rintro e w1 ⟨v1, rfl, hm1, hb1'⟩
    have HM1 := hide hm1
    obtain ⟨fid1, cap1, rfl⟩ := hm1.form
    have HB1 : Hid (Below w'.heap.size w' w1) := hide ((bel1 w' _).trans (hb1'.mono (by simp)))
    have HCn : Hid (w1.cell? ⟨w'.heap.size, 0, none⟩ = some (.func (.func fidn) #[] capn)) := hide ((hb1'.cell (p := ⟨w'.heap.size, 0, none⟩) (by simp)).trans (box_cell _ _ _))
    have hsz : w'.heap.size < w1.heap.size := World.block_lt_of_cell? w1 _ HCn.out
    clear hm1 hb1'
    go_wp2_with fail
    refine Calls.mono (makeLam_any _ _ _ (first11_bd b3 w'.heap.size _ _ t m w1 (by omega) hsz ((HB1.out.cell (p := ⟨b3, 0, none⟩) hl3).trans HC3.out) HCn.out (HT.out.below HB1.out) (HM.out.below HB1.out))) ?_
    rintro e w2 ⟨v2, rfl, hm2, hb2'⟩
    have HM2 := hide hm2
    obtain ⟨fid2, cap2, rfl⟩ := hm2.form
    have HB2 := hide hb2'
    clear hm2 hb2'
    go_wp2_with fail
    refine Calls.mono (makeApp_any _ _ _ _ _ (HM1.out.below HB2.out) HM2.out) ?_
    rintro e w3 ⟨v3, rfl, hm3, hb3'⟩
    have HM3 := hide hm3
    obtain ⟨fid3, cap3, rfl⟩ := hm3.form
    have HB3 := hide hb3'
    clear hm3 hb3'
    go_wp2_with fail
    go_ret
    have hB2 := HB1.out.trans (HB2.out.mono HB1.out.size)
    exact ⟨_, rfl, HM3.out, hB2.trans (HB3.out.mono hB2.size)⟩

set_option maxRecDepth 20000 in
set_option maxHeartbeats 2000000 in
theorem handFirst_any (T : TypeId) (q va vt : Value) (n : Int) (ρ : Int → M) (H : (Int → M) → M) (t : M → M → M) (w : World) (hp : HdC (.iface T q) n H) (ha : Sr n w va ρ) (ht : T2 w vt t) :
    Calls Try.prog 43 #[.iface T q, va, vt] w fun e w' => ∃ v', e = .returned v' ∧ Mk w' v' (firstM (H ρ) t) ∧ Below w.heap.size w w' := by
  have HP := hide hp
  have HA := hide ha
  have HT := hide ht
  obtain ⟨fidt, capt, rfl⟩ := ht.form
  have hfa := ha.form
  clear hp ha ht
  rcases hfa with rfl | ⟨fida, capa, rfl⟩
  all_goals
    go_enter Try.func43, Try.ntmps43
    go_wp2_with fail
    refine Calls.mono (makeLam_any _ _ _ (first1_bd w.heap.size (w.heap.size + 1) (w.heap.size + 1 + 1) T q _ _ n ρ H t _ (by simp; omega) (by simp) (by simp) (box_keep _ (box_keep _ (box_at _ _ rfl))) (box_keep _ (box_at _ _ (by simp))) (box_at _ _ (by simp)) HP.out (HA.out.below (bel3 _ _ _ _)) (HT.out.below (bel3 _ _ _ _)))) ?_
    rintro e w2 ⟨v2, rfl, hm2, hb2'⟩
    have HM2 := hide hm2
    obtain ⟨fid2, cap2, rfl⟩ := hm2.form
    have HB2 := hide hb2'
    clear hm2 hb2'
    go_wp2_with fail
    go_ret
    exact ⟨_, rfl, HM2.out, (bel3 w _ _ _).trans (HB2.out.mono (by simp; omega))⟩

set_option maxHeartbeats 1000000 in
theorem two11_bd (b1 b2 b3 : Nat) (vt vo vn : Value) (t : M → M → M → M) (o m : M) (w : World) (hb1 : b1 < w.heap.size) (hb2 : b2 < w.heap.size) (hb3 : b3 < w.heap.size) (hc1 : w.cell? ⟨b1, 0, none⟩ = some vt) (hc2 : w.cell? ⟨b2, 0, none⟩ = some vo) (hc3 : w.cell? ⟨b3, 0, none⟩ = some vn) (ht : T3 w vt t) (ho : Mk w vo o) (hm : Mk w vn m) :
    Bd w (.func (.func 69) #[] #[.pointer (some ⟨b1, 0, none⟩), .pointer (some ⟨b2, 0, none⟩), .pointer (some ⟨b3, 0, none⟩)]) (fun other => t o other m) := by
  refine ⟨_, _, rfl, ent_two11, fun vc c w' hw hcm => ?_⟩
  have c1 := (hw.cell (p := ⟨b1, 0, none⟩) hb1).trans hc1
  have c2 := (hw.cell (p := ⟨b2, 0, none⟩) hb2).trans hc2
  have c3 := (hw.cell (p := ⟨b3, 0, none⟩) hb3).trans hc3
  obtain ⟨fidt, capt, rfl, hent, hk⟩ := ht
  have ent : ∀ args w, (callFunc fidt args).run Try.prog w = .ok (.enter fidt args) w := hent
  have HK := hide (hk vo vc vn o c m w' hw (ho.below hw) hcm (hm.below hw))
  obtain ⟨fidc, capc, rfl⟩ := hcm.form
  obtain ⟨fidn, capn, rfl⟩ := hm.form
  obtain ⟨fido, capo, rfl⟩ := ho.form
  clear hk hent hcm hm ho hc1 hc2 hc3 hw
  show Calls _ _ #[.func (.func fidc) #[] capc, .pointer (some ⟨b1, 0, none⟩), .pointer (some ⟨b2, 0, none⟩), .pointer (some ⟨b3, 0, none⟩)] _ _
  go_enter Try.func69, Try.ntmps69
  go_wp2_with fail
  refine Calls.mono HK.out ?_
  rintro e w2 ⟨v', rfl, hm2, hb2⟩
  obtain ⟨fid3, cap3, rfl⟩ := hm2.form
  go_wp2_with fail
  go_ret
  exact ⟨_, rfl, hm2, hb2⟩

set_option maxRecDepth 20000 in
set_option maxHeartbeats 2000000 in
theorem two1_t2 (b1 b2 b3 : Nat) (T : TypeId) (q va vt : Value) (n : Int) (ρ : Int → M) (H : (Int → M) → M) (t : M → M → M → M) (w : World) (hb1 : b1 < w.heap.size) (hb2 : b2 < w.heap.size) (hb3 : b3 < w.heap.size) (hc1 : w.cell? ⟨b1, 0, none⟩ = some (.iface T q)) (hc2 : w.cell? ⟨b2, 0, none⟩ = some va) (hc3 : w.cell? ⟨b3, 0, none⟩ = some vt)
    (hp : HdC (.iface T q) n H) (ha : Sr n w va ρ) (ht : T3 w vt t) :
    T2 w (.func (.func 68) #[] #[.pointer (some ⟨b1, 0, none⟩), .pointer (some ⟨b2, 0, none⟩), .pointer (some ⟨b3, 0, none⟩)]) (fun one next => appM (H ρ) (lamM fun other => t one other next)) := by
  refine ⟨_, _, rfl, ent_two1, fun vo vn o m w' hw ho hm => ?_⟩
  have c1 := (hw.cell (p := ⟨b1, 0, none⟩) hb1).trans hc1
  have c2 := (hw.cell (p := ⟨b2, 0, none⟩) hb2).trans hc2
  have c3 := (hw.cell (p := ⟨b3, 0, none⟩) hb3).trans hc3
  have hl1 : b1 < w'.heap.size := Nat.lt_of_lt_of_le hb1 hw.size
  have hl2 : b2 < w'.heap.size := Nat.lt_of_lt_of_le hb2 hw.size
  have hl3 : b3 < w'.heap.size := Nat.lt_of_lt_of_le hb3 hw.size
  have HP := hide hp
  have HA := hide (ha.below hw)
  have HT := hide (ht.below hw)
  have HM := hide hm
  have HO := hide ho
  have HC3 := hide c3
  obtain ⟨fidn, capn, rfl⟩ := hm.form
  obtain ⟨fido, capo, rfl⟩ := ho.form
  obtain ⟨fidt, capt, rfl⟩ := ht.form
  have hfa := ha.form
  clear hc1 hc2 hc3 hw hp ha ht hm ho
  show Calls _ _ #[.func (.func fido) #[] capo, .func (.func fidn) #[] capn, .pointer (some ⟨b1, 0, none⟩), .pointer (some ⟨b2, 0, none⟩), .pointer (some ⟨b3, 0, none⟩)] _ _
  rcases hfa with rfl | ⟨fida, capa, rfl⟩
  all_goals
    go_enter Try.func68, Try.ntmps68
    go_wp2_with fail
    refine Calls.mono (HP.out _ _ _ (HA.out.below (bel2 _ _ _))) ?_
    rintro e w1 ⟨v1, rfl, hm1, hb1'⟩
    have HM1 := hide hm1
    obtain ⟨fid1, cap1, rfl⟩ := hm1.form
    have HB1 : Hid (Below w'.heap.size w' w1) := hide ((bel2 w' _ _).trans (hb1'.mono (by simp; omega)))
    have HCo : Hid (w1.cell? ⟨w'.heap.size, 0, none⟩ = some (.func (.func fido) #[] capo)) := hide ((hb1'.cell (p := ⟨w'.heap.size, 0, none⟩) (by simp; omega)).trans (box_keep _ (box_cell _ _ _)))
    have HCn : Hid (w1.cell? ⟨w'.heap.size + 1, 0, none⟩ = some (.func (.func fidn) #[] capn)) := hide ((hb1'.cell (p := ⟨w'.heap.size + 1, 0, none⟩) (by simp)).trans (box_at _ _ (by simp)))
    have hsz : w'.heap.size + 1 < w1.heap.size := World.block_lt_of_cell? w1 _ HCn.out
    clear hm1 hb1'
    go_wp2_with fail
    refine Calls.mono (makeLam_any _ _ _ (two11_bd b3 w'.heap.size (w'.heap.size + 1) _ _ _ t o m w1 (by omega) (by omega) hsz ((HB1.out.cell (p := ⟨b3, 0, none⟩) hl3).trans HC3.out) HCo.out HCn.out (HT.out.below HB1.out) (HO.out.below HB1.out) (HM.out.below HB1.out))) ?_
    rintro e w2 ⟨v2, rfl, hm2, hb2'⟩
    have HM2 := hide hm2
    obtain ⟨fid2, cap2, rfl⟩ := hm2.form
    have HB2 := hide hb2'
    clear hm2 hb2'
    go_wp2_with fail
    refine Calls.mono (makeApp_any _ _ _ _ _ (HM1.out.below HB2.out) HM2.out) ?_
    rintro e w3 ⟨v3, rfl, hm3, hb3'⟩
    have HM3 := hide hm3
    obtain ⟨fid3, cap3, rfl⟩ := hm3.form
    have HB3 := hide hb3'
    clear hm3 hb3'
    go_wp2_with fail
    go_ret
    have hB2 := HB1.out.trans (HB2.out.mono HB1.out.size)
    exact ⟨_, rfl, HM3.out, hB2.trans (HB3.out.mono hB2.size)⟩

set_option maxRecDepth 20000 in
set_option maxHeartbeats 2000000 in
theorem handTwo_any (T1 T2' : TypeId) (q1 q2 va vt : Value) (n : Int) (ρ : Int → M) (H1 H2 : (Int → M) → M) (t : M → M → M → M) (w : World) (hp1 : HdC (.iface T1 q1) n H1) (hp2 : HdC (.iface T2' q2) n H2) (ha : Sr n w va ρ) (ht : T3 w vt t) :
    Calls Try.prog 38 #[.iface T1 q1, .iface T2' q2, va, vt] w fun e w' => ∃ v', e = .returned v' ∧ Mk w' v' (twoM (H1 ρ) (H2 ρ) t) ∧ Below w.heap.size w w' := by
  have HP1 := hide hp1
  have HP2 := hide hp2
  have HA := hide ha
  have HT := hide ht
  obtain ⟨fidt, capt, rfl⟩ := ht.form
  have hfa := ha.form
  clear hp1 hp2 ha ht
  rcases hfa with rfl | ⟨fida, capa, rfl⟩
  all_goals
    go_enter Try.func38, Try.ntmps38
    go_wp2_with fail
    refine Calls.mono (handFirst_any T1 q1 _ _ n ρ H1 _ _ HP1.out (HA.out.below (bel3 _ _ _ _)) (two1_t2 w.heap.size (w.heap.size + 1) (w.heap.size + 1 + 1) T2' q2 _ _ n ρ H2 t _ (by simp; omega) (by simp) (by simp) (box_keep _ (box_keep _ (box_at _ _ rfl))) (box_keep _ (box_at _ _ (by simp))) (box_at _ _ (by simp)) HP2.out (HA.out.below (bel3 _ _ _ _)) (HT.out.below (bel3 _ _ _ _)))) ?_
    rintro e w2 ⟨v2, rfl, hm2, hb2'⟩
    have HM2 := hide hm2
    obtain ⟨fid2, cap2, rfl⟩ := hm2.form
    have HB2 := hide hb2'
    clear hm2 hb2'
    go_wp2_with fail
    go_ret
    exact ⟨_, rfl, HM2.out, (bel3 w _ _ _).trans (HB2.out.mono (by simp; omega))⟩
end Go.Proofs.Ytnmkbpflbfhpnaa.W

/-
  Parts made by closures: what a making, a surrounding and the functions on them are in memory; contracts of makeLam, makeApp, makeAdd, makeIf, handValue, with. No conditions.
-/
import Derived.Test.YtnmkbpflbfhpnaaHnK
import Derived.Test.YtnmkbpflbfhpnaaTeW
import Derived.Deep.RegionHeld3
namespace Go.Proofs.Ytnmkbpflbfhpnaa.W
open Go.ChangeShapes Go.WideShapes Go.ChangeAt Go.RowKit
set_option linter.unusedVariables false

def Enters (fid : FuncId) : Prop := ∀ args w, (callFunc fid args).run Try.prog w = .ok (.enter fid args) w
/-- A function value that makes this part under so many bindings, now and whatever is made later. -/
def Mk (w : World) (v : Value) (m : M) : Prop := ∃ fid cap, v = .func (.func fid) #[] cap ∧ Enters fid ∧ (∀ u, (m u).len = 1) ∧
  ∀ (u : Int) (w' : World), Below w.heap.size w w' → Calls Try.prog fid (#[.int .i64 u] ++ cap) w' fun e w'' => e = .returned (pvT (m u)) ∧ Below w'.heap.size w' w''
def Bd (w : World) (v : Value) (B : M → M) : Prop := ∃ fid cap, v = .func (.func fid) #[] cap ∧ Enters fid ∧
  ∀ (vm : Value) (m : M) (w' : World), Below w.heap.size w w' → Mk w' vm m → Calls Try.prog fid (#[vm] ++ cap) w' fun e w'' => ∃ v', e = .returned v' ∧ Mk w'' v' (B m) ∧ Below w'.heap.size w' w''
def T2 (w : World) (v : Value) (t : M → M → M) : Prop := ∃ fid cap, v = .func (.func fid) #[] cap ∧ Enters fid ∧
  ∀ (va vb : Value) (a b : M) (w' : World), Below w.heap.size w w' → Mk w' va a → Mk w' vb b → Calls Try.prog fid (#[va, vb] ++ cap) w' fun e w'' => ∃ v', e = .returned v' ∧ Mk w'' v' (t a b) ∧ Below w'.heap.size w' w''
def T3 (w : World) (v : Value) (t : M → M → M → M) : Prop := ∃ fid cap, v = .func (.func fid) #[] cap ∧ Enters fid ∧
  ∀ (va vb vc : Value) (a b c : M) (w' : World), Below w.heap.size w w' → Mk w' va a → Mk w' vb b → Mk w' vc c → Calls Try.prog fid (#[va, vb, vc] ++ cap) w' fun e w'' => ∃ v', e = .returned v' ∧ Mk w'' v' (t a b c) ∧ Below w'.heap.size w' w''
/-- What is around a part with n variables bound around it. -/
def Sr (n : Int) (w : World) (v : Value) (ρ : Int → M) : Prop := (v = .nilFunc ∧ n = 0) ∨ ∃ fid cap, v = .func (.func fid) #[] cap ∧ Enters fid ∧
  ∀ (far : Int) (w' : World), 0 ≤ far → far < n → Below w.heap.size w w' → Calls Try.prog fid (#[.int .i64 far] ++ cap) w' fun e w'' => ∃ v', e = .returned v' ∧ Mk w'' v' (ρ far) ∧ Below w'.heap.size w' w''

theorem Mk.below {w w' : World} {v : Value} {m : M} (h : Mk w v m) (hb : Below w.heap.size w w') : Mk w' v m := by
  obtain ⟨fid, cap, h1, h2, h3, h4⟩ := h
  exact ⟨fid, cap, h1, h2, h3, fun u w'' hw => h4 u w'' (hb.trans (hw.mono hb.size))⟩
theorem Bd.below {w w' : World} {v : Value} {B : M → M} (h : Bd w v B) (hb : Below w.heap.size w w') : Bd w' v B := by
  obtain ⟨fid, cap, h1, h2, h4⟩ := h
  exact ⟨fid, cap, h1, h2, fun vm m w'' hw => h4 vm m w'' (hb.trans (hw.mono hb.size))⟩
theorem T2.below {w w' : World} {v : Value} {t : M → M → M} (h : T2 w v t) (hb : Below w.heap.size w w') : T2 w' v t := by
  obtain ⟨fid, cap, h1, h2, h4⟩ := h
  exact ⟨fid, cap, h1, h2, fun va vb a b w'' hw => h4 va vb a b w'' (hb.trans (hw.mono hb.size))⟩
theorem T3.below {w w' : World} {v : Value} {t : M → M → M → M} (h : T3 w v t) (hb : Below w.heap.size w w') : T3 w' v t := by
  obtain ⟨fid, cap, h1, h2, h4⟩ := h
  exact ⟨fid, cap, h1, h2, fun va vb vc a b c w'' hw => h4 va vb vc a b c w'' (hb.trans (hw.mono hb.size))⟩
theorem Sr.below {n : Int} {w w' : World} {v : Value} {ρ : Int → M} (h : Sr n w v ρ) (hb : Below w.heap.size w w') : Sr n w' v ρ := by
  rcases h with h | ⟨fid, cap, h1, h2, h4⟩
  · exact .inl h
  · exact .inr ⟨fid, cap, h1, h2, fun far w'' a b hw => h4 far w'' a b (hb.trans (hw.mono hb.size))⟩
theorem Mk.form {w : World} {v : Value} {m : M} (h : Mk w v m) : ∃ fid cap, v = .func (.func fid) #[] cap := by
  obtain ⟨fid, cap, h1, -⟩ := h
  exact ⟨fid, cap, h1⟩

theorem ent_lam11 : Enters 66 := fun args w => by kernel_rfl
theorem ent_lam1 : Enters 65 := fun args w => by kernel_rfl
theorem ent_app1 : Enters 70 := fun args w => by kernel_rfl
theorem ent_add1 : Enters 71 := fun args w => by kernel_rfl
theorem ent_if1 : Enters 74 := fun args w => by kernel_rfl

theorem w64 (n : Int) : IntKind.i64.wrap n = wrap64 n := by rw [IntKind.wrap_i64]; unfold wrap64; rfl
theorem sub1_64 (a b : Int) : sub1 a b = wrap64 (wrap64 (a - b) - 1) := by rw [sub1, w64, w64]

set_option maxHeartbeats 400000 in
theorem bnd_mk (b : Nat) (u : Int) (w : World) (hb : b < w.heap.size) (hc : w.cell? ⟨b, 0, none⟩ = some (.int .i64 u)) : Mk w (.func (.func 66) #[] #[.pointer (some ⟨b, 0, none⟩)]) (bndM u) := by
  refine ⟨_, _, rfl, ent_lam11, fun _ => rfl, fun v w' hw => ?_⟩
  have c := (hw.cell (p := ⟨b, 0, none⟩) hb).trans hc
  have hp : pvT (bndM u v) = .iface 66 (.agg #[.int .i64 (wrap64 (wrap64 (v - u) - 1))]) := by rw [← sub1_64]; rfl
  rw [hp]
  clear hc hw hp
  show Calls _ _ #[.int .i64 v, .pointer (some ⟨b, 0, none⟩)] _ _
  go_enter Try.func66, Try.ntmps66
  go_wp2_with fail
  go_ret
  exact ⟨rfl, Below.refl _ _⟩

set_option maxRecDepth 20000 in
set_option maxHeartbeats 2000000 in
theorem lam_mk (b : Nat) (vB : Value) (B : M → M) (w : World) (hb : b < w.heap.size) (hc : w.cell? ⟨b, 0, none⟩ = some vB) (hB : Bd w vB B) : Mk w (.func (.func 65) #[] #[.pointer (some ⟨b, 0, none⟩)]) (lamM B) := by
  refine ⟨_, _, rfl, ent_lam1, fun _ => rfl, fun u w' hw => ?_⟩
  have c := (hw.cell (p := ⟨b, 0, none⟩) hb).trans hc
  obtain ⟨fid, cap, rfl, hent, hB⟩ := hB
  have ent : ∀ args w, (callFunc fid args).run Try.prog w = .ok (.enter fid args) w := hent
  have hp : ∀ T q, pvT (B (bndM u) (up1 u)) = .iface T q → (B (bndM u) (up1 u)).len = 1 → pvT (lamM B u) = .iface 69 (.agg #[.iface T q]) := by
    intro T q h1 h2
    show pv 3 0 (pvs (B (bndM u) (up1 u))) = _
    rw [pvs_one h2, h1]; rfl
  have HP := hide hp
  have HB := hide hB
  have HW := hide hw
  have hbl : b < w'.heap.size := Nat.lt_of_lt_of_le hb hw.size
  clear hc hw hp hB hent
  show Calls _ _ #[.int .i64 u, .pointer (some ⟨b, 0, none⟩)] _ _
  go_enter Try.func65, Try.ntmps65
  go_wp2_with fail
  obtain ⟨w0, hw0⟩ : ∃ w0, w0 = w'.alloc (.cells #[.int .i64 u] 3) := ⟨_, rfl⟩
  rw [← hw0]
  have hB0 : Below w'.heap.size w' w0.drew := by rw [hw0]; exact belowDrew ((Below.refl _ _).alloc (Nat.le_refl _) _)
  have hx : w0.heap.size = w'.heap.size + 1 := by rw [hw0]; simp
  have c0 : w0.cell? ⟨w'.heap.size, 0, none⟩ = some (.int .i64 u) := by rw [hw0]; simp
  have c1 : w0.cell? ⟨b, 0, none⟩ = some (.func (.func fid) #[] cap) := (hB0.cell (p := ⟨b, 0, none⟩) hbl).trans c
  have HM0 := hide (bnd_mk w'.heap.size u w0.drew (by show _ < w0.heap.size; omega) c0)
  have HB0 := hide (HW.out.trans (hB0.mono HW.out.size))
  have HBB := hide hB0
  have hsz : w'.heap.size < w0.heap.size := by omega
  have hbz : b < w0.heap.size := by omega
  clear hw0 hB0 hx
  go_region_held3 (fun w1 => w1.cell? ⟨w'.heap.size, 0, none⟩ = some (.int .i64 u) ∧ w1.cell? ⟨b, 0, none⟩ = some (.func (.func fid) #[] cap)) (go_keep)
    (first
      | ((with_reducible refine Calls.mono (HB.out _ _ _ HB0.out HM0.out) ?_); rintro e w1 ⟨v', rfl, hmk, hb1⟩; obtain ⟨fid2, cap2, rfl, hent2, len2, hc2⟩ := hmk; have ent2 : ∀ args w, (callFunc fid2 args).run Try.prog w = .ok (.enter fid2 args) w := hent2; have HC2 := hide hc2; have HL2 := hide len2; have c0_1 := (hb1.cell (p := ⟨w'.heap.size, 0, none⟩) hsz).trans c0; have c1_1 := (hb1.cell (p := ⟨b, 0, none⟩) hbz).trans c1; have HB1 := hide hb1; clear hent2 hc2 len2 hb1)
      | ((with_reducible refine Calls.mono (HC2.out _ _ (Below.refl _ _)) ?_); obtain ⟨T, q, hT⟩ := pvT_iface (HL2.out (up1 u)); rintro e w2 ⟨he, hb2⟩; have he2 := he.trans (congrArg Ending.returned hT); subst he2; have c0_2 := (hb2.cell (p := ⟨w'.heap.size, 0, none⟩) (World.block_lt_of_cell? w1 _ c0_1)).trans c0_1; have c1_2 := (hb2.cell (p := ⟨b, 0, none⟩) (World.block_lt_of_cell? w1 _ c1_1)).trans c1_1; have HB2 := hide hb2; have HT := hide hT; clear hb2 hT he))
  go_wp2_with fail
  go_ret
  have hB2 := (HBB.out.trans (HB1.out.mono HBB.out.size)).trans (HB2.out.mono (HBB.out.trans (HB1.out.mono HBB.out.size)).size)
  exact ⟨by rw [HP.out T q HT.out (HL2.out _)]; rfl, hB2⟩

/-! More makings. -/
theorem box_cell (w : World) (v : Value) (T : TypeId) : (w.alloc (.cells #[v] T)).cell? ⟨w.heap.size, 0, none⟩ = some v := by simp
theorem box_at {w : World} (v : Value) (T : TypeId) {n : Nat} (h : w.heap.size = n) : (w.alloc (.cells #[v] T)).cell? ⟨n, 0, none⟩ = some v := by subst h; exact box_cell _ _ _
theorem box_keep {w : World} {b : Nat} {v : Value} (o : Obj) (h : w.cell? ⟨b, 0, none⟩ = some v) : (w.alloc o).cell? ⟨b, 0, none⟩ = some v := (((Below.refl w.heap.size w).alloc (Nat.le_refl _) o).cell (World.block_lt_of_cell? _ _ h)).trans h

set_option maxHeartbeats 1000000 in
theorem makeLam_any (vB : Value) (B : M → M) (w : World) (h : Bd w vB B) :
    Calls Try.prog 35 #[vB] w fun e w' => ∃ v', e = .returned v' ∧ Mk w' v' (lamM B) ∧ Below w.heap.size w w' := by
  have HB := hide h
  obtain ⟨fid, cap, rfl, -, -⟩ := h
  go_enter Try.func35, Try.ntmps35
  go_wp2_with fail
  go_ret
  have hb := (Below.refl w.heap.size w).alloc (Nat.le_refl _) (.cells #[.func (.func fid) #[] cap] 67)
  exact ⟨_, rfl, lam_mk w.heap.size _ B _ (by simp) (by simp) (HB.out.below hb), hb⟩

set_option maxRecDepth 20000 in
set_option maxHeartbeats 4000000 in
theorem app_mk (b1 b2 : Nat) (v1 v2 : Value) (m1 m2 : M) (w : World) (hb1 : b1 < w.heap.size) (hc1 : w.cell? ⟨b1, 0, none⟩ = some v1) (h1 : Mk w v1 m1) (hb2 : b2 < w.heap.size) (hc2 : w.cell? ⟨b2, 0, none⟩ = some v2) (h2 : Mk w v2 m2) : Mk w (.func (.func 70) #[] #[.pointer (some ⟨b1, 0, none⟩), .pointer (some ⟨b2, 0, none⟩)]) (appM m1 m2) := by
  refine ⟨_, _, rfl, ent_app1, fun _ => rfl, fun u w' hw => ?_⟩
  have c1 := (hw.cell (p := ⟨b1, 0, none⟩) hb1).trans hc1
  obtain ⟨fid1, cap1, rfl, hent1, len1, hk1⟩ := h1
  have ent1 : ∀ args w, (callFunc fid1 args).run Try.prog w = .ok (.enter fid1 args) w := hent1
  obtain ⟨T1, q1, hT1⟩ := pvT_iface (len1 u)
  have H1 := hide (hk1 u)
  rw [hT1] at H1
  have hl1 : b1 < w'.heap.size := Nat.lt_of_lt_of_le hb1 hw.size
  have c2 := (hw.cell (p := ⟨b2, 0, none⟩) hb2).trans hc2
  obtain ⟨fid2, cap2, rfl, hent2, len2, hk2⟩ := h2
  have ent2 : ∀ args w, (callFunc fid2 args).run Try.prog w = .ok (.enter fid2 args) w := hent2
  obtain ⟨T2, q2, hT2⟩ := pvT_iface (len2 u)
  have H2 := hide (hk2 u)
  rw [hT2] at H2
  have hl2 : b2 < w'.heap.size := Nat.lt_of_lt_of_le hb2 hw.size
  have HP : Hid (pvT (appM m1 m2 u) = .iface 73 (.agg #[.iface T1 q1, .iface T2 q2])) := hide (by
    show pv 4 0 (pvs ((m1 u).app (m2 u))) = _
    rw [pvs_app, pvs_one (len1 u), pvs_one (len2 u), hT1, hT2]
    rfl)
  have HB0 := hide (belowDrew hw)
  have HW0 : Hid (Below w'.heap.size w' w'.drew) := hide (belowDrew (Below.refl _ _))
  clear hc1 hent1 len1 hk1 hT1 hc2 hent2 len2 hk2 hT2
  show Calls _ _ #[.int .i64 u, .pointer (some ⟨b1, 0, none⟩), .pointer (some ⟨b2, 0, none⟩)] _ _
  go_enter Try.func70, Try.ntmps70
  go_wp2_with fail
  go_region_held3 (fun w1 => w1.cell? ⟨b1, 0, none⟩ = some (.func (.func fid1) #[] cap1) ∧ w1.cell? ⟨b2, 0, none⟩ = some (.func (.func fid2) #[] cap2)) (go_keep)
    (first
      | ((with_reducible refine Calls.mono (H1.out _ HB0.out) ?_); rintro e W1 ⟨rfl, hx⟩; have c1_1 := (hx.cell (p := ⟨b1, 0, none⟩) (World.block_lt_of_cell? _ _ c1)).trans c1; have c2_1 := (hx.cell (p := ⟨b2, 0, none⟩) (World.block_lt_of_cell? _ _ c2)).trans c2; have HB1 := hide (HB0.out.trans (hx.mono HB0.out.size)); have HW1 := hide (HW0.out.trans (hx.mono HW0.out.size)); clear hx)
      | ((with_reducible refine Calls.mono (H2.out _ HB1.out) ?_); rintro e W2 ⟨rfl, hx⟩; have c1_2 := (hx.cell (p := ⟨b1, 0, none⟩) (World.block_lt_of_cell? _ _ c1_1)).trans c1_1; have c2_2 := (hx.cell (p := ⟨b2, 0, none⟩) (World.block_lt_of_cell? _ _ c2_1)).trans c2_1; have HB2 := hide (HB1.out.trans (hx.mono HB1.out.size)); have HW2 := hide (HW1.out.trans (hx.mono HW1.out.size)); clear hx))
  go_wp2_with fail
  go_ret
  exact ⟨by rw [HP.out]; rfl, HW2.out⟩

set_option maxHeartbeats 1000000 in
theorem makeApp_any (v1 v2 : Value) (m1 m2 : M) (w : World) (h1 : Mk w v1 m1) (h2 : Mk w v2 m2) :
    Calls Try.prog 40 #[v1, v2] w fun e w' => ∃ v', e = .returned v' ∧ Mk w' v' (appM m1 m2) ∧ Below w.heap.size w w' := by
  have H1 := hide h1
  obtain ⟨fid1, cap1, rfl⟩ := h1.form
  have H2 := hide h2
  obtain ⟨fid2, cap2, rfl⟩ := h2.form
  clear h1 h2
  go_enter Try.func40, Try.ntmps40
  go_wp2_with fail
  go_ret
  have hb : Below w.heap.size w ((w.alloc (.cells #[.func (.func fid1) #[] cap1] 50)).alloc (.cells #[.func (.func fid2) #[] cap2] 50)) := (((Below.refl w.heap.size w).alloc (Nat.le_refl _) (.cells #[.func (.func fid1) #[] cap1] 50)).alloc (by simp <;> omega) (.cells #[.func (.func fid2) #[] cap2] 50))
  exact ⟨_, rfl, app_mk w.heap.size (w.heap.size + 1) _ _ m1 m2 ((w.alloc (.cells #[.func (.func fid1) #[] cap1] 50)).alloc (.cells #[.func (.func fid2) #[] cap2] 50)) (by simp <;> omega) (box_keep _ (box_at _ _ rfl)) (H1.out.below hb) (by simp <;> omega) (box_at _ _ (by simp)) (H2.out.below hb), hb⟩

set_option maxRecDepth 20000 in
set_option maxHeartbeats 4000000 in
theorem add_mk (b1 b2 : Nat) (v1 v2 : Value) (m1 m2 : M) (w : World) (hb1 : b1 < w.heap.size) (hc1 : w.cell? ⟨b1, 0, none⟩ = some v1) (h1 : Mk w v1 m1) (hb2 : b2 < w.heap.size) (hc2 : w.cell? ⟨b2, 0, none⟩ = some v2) (h2 : Mk w v2 m2) : Mk w (.func (.func 71) #[] #[.pointer (some ⟨b1, 0, none⟩), .pointer (some ⟨b2, 0, none⟩)]) (addM m1 m2) := by
  refine ⟨_, _, rfl, ent_add1, fun _ => rfl, fun u w' hw => ?_⟩
  have c1 := (hw.cell (p := ⟨b1, 0, none⟩) hb1).trans hc1
  obtain ⟨fid1, cap1, rfl, hent1, len1, hk1⟩ := h1
  have ent1 : ∀ args w, (callFunc fid1 args).run Try.prog w = .ok (.enter fid1 args) w := hent1
  obtain ⟨T1, q1, hT1⟩ := pvT_iface (len1 u)
  have H1 := hide (hk1 u)
  rw [hT1] at H1
  have hl1 : b1 < w'.heap.size := Nat.lt_of_lt_of_le hb1 hw.size
  have c2 := (hw.cell (p := ⟨b2, 0, none⟩) hb2).trans hc2
  obtain ⟨fid2, cap2, rfl, hent2, len2, hk2⟩ := h2
  have ent2 : ∀ args w, (callFunc fid2 args).run Try.prog w = .ok (.enter fid2 args) w := hent2
  obtain ⟨T2, q2, hT2⟩ := pvT_iface (len2 u)
  have H2 := hide (hk2 u)
  rw [hT2] at H2
  have hl2 : b2 < w'.heap.size := Nat.lt_of_lt_of_le hb2 hw.size
  have HP : Hid (pvT (addM m1 m2 u) = .iface 78 (.agg #[.iface T1 q1, .iface T2 q2])) := hide (by
    show pv 5 0 (pvs ((m1 u).app (m2 u))) = _
    rw [pvs_app, pvs_one (len1 u), pvs_one (len2 u), hT1, hT2]
    rfl)
  have HB0 := hide (belowDrew hw)
  have HW0 : Hid (Below w'.heap.size w' w'.drew) := hide (belowDrew (Below.refl _ _))
  clear hc1 hent1 len1 hk1 hT1 hc2 hent2 len2 hk2 hT2
  show Calls _ _ #[.int .i64 u, .pointer (some ⟨b1, 0, none⟩), .pointer (some ⟨b2, 0, none⟩)] _ _
  go_enter Try.func71, Try.ntmps71
  go_wp2_with fail
  go_region_held3 (fun w1 => w1.cell? ⟨b1, 0, none⟩ = some (.func (.func fid1) #[] cap1) ∧ w1.cell? ⟨b2, 0, none⟩ = some (.func (.func fid2) #[] cap2)) (go_keep)
    (first
      | ((with_reducible refine Calls.mono (H1.out _ HB0.out) ?_); rintro e W1 ⟨rfl, hx⟩; have c1_1 := (hx.cell (p := ⟨b1, 0, none⟩) (World.block_lt_of_cell? _ _ c1)).trans c1; have c2_1 := (hx.cell (p := ⟨b2, 0, none⟩) (World.block_lt_of_cell? _ _ c2)).trans c2; have HB1 := hide (HB0.out.trans (hx.mono HB0.out.size)); have HW1 := hide (HW0.out.trans (hx.mono HW0.out.size)); clear hx)
      | ((with_reducible refine Calls.mono (H2.out _ HB1.out) ?_); rintro e W2 ⟨rfl, hx⟩; have c1_2 := (hx.cell (p := ⟨b1, 0, none⟩) (World.block_lt_of_cell? _ _ c1_1)).trans c1_1; have c2_2 := (hx.cell (p := ⟨b2, 0, none⟩) (World.block_lt_of_cell? _ _ c2_1)).trans c2_1; have HB2 := hide (HB1.out.trans (hx.mono HB1.out.size)); have HW2 := hide (HW1.out.trans (hx.mono HW1.out.size)); clear hx))
  go_wp2_with fail
  go_ret
  exact ⟨by rw [HP.out]; rfl, HW2.out⟩

set_option maxHeartbeats 1000000 in
theorem makeAdd_any (v1 v2 : Value) (m1 m2 : M) (w : World) (h1 : Mk w v1 m1) (h2 : Mk w v2 m2) :
    Calls Try.prog 42 #[v1, v2] w fun e w' => ∃ v', e = .returned v' ∧ Mk w' v' (addM m1 m2) ∧ Below w.heap.size w w' := by
  have H1 := hide h1
  obtain ⟨fid1, cap1, rfl⟩ := h1.form
  have H2 := hide h2
  obtain ⟨fid2, cap2, rfl⟩ := h2.form
  clear h1 h2
  go_enter Try.func42, Try.ntmps42
  go_wp2_with fail
  go_ret
  have hb : Below w.heap.size w ((w.alloc (.cells #[.func (.func fid1) #[] cap1] 50)).alloc (.cells #[.func (.func fid2) #[] cap2] 50)) := (((Below.refl w.heap.size w).alloc (Nat.le_refl _) (.cells #[.func (.func fid1) #[] cap1] 50)).alloc (by simp <;> omega) (.cells #[.func (.func fid2) #[] cap2] 50))
  exact ⟨_, rfl, add_mk w.heap.size (w.heap.size + 1) _ _ m1 m2 ((w.alloc (.cells #[.func (.func fid1) #[] cap1] 50)).alloc (.cells #[.func (.func fid2) #[] cap2] 50)) (by simp <;> omega) (box_keep _ (box_at _ _ rfl)) (H1.out.below hb) (by simp <;> omega) (box_at _ _ (by simp)) (H2.out.below hb), hb⟩

set_option maxRecDepth 20000 in
set_option maxHeartbeats 4000000 in
theorem if_mk (b1 b2 b3 : Nat) (v1 v2 v3 : Value) (m1 m2 m3 : M) (w : World) (hb1 : b1 < w.heap.size) (hc1 : w.cell? ⟨b1, 0, none⟩ = some v1) (h1 : Mk w v1 m1) (hb2 : b2 < w.heap.size) (hc2 : w.cell? ⟨b2, 0, none⟩ = some v2) (h2 : Mk w v2 m2) (hb3 : b3 < w.heap.size) (hc3 : w.cell? ⟨b3, 0, none⟩ = some v3) (h3 : Mk w v3 m3) : Mk w (.func (.func 74) #[] #[.pointer (some ⟨b1, 0, none⟩), .pointer (some ⟨b2, 0, none⟩), .pointer (some ⟨b3, 0, none⟩)]) (ifM m1 m2 m3) := by
  refine ⟨_, _, rfl, ent_if1, fun _ => rfl, fun u w' hw => ?_⟩
  have c1 := (hw.cell (p := ⟨b1, 0, none⟩) hb1).trans hc1
  obtain ⟨fid1, cap1, rfl, hent1, len1, hk1⟩ := h1
  have ent1 : ∀ args w, (callFunc fid1 args).run Try.prog w = .ok (.enter fid1 args) w := hent1
  obtain ⟨T1, q1, hT1⟩ := pvT_iface (len1 u)
  have H1 := hide (hk1 u)
  rw [hT1] at H1
  have hl1 : b1 < w'.heap.size := Nat.lt_of_lt_of_le hb1 hw.size
  have c2 := (hw.cell (p := ⟨b2, 0, none⟩) hb2).trans hc2
  obtain ⟨fid2, cap2, rfl, hent2, len2, hk2⟩ := h2
  have ent2 : ∀ args w, (callFunc fid2 args).run Try.prog w = .ok (.enter fid2 args) w := hent2
  obtain ⟨T2, q2, hT2⟩ := pvT_iface (len2 u)
  have H2 := hide (hk2 u)
  rw [hT2] at H2
  have hl2 : b2 < w'.heap.size := Nat.lt_of_lt_of_le hb2 hw.size
  have c3 := (hw.cell (p := ⟨b3, 0, none⟩) hb3).trans hc3
  obtain ⟨fid3, cap3, rfl, hent3, len3, hk3⟩ := h3
  have ent3 : ∀ args w, (callFunc fid3 args).run Try.prog w = .ok (.enter fid3 args) w := hent3
  obtain ⟨T3, q3, hT3⟩ := pvT_iface (len3 u)
  have H3 := hide (hk3 u)
  rw [hT3] at H3
  have hl3 : b3 < w'.heap.size := Nat.lt_of_lt_of_le hb3 hw.size
  have HP : Hid (pvT (ifM m1 m2 m3 u) = .iface 80 (.agg #[.iface T1 q1, .iface T2 q2, .iface T3 q3])) := hide (by
    show pv 6 0 (pvs ((m1 u).app ((m2 u).app (m3 u)))) = _
    rw [pvs_app, pvs_app, pvs_one (len1 u), pvs_one (len2 u), pvs_one (len3 u), hT1, hT2, hT3]
    rfl)
  have HB0 := hide (belowDrew hw)
  have HW0 : Hid (Below w'.heap.size w' w'.drew) := hide (belowDrew (Below.refl _ _))
  clear hc1 hent1 len1 hk1 hT1 hc2 hent2 len2 hk2 hT2 hc3 hent3 len3 hk3 hT3
  show Calls _ _ #[.int .i64 u, .pointer (some ⟨b1, 0, none⟩), .pointer (some ⟨b2, 0, none⟩), .pointer (some ⟨b3, 0, none⟩)] _ _
  go_enter Try.func74, Try.ntmps74
  go_wp2_with fail
  go_region_held3 (fun w1 => w1.cell? ⟨b1, 0, none⟩ = some (.func (.func fid1) #[] cap1) ∧ w1.cell? ⟨b2, 0, none⟩ = some (.func (.func fid2) #[] cap2) ∧ w1.cell? ⟨b3, 0, none⟩ = some (.func (.func fid3) #[] cap3)) (go_keep)
    (first
      | ((with_reducible refine Calls.mono (H1.out _ HB0.out) ?_); rintro e W1 ⟨rfl, hx⟩; have c1_1 := (hx.cell (p := ⟨b1, 0, none⟩) (World.block_lt_of_cell? _ _ c1)).trans c1; have c2_1 := (hx.cell (p := ⟨b2, 0, none⟩) (World.block_lt_of_cell? _ _ c2)).trans c2; have c3_1 := (hx.cell (p := ⟨b3, 0, none⟩) (World.block_lt_of_cell? _ _ c3)).trans c3; have HB1 := hide (HB0.out.trans (hx.mono HB0.out.size)); have HW1 := hide (HW0.out.trans (hx.mono HW0.out.size)); clear hx)
      | ((with_reducible refine Calls.mono (H2.out _ HB1.out) ?_); rintro e W2 ⟨rfl, hx⟩; have c1_2 := (hx.cell (p := ⟨b1, 0, none⟩) (World.block_lt_of_cell? _ _ c1_1)).trans c1_1; have c2_2 := (hx.cell (p := ⟨b2, 0, none⟩) (World.block_lt_of_cell? _ _ c2_1)).trans c2_1; have c3_2 := (hx.cell (p := ⟨b3, 0, none⟩) (World.block_lt_of_cell? _ _ c3_1)).trans c3_1; have HB2 := hide (HB1.out.trans (hx.mono HB1.out.size)); have HW2 := hide (HW1.out.trans (hx.mono HW1.out.size)); clear hx)
      | ((with_reducible refine Calls.mono (H3.out _ HB2.out) ?_); rintro e W3 ⟨rfl, hx⟩; have c1_3 := (hx.cell (p := ⟨b1, 0, none⟩) (World.block_lt_of_cell? _ _ c1_2)).trans c1_2; have c2_3 := (hx.cell (p := ⟨b2, 0, none⟩) (World.block_lt_of_cell? _ _ c2_2)).trans c2_2; have c3_3 := (hx.cell (p := ⟨b3, 0, none⟩) (World.block_lt_of_cell? _ _ c3_2)).trans c3_2; have HB3 := hide (HB2.out.trans (hx.mono HB2.out.size)); have HW3 := hide (HW2.out.trans (hx.mono HW2.out.size)); clear hx))
  go_wp2_with fail
  go_ret
  exact ⟨by rw [HP.out]; rfl, HW3.out⟩

set_option maxHeartbeats 1000000 in
theorem makeIf_any (v1 v2 v3 : Value) (m1 m2 m3 : M) (w : World) (h1 : Mk w v1 m1) (h2 : Mk w v2 m2) (h3 : Mk w v3 m3) :
    Calls Try.prog 45 #[v1, v2, v3] w fun e w' => ∃ v', e = .returned v' ∧ Mk w' v' (ifM m1 m2 m3) ∧ Below w.heap.size w w' := by
  have H1 := hide h1
  obtain ⟨fid1, cap1, rfl⟩ := h1.form
  have H2 := hide h2
  obtain ⟨fid2, cap2, rfl⟩ := h2.form
  have H3 := hide h3
  obtain ⟨fid3, cap3, rfl⟩ := h3.form
  clear h1 h2 h3
  go_enter Try.func45, Try.ntmps45
  go_wp2_with fail
  go_ret
  have hb : Below w.heap.size w (((w.alloc (.cells #[.func (.func fid1) #[] cap1] 50)).alloc (.cells #[.func (.func fid2) #[] cap2] 50)).alloc (.cells #[.func (.func fid3) #[] cap3] 50)) := ((((Below.refl w.heap.size w).alloc (Nat.le_refl _) (.cells #[.func (.func fid1) #[] cap1] 50)).alloc (by simp <;> omega) (.cells #[.func (.func fid2) #[] cap2] 50)).alloc (by simp <;> omega) (.cells #[.func (.func fid3) #[] cap3] 50))
  exact ⟨_, rfl, if_mk w.heap.size (w.heap.size + 1) (w.heap.size + 1 + 1) _ _ _ m1 m2 m3 (((w.alloc (.cells #[.func (.func fid1) #[] cap1] 50)).alloc (.cells #[.func (.func fid2) #[] cap2] 50)).alloc (.cells #[.func (.func fid3) #[] cap3] 50)) (by simp <;> omega) (box_keep _ (box_keep _ (box_at _ _ rfl))) (H1.out.below hb) (by simp <;> omega) (box_keep _ (box_at _ _ (by simp))) (H2.out.below hb) (by simp <;> omega) (box_at _ _ (by simp)) (H3.out.below hb), hb⟩

theorem ent_val1 : Enters 64 := fun args w => by kernel_rfl
set_option maxHeartbeats 1000000 in
theorem handValue_any (vv : Value) (v : M) (w : World) (h : Mk w vv v) :
    Calls Try.prog 34 #[vv] w fun e w' => ∃ v', e = .returned v' ∧ Mk w' v' (valM v) ∧ Below w.heap.size w w' := by
  have H := hide h
  obtain ⟨fid, cap, rfl⟩ := h.form
  clear h
  have hb := (Below.refl w.heap.size w).alloc (Nat.le_refl _) (.cells #[.func (.func fid) #[] cap] 50)
  have HBd : Hid (Bd (w.alloc (.cells #[.func (.func fid) #[] cap] 50)) (.func (.func 64) #[] #[.pointer (some ⟨w.heap.size, 0, none⟩)]) (fun next => appM next v)) := hide (by
    refine ⟨_, _, rfl, ent_val1, fun vm m w' hw hm => ?_⟩
    have c : w'.cell? ⟨w.heap.size, 0, none⟩ = some (.func (.func fid) #[] cap) := (hw.cell (p := ⟨w.heap.size, 0, none⟩) (by simp)).trans (by simp)
    have HM := hide hm
    have HV := hide ((H.out.below hb).below hw)
    obtain ⟨fid2, cap2, rfl⟩ := hm.form
    clear hm hw
    show Calls _ _ #[.func (.func fid2) #[] cap2, .pointer (some ⟨w.heap.size, 0, none⟩)] _ _
    go_enter Try.func64, Try.ntmps64
    go_wp2_with fail
    refine Calls.mono (makeApp_any _ _ _ _ _ HM.out HV.out) ?_
    rintro e w2 ⟨v', rfl, hm2, hb2⟩
    obtain ⟨fid3, cap3, rfl⟩ := hm2.form
    go_wp2_with fail
    go_ret
    exact ⟨_, rfl, hm2, hb2⟩)
  have HB := hide hb
  clear hb
  go_enter Try.func34, Try.ntmps34
  go_wp2_with fail
  refine Calls.mono (makeLam_any _ _ _ HBd.out) ?_
  rintro e w2 ⟨v', rfl, hm2, hb2⟩
  obtain ⟨fid3, cap3, rfl⟩ := hm2.form
  go_wp2_with fail
  go_ret
  exact ⟨_, rfl, hm2, HB.out.trans (hb2.mono HB.out.size)⟩

theorem ent_with1 : Enters 67 := fun args w => by kernel_rfl
theorem Sr.form {n : Int} {w : World} {v : Value} {ρ : Int → M} (h : Sr n w v ρ) : v = .nilFunc ∨ ∃ fid cap, v = .func (.func fid) #[] cap := by
  rcases h with h | ⟨fid, cap, h, -⟩
  · exact .inl h.1
  · exact .inr ⟨fid, cap, h⟩
set_option maxHeartbeats 1000000 in
theorem with_sr (b1 b2 : Nat) (vm va : Value) (m : M) (n : Int) (ρ : Int → M) (w : World) (hn : n ≤ 1000000) (hb1 : b1 < w.heap.size) (hb2 : b2 < w.heap.size) (hc1 : w.cell? ⟨b1, 0, none⟩ = some vm) (hc2 : w.cell? ⟨b2, 0, none⟩ = some va) (h1 : Mk w vm m) (h2 : Sr n w va ρ) :
    Sr (n + 1) w (.func (.func 67) #[] #[.pointer (some ⟨b1, 0, none⟩), .pointer (some ⟨b2, 0, none⟩)]) (extM ρ m) := by
  refine .inr ⟨_, _, rfl, ent_with1, fun far w' h0 hf hw => ?_⟩
  have c1 := (hw.cell (p := ⟨b1, 0, none⟩) hb1).trans hc1
  have c2 := (hw.cell (p := ⟨b2, 0, none⟩) hb2).trans hc2
  show Calls _ _ #[.int .i64 far, .pointer (some ⟨b1, 0, none⟩), .pointer (some ⟨b2, 0, none⟩)] _ _
  unfold extM
  by_cases hz : far = 0
  · subst hz
    rw [if_pos rfl]
    have HM := hide (h1.below hw)
    obtain ⟨fid, cap, rfl⟩ := h1.form
    clear h1 h2 hc1 hc2 hw c2
    go_enter Try.func67, Try.ntmps67
    go_wp2_with fail
    go_ret
    exact ⟨_, rfl, HM.out, Below.refl _ _⟩
  · rw [if_neg hz]
    rcases h2 with h2 | ⟨fid, cap, rfl, hent, hk⟩
    · omega
    · have ent : ∀ args w, (callFunc fid args).run Try.prog w = .ok (.enter fid args) w := hent
      have HK := hide (hk (far - 1) w' (by omega) (by omega) hw)
      have hzb : (far == 0) = false := by simp [hz]
      clear h1 hc1 hc2 hw c1 hk hent
      go_enter Try.func67, Try.ntmps67
      go_wp2_with fail
      refine Calls.mono HK.out ?_
      rintro e w2 ⟨v', rfl, hm2, hb2⟩
      obtain ⟨fid3, cap3, rfl⟩ := hm2.form
      go_wp2_with fail
      go_ret
      exact ⟨_, rfl, hm2, hb2⟩

set_option maxHeartbeats 1000000 in
theorem with_any (va vm : Value) (m : M) (n : Int) (ρ : Int → M) (w : World) (hn : n ≤ 1000000) (h1 : Mk w vm m) (h2 : Sr n w va ρ) :
    Calls Try.prog 37 #[va, vm] w fun e w' => ∃ v', e = .returned v' ∧ Sr (n + 1) w' v' (extM ρ m) ∧ Below w.heap.size w w' := by
  have H1 := hide h1
  have H2 := hide h2
  obtain ⟨fid, cap, rfl⟩ := h1.form
  rcases h2.form with rfl | ⟨fid2, cap2, rfl⟩
  · clear h1 h2
    go_enter Try.func37, Try.ntmps37
    go_wp2_with fail
    go_ret
    have hb : Below w.heap.size w ((w.alloc (.cells #[.nilFunc] 64)).alloc (.cells #[.func (.func fid) #[] cap] 50)) := ((Below.refl w.heap.size w).alloc (Nat.le_refl _) _).alloc (by simp <;> omega) _
    exact ⟨_, rfl, with_sr (w.heap.size + 1) w.heap.size _ _ m n ρ _ hn (by simp <;> omega) (by simp <;> omega) (by simp) (by simp) (H1.out.below hb) (H2.out.below hb), hb⟩
  · clear h1 h2
    go_enter Try.func37, Try.ntmps37
    go_wp2_with fail
    go_ret
    have hb : Below w.heap.size w ((w.alloc (.cells #[.func (.func fid2) #[] cap2] 64)).alloc (.cells #[.func (.func fid) #[] cap] 50)) := ((Below.refl w.heap.size w).alloc (Nat.le_refl _) _).alloc (by simp <;> omega) _
    exact ⟨_, rfl, with_sr (w.heap.size + 1) w.heap.size _ _ m n ρ _ hn (by simp <;> omega) (by simp <;> omega) (by simp) (by simp) (H1.out.below hb) (H2.out.below hb), hb⟩
end Go.Proofs.Ytnmkbpflbfhpnaa.W

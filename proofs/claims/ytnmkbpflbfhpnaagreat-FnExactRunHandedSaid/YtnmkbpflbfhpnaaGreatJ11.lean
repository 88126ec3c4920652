/-
  Some texts of this proof in one: HnC, HnD, HnH.
-/
import Derived.Test.YtnmkbpflbfhpnaaGreatJ10
import Derived.Test.YtnmkbpflbfhpnaaGreatJ03
import Derived.Deep.RegionHeld3
/-
  Parts made by closures: what a making, a surrounding and the functions on them are in memory; contracts of makeLam, makeApp, makeAdd, makeIf, handValue, with. No conditions.
-/
namespace Go.Proofs.YtnmkbpflbfhpnaaGreat.W
open Go.ChangeShapes Go.WideShapes Go.ChangeAt Go.RowKit
set_option linter.unusedVariables false

def Enters (fid : FuncId) : Prop := ∀ args w, (callFunc fid args).run Tryz.prog w = .ok (.enter fid args) w
/-- A function value that makes this part under so many bindings, now and whatever is made later. -/
def Mk (w : World) (v : Value) (m : M) : Prop := ∃ fid cap, v = .func (.func fid) #[] cap ∧ Enters fid ∧ (∀ u, (m u).len = 1) ∧
  ∀ (u : Int) (w' : World), Below w.heap.size w w' → Calls Tryz.prog fid (#[.int .i64 u] ++ cap) w' fun e w'' => e = .returned (pvT (m u)) ∧ Below w'.heap.size w' w''
def Bdy (w : World) (v : Value) (B : M → M) : Prop := ∃ fid cap, v = .func (.func fid) #[] cap ∧ Enters fid ∧
  ∀ (vm : Value) (m : M) (w' : World), Below w.heap.size w w' → Mk w' vm m → Calls Tryz.prog fid (#[vm] ++ cap) w' fun e w'' => ∃ v', e = .returned v' ∧ Mk w'' v' (B m) ∧ Below w'.heap.size w' w''
def T2 (w : World) (v : Value) (t : M → M → M) : Prop := ∃ fid cap, v = .func (.func fid) #[] cap ∧ Enters fid ∧
  ∀ (va vb : Value) (a b : M) (w' : World), Below w.heap.size w w' → Mk w' va a → Mk w' vb b → Calls Tryz.prog fid (#[va, vb] ++ cap) w' fun e w'' => ∃ v', e = .returned v' ∧ Mk w'' v' (t a b) ∧ Below w'.heap.size w' w''
def T3 (w : World) (v : Value) (t : M → M → M → M) : Prop := ∃ fid cap, v = .func (.func fid) #[] cap ∧ Enters fid ∧
  ∀ (va vb vc : Value) (a b c : M) (w' : World), Below w.heap.size w w' → Mk w' va a → Mk w' vb b → Mk w' vc c → Calls Tryz.prog fid (#[va, vb, vc] ++ cap) w' fun e w'' => ∃ v', e = .returned v' ∧ Mk w'' v' (t a b c) ∧ Below w'.heap.size w' w''
/-- What is around a part with n variables bound around it. -/
def Sr (n : Int) (w : World) (v : Value) (ρ : Int → M) : Prop := (v = .nilFunc ∧ n = 0) ∨ ∃ fid cap, v = .func (.func fid) #[] cap ∧ Enters fid ∧
  ∀ (far : Int) (w' : World), 0 ≤ far → far < n → Below w.heap.size w w' → Calls Tryz.prog fid (#[.int .i64 far] ++ cap) w' fun e w'' => ∃ v', e = .returned v' ∧ Mk w'' v' (ρ far) ∧ Below w'.heap.size w' w''

theorem Mk.below {w w' : World} {v : Value} {m : M} (h : Mk w v m) (hb : Below w.heap.size w w') : Mk w' v m := by
  obtain ⟨fid, cap, h1, h2, h3, h4⟩ := h
  exact ⟨fid, cap, h1, h2, h3, fun u w'' hw => h4 u w'' (hb.trans (hw.mono hb.size))⟩
theorem Bdy.below {w w' : World} {v : Value} {B : M → M} (h : Bdy w v B) (hb : Below w.heap.size w w') : Bdy w' v B := by
  obtain ⟨fid, cap, h1, h2, h4⟩ := h
  exact ⟨fid, cap, h1, h2, fun vm m w'' hw => h4 vm m w'' (hb.trans (hw.mono hb.size))⟩
theorem T2.below {w w' : World} {v : Value} {t : M → M → M} (h : T2 w v t) (hb : Below w.heap.size w w') : T2 w' v t := by
  obtain ⟨fid, cap, h1, h2, h4⟩ := h
  exact ⟨fid, cap, h1, h2, fun va vb a b w'' hw => h4 va vb a b w'' (hb.trans (hw.mono hb.size))⟩
theorem T3.below {w w' : World} {v : Value} {t : M → M → M → M} (h : T3 w v t) (hb : Below w.heap.size w w') : T3 w' v t := by
  obtain ⟨fid, cap, h1, h2, h4⟩ := h
  exact ⟨fid, cap, h1, h2, fun va vb vc a b c w'' hw => h4 va vb vc a b c w'' (hb.trans (hw.mono hb.size))⟩
theorem Sr.below {n : Int} {w w' : World} {v : Value} {ρ : Int → M} (h : Sr n w v ρ) (hb : Below w.heap.size w w') : Sr n w' v ρ := by
  rcases h with h | ⟨fid, cap, h1, h2, h4⟩
  · exact .inl h
  · exact .inr ⟨fid, cap, h1, h2, fun far w'' a b hw => h4 far w'' a b (hb.trans (hw.mono hb.size))⟩
theorem Mk.form {w : World} {v : Value} {m : M} (h : Mk w v m) : ∃ fid cap, v = .func (.func fid) #[] cap := by
  obtain ⟨fid, cap, h1, -⟩ := h
  exact ⟨fid, cap, h1⟩

theorem ent_lam11 : Enters 91 := fun args w => by kernel_rfl
theorem ent_lam1 : Enters 90 := fun args w => by kernel_rfl
theorem ent_app1 : Enters 95 := fun args w => by kernel_rfl
theorem ent_add1 : Enters 96 := fun args w => by kernel_rfl
theorem ent_if1 : Enters 99 := fun args w => by kernel_rfl

theorem w64 (n : Int) : IntKind.i64.wrap n = wrap64 n := by rw [IntKind.wrap_i64]; unfold wrap64; rfl
theorem sub1_64 (a b : Int) : sub1 a b = wrap64 (wrap64 (a - b) - 1) := by rw [sub1, w64, w64]

set_option maxHeartbeats 400000 in
theorem bnd_mk (b : Nat) (u : Int) (w : World) (hb : b < w.heap.size) (hc : w.cell? ⟨b, 0, none⟩ = some (.int .i64 u)) : Mk w (.func (.func 91) #[] #[.pointer (some ⟨b, 0, none⟩)]) (bndM u) := by
  refine ⟨_, _, rfl, ent_lam11, fun _ => rfl, fun v w' hw => ?_⟩
  have c := (hw.cell (p := ⟨b, 0, none⟩) hb).trans hc
  have hp : pvT (bndM u v) = .iface 102 (.agg #[.int .i64 (wrap64 (wrap64 (v - u) - 1))]) := by rw [← sub1_64]; rfl
  rw [hp]
  clear hc hw hp
  show Calls _ _ #[.int .i64 v, .pointer (some ⟨b, 0, none⟩)] _ _
  go_enter Tryz.func91, Tryz.ntmps91
  go_wp2_with fail
  go_ret
  exact ⟨rfl, Below.refl _ _⟩

set_option maxRecDepth 20000 in
set_option maxHeartbeats 2000000 in
theorem lam_mk (b : Nat) (vB : Value) (B : M → M) (w : World) (hb : b < w.heap.size) (hc : w.cell? ⟨b, 0, none⟩ = some vB) (hB : Bdy w vB B) : Mk w (.func (.func 90) #[] #[.pointer (some ⟨b, 0, none⟩)]) (lamM B) := by
  refine ⟨_, _, rfl, ent_lam1, fun _ => rfl, fun u w' hw => ?_⟩
  have c := (hw.cell (p := ⟨b, 0, none⟩) hb).trans hc
  obtain ⟨fid, cap, rfl, hent, hB⟩ := hB
  have ent : ∀ args w, (callFunc fid args).run Tryz.prog w = .ok (.enter fid args) w := hent
  have hp : ∀ T q, pvT (B (bndM u) (up1 u)) = .iface T q → (B (bndM u) (up1 u)).len = 1 → pvT (lamM B u) = .iface 105 (.agg #[.iface T q]) := by
    intro T q h1 h2
    show pv 3 0 (pvs (B (bndM u) (up1 u))) = _
    rw [pvs_one h2, h1]; rfl
  have HP := hide hp
  have HB := hide hB
  have HW := hide hw
  have hbl : b < w'.heap.size := Nat.lt_of_lt_of_le hb hw.size
  clear hc hw hp hB hent
  show Calls _ _ #[.int .i64 u, .pointer (some ⟨b, 0, none⟩)] _ _
  go_enter Tryz.func90, Tryz.ntmps90
  go_wp2_with fail
  obtain ⟨w0, hw0⟩ : ∃ w0, w0 = w'.alloc (.cells #[.int .i64 u] 3) := ⟨_, rfl⟩
  rw [← hw0]
  have hB0 : Below w'.heap.size w' w0.drew := by rw [hw0]; exact belowDrew ((Below.refl _ _).alloc (Nat.le_refl _) _)
  have hx : w0.heap.size = w'.heap.size + 1 := by rw [hw0]; simp
  have c0 : w0.cell? ⟨w'.heap.size, 0, none⟩ = some (.int .i64 u) := by rw [hw0]; simp
  have c1 : w0.cell? ⟨b, 0, none⟩ = some (.func (.func fid) #[] cap) := (hB0.cell (p := ⟨b, 0, none⟩) hbl).trans c
  have HM0 := hide (bnd_mk w'.heap.size u w0.drew (by show _ < w0.heap.size; omega) c0)
  have HB0 := hide (HW.out.trans (hB0.mono HW.out.size))
  have HBB := hide hB0
  have hsz : w'.heap.size < w0.heap.size := by omega
  have hbz : b < w0.heap.size := by omega
  clear hw0 hB0 hx
  go_region_held3 (fun w1 => w1.cell? ⟨w'.heap.size, 0, none⟩ = some (.int .i64 u) ∧ w1.cell? ⟨b, 0, none⟩ = some (.func (.func fid) #[] cap)) (go_keep)
    (first
      | ((with_reducible refine Calls.mono (HB.out _ _ _ HB0.out HM0.out) ?_); rintro e w1 ⟨v', rfl, hmk, hb1⟩; obtain ⟨fid2, cap2, rfl, hent2, len2, hc2⟩ := hmk; have ent2 : ∀ args w, (callFunc fid2 args).run Tryz.prog w = .ok (.enter fid2 args) w := hent2; have HC2 := hide hc2; have HL2 := hide len2; have c0_1 := (hb1.cell (p := ⟨w'.heap.size, 0, none⟩) hsz).trans c0; have c1_1 := (hb1.cell (p := ⟨b, 0, none⟩) hbz).trans c1; have HB1 := hide hb1; clear hent2 hc2 len2 hb1)
      | ((with_reducible refine Calls.mono (HC2.out _ _ (Below.refl _ _)) ?_); obtain ⟨T, q, hT⟩ := pvT_iface (HL2.out (up1 u)); rintro e w2 ⟨he, hb2⟩; have he2 := he.trans (congrArg Ending.returned hT); subst he2; have c0_2 := (hb2.cell (p := ⟨w'.heap.size, 0, none⟩) (World.block_lt_of_cell? w1 _ c0_1)).trans c0_1; have c1_2 := (hb2.cell (p := ⟨b, 0, none⟩) (World.block_lt_of_cell? w1 _ c1_1)).trans c1_1; have HB2 := hide hb2; have HT := hide hT; clear hb2 hT he))
  go_wp2_with fail
  go_ret
  have hB2 := (HBB.out.trans (HB1.out.mono HBB.out.size)).trans (HB2.out.mono (HBB.out.trans (HB1.out.mono HBB.out.size)).size)
  exact ⟨by rw [HP.out T q HT.out (HL2.out _)]; rfl, hB2⟩

/-! More makings. -/
theorem box_cell (w : World) (v : Value) (T : TypeId) : (w.alloc (.cells #[v] T)).cell? ⟨w.heap.size, 0, none⟩ = some v := by simp
theorem box_at {w : World} (v : Value) (T : TypeId) {n : Nat} (h : w.heap.size = n) : (w.alloc (.cells #[v] T)).cell? ⟨n, 0, none⟩ = some v := by subst h; exact box_cell _ _ _
theorem box_keep {w : World} {b : Nat} {v : Value} (o : Obj) (h : w.cell? ⟨b, 0, none⟩ = some v) : (w.alloc o).cell? ⟨b, 0, none⟩ = some v := (((Below.refl w.heap.size w).alloc (Nat.le_refl _) o).cell (World.block_lt_of_cell? _ _ h)).trans h

set_option maxHeartbeats 1000000 in
theorem makeLam_any (vB : Value) (B : M → M) (w : World) (h : Bdy w vB B) :
    Calls Tryz.prog 50 #[vB] w fun e w' => ∃ v', e = .returned v' ∧ Mk w' v' (lamM B) ∧ Below w.heap.size w w' := by
  have HB := hide h
  obtain ⟨fid, cap, rfl, -, -⟩ := h
  go_enter Tryz.func50, Tryz.ntmps50
  go_wp2_with fail
  go_ret
  have hb := (Below.refl w.heap.size w).alloc (Nat.le_refl _) (.cells #[.func (.func fid) #[] cap] 103)
  exact ⟨_, rfl, lam_mk w.heap.size _ B _ (by simp) (by simp) (HB.out.below hb), hb⟩

set_option maxRecDepth 20000 in
set_option maxHeartbeats 4000000 in
theorem app_mk (b1 b2 : Nat) (v1 v2 : Value) (m1 m2 : M) (w : World) (hb1 : b1 < w.heap.size) (hc1 : w.cell? ⟨b1, 0, none⟩ = some v1) (h1 : Mk w v1 m1) (hb2 : b2 < w.heap.size) (hc2 : w.cell? ⟨b2, 0, none⟩ = some v2) (h2 : Mk w v2 m2) : Mk w (.func (.func 95) #[] #[.pointer (some ⟨b1, 0, none⟩), .pointer (some ⟨b2, 0, none⟩)]) (appM m1 m2) := by
  refine ⟨_, _, rfl, ent_app1, fun _ => rfl, fun u w' hw => ?_⟩
  have c1 := (hw.cell (p := ⟨b1, 0, none⟩) hb1).trans hc1
  obtain ⟨fid1, cap1, rfl, hent1, len1, hk1⟩ := h1
  have ent1 : ∀ args w, (callFunc fid1 args).run Tryz.prog w = .ok (.enter fid1 args) w := hent1
  obtain ⟨T1, q1, hT1⟩ := pvT_iface (len1 u)
  have H1 := hide (hk1 u)
  rw [hT1] at H1
  have hl1 : b1 < w'.heap.size := Nat.lt_of_lt_of_le hb1 hw.size
  have c2 := (hw.cell (p := ⟨b2, 0, none⟩) hb2).trans hc2
  obtain ⟨fid2, cap2, rfl, hent2, len2, hk2⟩ := h2
  have ent2 : ∀ args w, (callFunc fid2 args).run Tryz.prog w = .ok (.enter fid2 args) w := hent2
  obtain ⟨T2, q2, hT2⟩ := pvT_iface (len2 u)
  have H2 := hide (hk2 u)
  rw [hT2] at H2
  have hl2 : b2 < w'.heap.size := Nat.lt_of_lt_of_le hb2 hw.size
  have HP : Hid (pvT (appM m1 m2 u) = .iface 109 (.agg #[.iface T1 q1, .iface T2 q2])) := hide (by
    show pv 4 0 (pvs ((m1 u).app (m2 u))) = _
    rw [pvs_app, pvs_one (len1 u), pvs_one (len2 u), hT1, hT2]
    rfl)
  have HB0 := hide (belowDrew hw)
  have HW0 : Hid (Below w'.heap.size w' w'.drew) := hide (belowDrew (Below.refl _ _))
  clear hc1 hent1 len1 hk1 hT1 hc2 hent2 len2 hk2 hT2
  show Calls _ _ #[.int .i64 u, .pointer (some ⟨b1, 0, none⟩), .pointer (some ⟨b2, 0, none⟩)] _ _
  go_enter Tryz.func95, Tryz.ntmps95
  go_wp2_with fail
  go_region_held3 (fun w1 => w1.cell? ⟨b1, 0, none⟩ = some (.func (.func fid1) #[] cap1) ∧ w1.cell? ⟨b2, 0, none⟩ = some (.func (.func fid2) #[] cap2)) (go_keep)
    (first
      | ((with_reducible refine Calls.mono (H1.out _ HB0.out) ?_); rintro e W1 ⟨rfl, hx⟩; have c1_1 := (hx.cell (p := ⟨b1, 0, none⟩) (World.block_lt_of_cell? _ _ c1)).trans c1; have c2_1 := (hx.cell (p := ⟨b2, 0, none⟩) (World.block_lt_of_cell? _ _ c2)).trans c2; have HB1 := hide (HB0.out.trans (hx.mono HB0.out.size)); have HW1 := hide (HW0.out.trans (hx.mono HW0.out.size)); clear hx)
      | ((with_reducible refine Calls.mono (H2.out _ HB1.out) ?_); rintro e W2 ⟨rfl, hx⟩; have c1_2 := (hx.cell (p := ⟨b1, 0, none⟩) (World.block_lt_of_cell? _ _ c1_1)).trans c1_1; have c2_2 := (hx.cell (p := ⟨b2, 0, none⟩) (World.block_lt_of_cell? _ _ c2_1)).trans c2_1; have HB2 := hide (HB1.out.trans (hx.mono HB1.out.size)); have HW2 := hide (HW1.out.trans (hx.mono HW1.out.size)); clear hx))
  go_wp2_with fail
  go_ret
  exact ⟨by rw [HP.out]; rfl, HW2.out⟩

set_option maxHeartbeats 1000000 in
theorem makeApp_any (v1 v2 : Value) (m1 m2 : M) (w : World) (h1 : Mk w v1 m1) (h2 : Mk w v2 m2) :
    Calls Tryz.prog 55 #[v1, v2] w fun e w' => ∃ v', e = .returned v' ∧ Mk w' v' (appM m1 m2) ∧ Below w.heap.size w w' := by
  have H1 := hide h1
  obtain ⟨fid1, cap1, rfl⟩ := h1.form
  have H2 := hide h2
  obtain ⟨fid2, cap2, rfl⟩ := h2.form
  clear h1 h2
  go_enter Tryz.func55, Tryz.ntmps55
  go_wp2_with fail
  go_ret
  have hb : Below w.heap.size w ((w.alloc (.cells #[.func (.func fid1) #[] cap1] 82)).alloc (.cells #[.func (.func fid2) #[] cap2] 82)) := (((Below.refl w.heap.size w).alloc (Nat.le_refl _) (.cells #[.func (.func fid1) #[] cap1] 82)).alloc (by simp <;> omega) (.cells #[.func (.func fid2) #[] cap2] 82))
  exact ⟨_, rfl, app_mk w.heap.size (w.heap.size + 1) _ _ m1 m2 ((w.alloc (.cells #[.func (.func fid1) #[] cap1] 82)).alloc (.cells #[.func (.func fid2) #[] cap2] 82)) (by simp <;> omega) (box_keep _ (box_at _ _ rfl)) (H1.out.below hb) (by simp <;> omega) (box_at _ _ (by simp)) (H2.out.below hb), hb⟩

set_option maxRecDepth 20000 in
set_option maxHeartbeats 4000000 in
theorem add_mk (b1 b2 : Nat) (v1 v2 : Value) (m1 m2 : M) (w : World) (hb1 : b1 < w.heap.size) (hc1 : w.cell? ⟨b1, 0, none⟩ = some v1) (h1 : Mk w v1 m1) (hb2 : b2 < w.heap.size) (hc2 : w.cell? ⟨b2, 0, none⟩ = some v2) (h2 : Mk w v2 m2) : Mk w (.func (.func 96) #[] #[.pointer (some ⟨b1, 0, none⟩), .pointer (some ⟨b2, 0, none⟩)]) (addM m1 m2) := by
  refine ⟨_, _, rfl, ent_add1, fun _ => rfl, fun u w' hw => ?_⟩
  have c1 := (hw.cell (p := ⟨b1, 0, none⟩) hb1).trans hc1
  obtain ⟨fid1, cap1, rfl, hent1, len1, hk1⟩ := h1
  have ent1 : ∀ args w, (callFunc fid1 args).run Tryz.prog w = .ok (.enter fid1 args) w := hent1
  obtain ⟨T1, q1, hT1⟩ := pvT_iface (len1 u)
  have H1 := hide (hk1 u)
  rw [hT1] at H1
  have hl1 : b1 < w'.heap.size := Nat.lt_of_lt_of_le hb1 hw.size
  have c2 := (hw.cell (p := ⟨b2, 0, none⟩) hb2).trans hc2
  obtain ⟨fid2, cap2, rfl, hent2, len2, hk2⟩ := h2
  have ent2 : ∀ args w, (callFunc fid2 args).run Tryz.prog w = .ok (.enter fid2 args) w := hent2
  obtain ⟨T2, q2, hT2⟩ := pvT_iface (len2 u)
  have H2 := hide (hk2 u)
  rw [hT2] at H2
  have hl2 : b2 < w'.heap.size := Nat.lt_of_lt_of_le hb2 hw.size
  have HP : Hid (pvT (addM m1 m2 u) = .iface 114 (.agg #[.iface T1 q1, .iface T2 q2])) := hide (by
    show pv 5 0 (pvs ((m1 u).app (m2 u))) = _
    rw [pvs_app, pvs_one (len1 u), pvs_one (len2 u), hT1, hT2]
    rfl)
  have HB0 := hide (belowDrew hw)
  have HW0 : Hid (Below w'.heap.size w' w'.drew) := hide (belowDrew (Below.refl _ _))
  clear hc1 hent1 len1 hk1 hT1 hc2 hent2 len2 hk2 hT2
  show Calls _ _ #[.int .i64 u, .pointer (some ⟨b1, 0, none⟩), .pointer (some ⟨b2, 0, none⟩)] _ _
  go_enter Tryz.func96, Tryz.ntmps96
  go_wp2_with fail
  go_region_held3 (fun w1 => w1.cell? ⟨b1, 0, none⟩ = some (.func (.func fid1) #[] cap1) ∧ w1.cell? ⟨b2, 0, none⟩ = some (.func (.func fid2) #[] cap2)) (go_keep)
    (first
      | ((with_reducible refine Calls.mono (H1.out _ HB0.out) ?_); rintro e W1 ⟨rfl, hx⟩; have c1_1 := (hx.cell (p := ⟨b1, 0, none⟩) (World.block_lt_of_cell? _ _ c1)).trans c1; have c2_1 := (hx.cell (p := ⟨b2, 0, none⟩) (World.block_lt_of_cell? _ _ c2)).trans c2; have HB1 := hide (HB0.out.trans (hx.mono HB0.out.size)); have HW1 := hide (HW0.out.trans (hx.mono HW0.out.size)); clear hx)
      | ((with_reducible refine Calls.mono (H2.out _ HB1.out) ?_); rintro e W2 ⟨rfl, hx⟩; have c1_2 := (hx.cell (p := ⟨b1, 0, none⟩) (World.block_lt_of_cell? _ _ c1_1)).trans c1_1; have c2_2 := (hx.cell (p := ⟨b2, 0, none⟩) (World.block_lt_of_cell? _ _ c2_1)).trans c2_1; have HB2 := hide (HB1.out.trans (hx.mono HB1.out.size)); have HW2 := hide (HW1.out.trans (hx.mono HW1.out.size)); clear hx))
  go_wp2_with fail
  go_ret
  exact ⟨by rw [HP.out]; rfl, HW2.out⟩

set_option maxHeartbeats 1000000 in
theorem makeAdd_any (v1 v2 : Value) (m1 m2 : M) (w : World) (h1 : Mk w v1 m1) (h2 : Mk w v2 m2) :
    Calls Tryz.prog 57 #[v1, v2] w fun e w' => ∃ v', e = .returned v' ∧ Mk w' v' (addM m1 m2) ∧ Below w.heap.size w w' := by
  have H1 := hide h1
  obtain ⟨fid1, cap1, rfl⟩ := h1.form
  have H2 := hide h2
  obtain ⟨fid2, cap2, rfl⟩ := h2.form
  clear h1 h2
  go_enter Tryz.func57, Tryz.ntmps57
  go_wp2_with fail
  go_ret
  have hb : Below w.heap.size w ((w.alloc (.cells #[.func (.func fid1) #[] cap1] 82)).alloc (.cells #[.func (.func fid2) #[] cap2] 82)) := (((Below.refl w.heap.size w).alloc (Nat.le_refl _) (.cells #[.func (.func fid1) #[] cap1] 82)).alloc (by simp <;> omega) (.cells #[.func (.func fid2) #[] cap2] 82))
  exact ⟨_, rfl, add_mk w.heap.size (w.heap.size + 1) _ _ m1 m2 ((w.alloc (.cells #[.func (.func fid1) #[] cap1] 82)).alloc (.cells #[.func (.func fid2) #[] cap2] 82)) (by simp <;> omega) (box_keep _ (box_at _ _ rfl)) (H1.out.below hb) (by simp <;> omega) (box_at _ _ (by simp)) (H2.out.below hb), hb⟩

set_option maxRecDepth 20000 in
set_option maxHeartbeats 4000000 in
theorem if_mk (b1 b2 b3 : Nat) (v1 v2 v3 : Value) (m1 m2 m3 : M) (w : World) (hb1 : b1 < w.heap.size) (hc1 : w.cell? ⟨b1, 0, none⟩ = some v1) (h1 : Mk w v1 m1) (hb2 : b2 < w.heap.size) (hc2 : w.cell? ⟨b2, 0, none⟩ = some v2) (h2 : Mk w v2 m2) (hb3 : b3 < w.heap.size) (hc3 : w.cell? ⟨b3, 0, none⟩ = some v3) (h3 : Mk w v3 m3) : Mk w (.func (.func 99) #[] #[.pointer (some ⟨b1, 0, none⟩), .pointer (some ⟨b2, 0, none⟩), .pointer (some ⟨b3, 0, none⟩)]) (ifM m1 m2 m3) := by
  refine ⟨_, _, rfl, ent_if1, fun _ => rfl, fun u w' hw => ?_⟩
  have c1 := (hw.cell (p := ⟨b1, 0, none⟩) hb1).trans hc1
  obtain ⟨fid1, cap1, rfl, hent1, len1, hk1⟩ := h1
  have ent1 : ∀ args w, (callFunc fid1 args).run Tryz.prog w = .ok (.enter fid1 args) w := hent1
  obtain ⟨T1, q1, hT1⟩ := pvT_iface (len1 u)
  have H1 := hide (hk1 u)
  rw [hT1] at H1
  have hl1 : b1 < w'.heap.size := Nat.lt_of_lt_of_le hb1 hw.size
  have c2 := (hw.cell (p := ⟨b2, 0, none⟩) hb2).trans hc2
  obtain ⟨fid2, cap2, rfl, hent2, len2, hk2⟩ := h2
  have ent2 : ∀ args w, (callFunc fid2 args).run Tryz.prog w = .ok (.enter fid2 args) w := hent2
  obtain ⟨T2, q2, hT2⟩ := pvT_iface (len2 u)
  have H2 := hide (hk2 u)
  rw [hT2] at H2
  have hl2 : b2 < w'.heap.size := Nat.lt_of_lt_of_le hb2 hw.size
  have c3 := (hw.cell (p := ⟨b3, 0, none⟩) hb3).trans hc3
  obtain ⟨fid3, cap3, rfl, hent3, len3, hk3⟩ := h3
  have ent3 : ∀ args w, (callFunc fid3 args).run Tryz.prog w = .ok (.enter fid3 args) w := hent3
  obtain ⟨T3, q3, hT3⟩ := pvT_iface (len3 u)
  have H3 := hide (hk3 u)
  rw [hT3] at H3
  have hl3 : b3 < w'.heap.size := Nat.lt_of_lt_of_le hb3 hw.size
  have HP : Hid (pvT (ifM m1 m2 m3 u) = .iface 116 (.agg #[.iface T1 q1, .iface T2 q2, .iface T3 q3])) := hide (by
    show pv 6 0 (pvs ((m1 u).app ((m2 u).app (m3 u)))) = _
    rw [pvs_app, pvs_app, pvs_one (len1 u), pvs_one (len2 u), pvs_one (len3 u), hT1, hT2, hT3]
    rfl)
  have HB0 := hide (belowDrew hw)
  have HW0 : Hid (Below w'.heap.size w' w'.drew) := hide (belowDrew (Below.refl _ _))
  clear hc1 hent1 len1 hk1 hT1 hc2 hent2 len2 hk2 hT2 hc3 hent3 len3 hk3 hT3
  show Calls _ _ #[.int .i64 u, .pointer (some ⟨b1, 0, none⟩), .pointer (some ⟨b2, 0, none⟩), .pointer (some ⟨b3, 0, none⟩)] _ _
  go_enter Tryz.func99, Tryz.ntmps99
  go_wp2_with fail
  go_region_held3 (fun w1 => w1.cell? ⟨b1, 0, none⟩ = some (.func (.func fid1) #[] cap1) ∧ w1.cell? ⟨b2, 0, none⟩ = some (.func (.func fid2) #[] cap2) ∧ w1.cell? ⟨b3, 0, none⟩ = some (.func (.func fid3) #[] cap3)) (go_keep)
    (first
      | ((with_reducible refine Calls.mono (H1.out _ HB0.out) ?_); rintro e W1 ⟨rfl, hx⟩; have c1_1 := (hx.cell (p := ⟨b1, 0, none⟩) (World.block_lt_of_cell? _ _ c1)).trans c1; have c2_1 := (hx.cell (p := ⟨b2, 0, none⟩) (World.block_lt_of_cell? _ _ c2)).trans c2; have c3_1 := (hx.cell (p := ⟨b3, 0, none⟩) (World.block_lt_of_cell? _ _ c3)).trans c3; have HB1 := hide (HB0.out.trans (hx.mono HB0.out.size)); have HW1 := hide (HW0.out.trans (hx.mono HW0.out.size)); clear hx)
      | ((with_reducible refine Calls.mono (H2.out _ HB1.out) ?_); rintro e W2 ⟨rfl, hx⟩; have c1_2 := (hx.cell (p := ⟨b1, 0, none⟩) (World.block_lt_of_cell? _ _ c1_1)).trans c1_1; have c2_2 := (hx.cell (p := ⟨b2, 0, none⟩) (World.block_lt_of_cell? _ _ c2_1)).trans c2_1; have c3_2 := (hx.cell (p := ⟨b3, 0, none⟩) (World.block_lt_of_cell? _ _ c3_1)).trans c3_1; have HB2 := hide (HB1.out.trans (hx.mono HB1.out.size)); have HW2 := hide (HW1.out.trans (hx.mono HW1.out.size)); clear hx)
      | ((with_reducible refine Calls.mono (H3.out _ HB2.out) ?_); rintro e W3 ⟨rfl, hx⟩; have c1_3 := (hx.cell (p := ⟨b1, 0, none⟩) (World.block_lt_of_cell? _ _ c1_2)).trans c1_2; have c2_3 := (hx.cell (p := ⟨b2, 0, none⟩) (World.block_lt_of_cell? _ _ c2_2)).trans c2_2; have c3_3 := (hx.cell (p := ⟨b3, 0, none⟩) (World.block_lt_of_cell? _ _ c3_2)).trans c3_2; have HB3 := hide (HB2.out.trans (hx.mono HB2.out.size)); have HW3 := hide (HW2.out.trans (hx.mono HW2.out.size)); clear hx))
  go_wp2_with fail
  go_ret
  exact ⟨by rw [HP.out]; rfl, HW3.out⟩

set_option maxHeartbeats 1000000 in
theorem makeIf_any (v1 v2 v3 : Value) (m1 m2 m3 : M) (w : World) (h1 : Mk w v1 m1) (h2 : Mk w v2 m2) (h3 : Mk w v3 m3) :
    Calls Tryz.prog 60 #[v1, v2, v3] w fun e w' => ∃ v', e = .returned v' ∧ Mk w' v' (ifM m1 m2 m3) ∧ Below w.heap.size w w' := by
  have H1 := hide h1
  obtain ⟨fid1, cap1, rfl⟩ := h1.form
  have H2 := hide h2
  obtain ⟨fid2, cap2, rfl⟩ := h2.form
  have H3 := hide h3
  obtain ⟨fid3, cap3, rfl⟩ := h3.form
  clear h1 h2 h3
  go_enter Tryz.func60, Tryz.ntmps60
  go_wp2_with fail
  go_ret
  have hb : Below w.heap.size w (((w.alloc (.cells #[.func (.func fid1) #[] cap1] 82)).alloc (.cells #[.func (.func fid2) #[] cap2] 82)).alloc (.cells #[.func (.func fid3) #[] cap3] 82)) := ((((Below.refl w.heap.size w).alloc (Nat.le_refl _) (.cells #[.func (.func fid1) #[] cap1] 82)).alloc (by simp <;> omega) (.cells #[.func (.func fid2) #[] cap2] 82)).alloc (by simp <;> omega) (.cells #[.func (.func fid3) #[] cap3] 82))
  exact ⟨_, rfl, if_mk w.heap.size (w.heap.size + 1) (w.heap.size + 1 + 1) _ _ _ m1 m2 m3 (((w.alloc (.cells #[.func (.func fid1) #[] cap1] 82)).alloc (.cells #[.func (.func fid2) #[] cap2] 82)).alloc (.cells #[.func (.func fid3) #[] cap3] 82)) (by simp <;> omega) (box_keep _ (box_keep _ (box_at _ _ rfl))) (H1.out.below hb) (by simp <;> omega) (box_keep _ (box_at _ _ (by simp))) (H2.out.below hb) (by simp <;> omega) (box_at _ _ (by simp)) (H3.out.below hb), hb⟩

theorem ent_val1 : Enters 89 := fun args w => by kernel_rfl
set_option maxHeartbeats 1000000 in
theorem handValue_any (vv : Value) (v : M) (w : World) (h : Mk w vv v) :
    Calls Tryz.prog 49 #[vv] w fun e w' => ∃ v', e = .returned v' ∧ Mk w' v' (valM v) ∧ Below w.heap.size w w' := by
  have H := hide h
  obtain ⟨fid, cap, rfl⟩ := h.form
  clear h
  have hb := (Below.refl w.heap.size w).alloc (Nat.le_refl _) (.cells #[.func (.func fid) #[] cap] 82)
  have HBd : Hid (Bdy (w.alloc (.cells #[.func (.func fid) #[] cap] 82)) (.func (.func 89) #[] #[.pointer (some ⟨w.heap.size, 0, none⟩)]) (fun next => appM next v)) := hide (by
    refine ⟨_, _, rfl, ent_val1, fun vm m w' hw hm => ?_⟩
    have c : w'.cell? ⟨w.heap.size, 0, none⟩ = some (.func (.func fid) #[] cap) := (hw.cell (p := ⟨w.heap.size, 0, none⟩) (by simp)).trans (by simp)
    have HM := hide hm
    have HV := hide ((H.out.below hb).below hw)
    obtain ⟨fid2, cap2, rfl⟩ := hm.form
    clear hm hw
    show Calls _ _ #[.func (.func fid2) #[] cap2, .pointer (some ⟨w.heap.size, 0, none⟩)] _ _
    go_enter Tryz.func89, Tryz.ntmps89
    go_wp2_with fail
    refine Calls.mono (makeApp_any _ _ _ _ _ HM.out HV.out) ?_
    rintro e w2 ⟨v', rfl, hm2, hb2⟩
    obtain ⟨fid3, cap3, rfl⟩ := hm2.form
    go_wp2_with fail
    go_ret
    exact ⟨_, rfl, hm2, hb2⟩)
  have HB := hide hb
  clear hb
  go_enter Tryz.func49, Tryz.ntmps49
  go_wp2_with fail
  refine Calls.mono (makeLam_any _ _ _ HBd.out) ?_
  rintro e w2 ⟨v', rfl, hm2, hb2⟩
  obtain ⟨fid3, cap3, rfl⟩ := hm2.form
  go_wp2_with fail
  go_ret
  exact ⟨_, rfl, hm2, HB.out.trans (hb2.mono HB.out.size)⟩

theorem ent_with1 : Enters 92 := fun args w => by kernel_rfl
theorem Sr.form {n : Int} {w : World} {v : Value} {ρ : Int → M} (h : Sr n w v ρ) : v = .nilFunc ∨ ∃ fid cap, v = .func (.func fid) #[] cap := by
  rcases h with h | ⟨fid, cap, h, -⟩
  · exact .inl h.1
  · exact .inr ⟨fid, cap, h⟩
set_option maxHeartbeats 1000000 in
theorem with_sr (b1 b2 : Nat) (vm va : Value) (m : M) (n : Int) (ρ : Int → M) (w : World) (hn : n ≤ 1000000) (hb1 : b1 < w.heap.size) (hb2 : b2 < w.heap.size) (hc1 : w.cell? ⟨b1, 0, none⟩ = some vm) (hc2 : w.cell? ⟨b2, 0, none⟩ = some va) (h1 : Mk w vm m) (h2 : Sr n w va ρ) :
    Sr (n + 1) w (.func (.func 92) #[] #[.pointer (some ⟨b1, 0, none⟩), .pointer (some ⟨b2, 0, none⟩)]) (extM ρ m) := by
  refine .inr ⟨_, _, rfl, ent_with1, fun far w' h0 hf hw => ?_⟩
  have c1 := (hw.cell (p := ⟨b1, 0, none⟩) hb1).trans hc1
  have c2 := (hw.cell (p := ⟨b2, 0, none⟩) hb2).trans hc2
  show Calls _ _ #[.int .i64 far, .pointer (some ⟨b1, 0, none⟩), .pointer (some ⟨b2, 0, none⟩)] _ _
  unfold extM
  by_cases hz : far = 0
  · subst hz
    rw [if_pos rfl]
    have HM := hide (h1.below hw)
    obtain ⟨fid, cap, rfl⟩ := h1.form
    clear h1 h2 hc1 hc2 hw c2
    go_enter Tryz.func92, Tryz.ntmps92
    go_wp2_with fail
    go_ret
    exact ⟨_, rfl, HM.out, Below.refl _ _⟩
  · rw [if_neg hz]
    rcases h2 with h2 | ⟨fid, cap, rfl, hent, hk⟩
    · omega
    · have ent : ∀ args w, (callFunc fid args).run Tryz.prog w = .ok (.enter fid args) w := hent
      have HK := hide (hk (far - 1) w' (by omega) (by omega) hw)
      have hzb : (far == 0) = false := by simp [hz]
      clear h1 hc1 hc2 hw c1 hk hent
      go_enter Tryz.func92, Tryz.ntmps92
      go_wp2_with fail
      refine Calls.mono HK.out ?_
      rintro e w2 ⟨v', rfl, hm2, hb2⟩
      obtain ⟨fid3, cap3, rfl⟩ := hm2.form
      go_wp2_with fail
      go_ret
      exact ⟨_, rfl, hm2, hb2⟩

set_option maxHeartbeats 1000000 in
theorem with_any (va vm : Value) (m : M) (n : Int) (ρ : Int → M) (w : World) (hn : n ≤ 1000000) (h1 : Mk w vm m) (h2 : Sr n w va ρ) :
    Calls Tryz.prog 52 #[va, vm] w fun e w' => ∃ v', e = .returned v' ∧ Sr (n + 1) w' v' (extM ρ m) ∧ Below w.heap.size w w' := by
  have H1 := hide h1
  have H2 := hide h2
  obtain ⟨fid, cap, rfl⟩ := h1.form
  rcases h2.form with rfl | ⟨fid2, cap2, rfl⟩
  · clear h1 h2
    go_enter Tryz.func52, Tryz.ntmps52
    go_wp2_with fail
    go_ret
    have hb : Below w.heap.size w ((w.alloc (.cells #[.nilFunc] 100)).alloc (.cells #[.func (.func fid) #[] cap] 82)) := ((Below.refl w.heap.size w).alloc (Nat.le_refl _) _).alloc (by simp <;> omega) _
    exact ⟨_, rfl, with_sr (w.heap.size + 1) w.heap.size _ _ m n ρ _ hn (by simp <;> omega) (by simp <;> omega) (by simp) (by simp) (H1.out.below hb) (H2.out.below hb), hb⟩
  · clear h1 h2
    go_enter Tryz.func52, Tryz.ntmps52
    go_wp2_with fail
    go_ret
    have hb : Below w.heap.size w ((w.alloc (.cells #[.func (.func fid2) #[] cap2] 100)).alloc (.cells #[.func (.func fid) #[] cap] 82)) := ((Below.refl w.heap.size w).alloc (Nat.le_refl _) _).alloc (by simp <;> omega) _
    exact ⟨_, rfl, with_sr (w.heap.size + 1) w.heap.size _ _ m n ρ _ hn (by simp <;> omega) (by simp <;> omega) (by simp) (by simp) (H1.out.below hb) (H2.out.below hb), hb⟩
end Go.Proofs.YtnmkbpflbfhpnaaGreat.W

/-
  Parts made by closures: contracts of handFirst and handTwo, whatever the parts that they hand on hold. No conditions.
-/
namespace Go.Proofs.YtnmkbpflbfhpnaaGreat.W
open Go.ChangeShapes Go.WideShapes Go.ChangeAt Go.RowKit
set_option linter.unusedVariables false

theorem bel1 (w : World) (o : Obj) : Below w.heap.size w (w.alloc o) := (Below.refl _ _).alloc (Nat.le_refl _) _
theorem bel2 (w : World) (o p : Obj) : Below w.heap.size w ((w.alloc o).alloc p) := (bel1 w o).alloc (by simp) _
theorem bel3 (w : World) (o p q : Obj) : Below w.heap.size w (((w.alloc o).alloc p).alloc q) := (bel2 w o p).alloc (by simp; omega) _
/-- What handed does with a part. -/
def HdC (p : Value) (n : Int) (H : (Int → M) → M) : Prop := ∀ (v : Value) (ρ : Int → M) (w : World), Sr n w v ρ → Calls Tryz.prog 34 #[p, v] w fun e w' => ∃ v', e = .returned v' ∧ Mk w' v' (H ρ) ∧ Below w.heap.size w w'
theorem T2.form {w : World} {v : Value} {t : M → M → M} (h : T2 w v t) : ∃ fid cap, v = .func (.func fid) #[] cap := by
  obtain ⟨fid, cap, h1, -⟩ := h
  exact ⟨fid, cap, h1⟩
theorem T3.form {w : World} {v : Value} {t : M → M → M → M} (h : T3 w v t) : ∃ fid cap, v = .func (.func fid) #[] cap := by
  obtain ⟨fid, cap, h1, -⟩ := h
  exact ⟨fid, cap, h1⟩

theorem ent_first1 : Enters 97 := fun args w => by kernel_rfl
theorem ent_first11 : Enters 98 := fun args w => by kernel_rfl
theorem ent_two1 : Enters 93 := fun args w => by kernel_rfl
theorem ent_two11 : Enters 94 := fun args w => by kernel_rfl

set_option maxHeartbeats 1000000 in
theorem first11_bd (b1 b2 : Nat) (vt vn : Value) (t : M → M → M) (m : M) (w : World) (hb1 : b1 < w.heap.size) (hb2 : b2 < w.heap.size) (hc1 : w.cell? ⟨b1, 0, none⟩ = some vt) (hc2 : w.cell? ⟨b2, 0, none⟩ = some vn) (ht : T2 w vt t) (hm : Mk w vn m) :
    Bdy w (.func (.func 98) #[] #[.pointer (some ⟨b1, 0, none⟩), .pointer (some ⟨b2, 0, none⟩)]) (fun came => t came m) := by
  refine ⟨_, _, rfl, ent_first11, fun vc c w' hw hcm => ?_⟩
  have c1 := (hw.cell (p := ⟨b1, 0, none⟩) hb1).trans hc1
  have c2 := (hw.cell (p := ⟨b2, 0, none⟩) hb2).trans hc2
  have hm' := hm.below hw
  obtain ⟨fidt, capt, rfl, hent, hk⟩ := ht
  have ent : ∀ args w, (callFunc fidt args).run Tryz.prog w = .ok (.enter fidt args) w := hent
  have HK := hide (hk vc vn c m w' hw hcm hm')
  obtain ⟨fidc, capc, rfl⟩ := hcm.form
  obtain ⟨fidn, capn, rfl⟩ := hm.form
  clear hk hent hcm hm hm' hc1 hc2 hw
  show Calls _ _ #[.func (.func fidc) #[] capc, .pointer (some ⟨b1, 0, none⟩), .pointer (some ⟨b2, 0, none⟩)] _ _
  go_enter Tryz.func98, Tryz.ntmps98
  go_wp2_with fail
  refine Calls.mono HK.out ?_
  rintro e w2 ⟨v', rfl, hm2, hb2⟩
  obtain ⟨fid3, cap3, rfl⟩ := hm2.form
  go_wp2_with fail
  go_ret
  exact ⟨_, rfl, hm2, hb2⟩

set_option maxRecDepth 20000 in
set_option maxHeartbeats 2000000 in
theorem first1_bd (b1 b2 b3 : Nat) (T : TypeId) (q va vt : Value) (n : Int) (ρ : Int → M) (H : (Int → M) → M) (t : M → M → M) (w : World) (hb1 : b1 < w.heap.size) (hb2 : b2 < w.heap.size) (hb3 : b3 < w.heap.size) (hc1 : w.cell? ⟨b1, 0, none⟩ = some (.iface T q)) (hc2 : w.cell? ⟨b2, 0, none⟩ = some va) (hc3 : w.cell? ⟨b3, 0, none⟩ = some vt)
    (hp : HdC (.iface T q) n H) (ha : Sr n w va ρ) (ht : T2 w vt t) :
    Bdy w (.func (.func 97) #[] #[.pointer (some ⟨b1, 0, none⟩), .pointer (some ⟨b2, 0, none⟩), .pointer (some ⟨b3, 0, none⟩)]) (fun next => appM (H ρ) (lamM fun came => t came next)) := by
  refine ⟨_, _, rfl, ent_first1, fun vn m w' hw hm => ?_⟩
  have c1 := (hw.cell (p := ⟨b1, 0, none⟩) hb1).trans hc1
  have c2 := (hw.cell (p := ⟨b2, 0, none⟩) hb2).trans hc2
  have c3 := (hw.cell (p := ⟨b3, 0, none⟩) hb3).trans hc3
  have hl1 : b1 < w'.heap.size := Nat.lt_of_lt_of_le hb1 hw.size
  have hl2 : b2 < w'.heap.size := Nat.lt_of_lt_of_le hb2 hw.size
  have hl3 : b3 < w'.heap.size := Nat.lt_of_lt_of_le hb3 hw.size
  have HP := hide hp
  have HA := hide (ha.below hw)
  have HT := hide (ht.below hw)
  have HM := hide hm
  have HC3 := hide c3
  obtain ⟨fidn, capn, rfl⟩ := hm.form
  obtain ⟨fidt, capt, rfl⟩ := ht.form
  have hfa := ha.form
  clear hc1 hc2 hc3 hw hp ha ht hm
  show Calls _ _ #[.func (.func fidn) #[] capn, .pointer (some ⟨b1, 0, none⟩), .pointer (some ⟨b2, 0, none⟩), .pointer (some ⟨b3, 0, none⟩)] _ _
  rcases hfa with rfl | ⟨fida, capa, rfl⟩
  all_goals
    go_enter Tryz.func97, Tryz.ntmps97
    go_wp2_with fail
    refine Calls.mono (HP.out _ _ _ (HA.out.below (bel1 _ _))) ?_
    rintro e w1 ⟨v1, rfl, hm1, hb1'⟩
    have HM1 := hide hm1
    obtain ⟨fid1, cap1, rfl⟩ := hm1.form
    have HB1 : Hid (Below w'.heap.size w' w1) := hide ((bel1 w' _).trans (hb1'.mono (by simp)))
    have HCn : Hid (w1.cell? ⟨w'.heap.size, 0, none⟩ = some (.func (.func fidn) #[] capn)) := hide ((hb1'.cell (p := ⟨w'.heap.size, 0, none⟩) (by simp)).trans (box_cell _ _ _))
    have hsz : w'.heap.size < w1.heap.size := World.block_lt_of_cell? w1 _ HCn.out
    clear hm1 hb1'
    go_wp2_with fail
    refine Calls.mono (makeLam_any _ _ _ (first11_bd b3 w'.heap.size _ _ t m w1 (by omega) hsz ((HB1.out.cell (p := ⟨b3, 0, none⟩) hl3).trans HC3.out) HCn.out (HT.out.below HB1.out) (HM.out.below HB1.out))) ?_
    rintro e w2 ⟨v2, rfl, hm2, hb2'⟩
    have HM2 := hide hm2
    obtain ⟨fid2, cap2, rfl⟩ := hm2.form
    have HB2 := hide hb2'
    clear hm2 hb2'
    go_wp2_with fail
    refine Calls.mono (makeApp_any _ _ _ _ _ (HM1.out.below HB2.out) HM2.out) ?_
    rintro e w3 ⟨v3, rfl, hm3, hb3'⟩
    have HM3 := hide hm3
    obtain ⟨fid3, cap3, rfl⟩ := hm3.form
    have HB3 := hide hb3'
    clear hm3 hb3'
    go_wp2_with fail
    go_ret
    have hB2 := HB1.out.trans (HB2.out.mono HB1.out.size)
    exact ⟨_, rfl, HM3.out, hB2.trans (HB3.out.mono hB2.size)⟩

set_option maxRecDepth 20000 in
set_option maxHeartbeats 2000000 in
theorem handFirst_any (T : TypeId) (q va vt : Value) (n : Int) (ρ : Int → M) (H : (Int → M) → M) (t : M → M → M) (w : World) (hp : HdC (.iface T q) n H) (ha : Sr n w va ρ) (ht : T2 w vt t) :
    Calls Tryz.prog 58 #[.iface T q, va, vt] w fun e w' => ∃ v', e = .returned v' ∧ Mk w' v' (firstM (H ρ) t) ∧ Below w.heap.size w w' := by
  have HP := hide hp
  have HA := hide ha
  have HT := hide ht
  obtain ⟨fidt, capt, rfl⟩ := ht.form
  have hfa := ha.form
  clear hp ha ht
  rcases hfa with rfl | ⟨fida, capa, rfl⟩
  all_goals
    go_enter Tryz.func58, Tryz.ntmps58
    go_wp2_with fail
    refine Calls.mono (makeLam_any _ _ _ (first1_bd w.heap.size (w.heap.size + 1) (w.heap.size + 1 + 1) T q _ _ n ρ H t _ (by simp; omega) (by simp) (by simp) (box_keep _ (box_keep _ (box_at _ _ rfl))) (box_keep _ (box_at _ _ (by simp))) (box_at _ _ (by simp)) HP.out (HA.out.below (bel3 _ _ _ _)) (HT.out.below (bel3 _ _ _ _)))) ?_
    rintro e w2 ⟨v2, rfl, hm2, hb2'⟩
    have HM2 := hide hm2
    obtain ⟨fid2, cap2, rfl⟩ := hm2.form
    have HB2 := hide hb2'
    clear hm2 hb2'
    go_wp2_with fail
    go_ret
    exact ⟨_, rfl, HM2.out, (bel3 w _ _ _).trans (HB2.out.mono (by simp; omega))⟩

set_option maxHeartbeats 1000000 in
theorem two11_bd (b1 b2 b3 : Nat) (vt vo vn : Value) (t : M → M → M → M) (o m : M) (w : World) (hb1 : b1 < w.heap.size) (hb2 : b2 < w.heap.size) (hb3 : b3 < w.heap.size) (hc1 : w.cell? ⟨b1, 0, none⟩ = some vt) (hc2 : w.cell? ⟨b2, 0, none⟩ = some vo) (hc3 : w.cell? ⟨b3, 0, none⟩ = some vn) (ht : T3 w vt t) (ho : Mk w vo o) (hm : Mk w vn m) :
    Bdy w (.func (.func 94) #[] #[.pointer (some ⟨b1, 0, none⟩), .pointer (some ⟨b2, 0, none⟩), .pointer (some ⟨b3, 0, none⟩)]) (fun other => t o other m) := by
  refine ⟨_, _, rfl, ent_two11, fun vc c w' hw hcm => ?_⟩
  have c1 := (hw.cell (p := ⟨b1, 0, none⟩) hb1).trans hc1
  have c2 := (hw.cell (p := ⟨b2, 0, none⟩) hb2).trans hc2
  have c3 := (hw.cell (p := ⟨b3, 0, none⟩) hb3).trans hc3
  obtain ⟨fidt, capt, rfl, hent, hk⟩ := ht
  have ent : ∀ args w, (callFunc fidt args).run Tryz.prog w = .ok (.enter fidt args) w := hent
  have HK := hide (hk vo vc vn o c m w' hw (ho.below hw) hcm (hm.below hw))
  obtain ⟨fidc, capc, rfl⟩ := hcm.form
  obtain ⟨fidn, capn, rfl⟩ := hm.form
  obtain ⟨fido, capo, rfl⟩ := ho.form
  clear hk hent hcm hm ho hc1 hc2 hc3 hw
  show Calls _ _ #[.func (.func fidc) #[] capc, .pointer (some ⟨b1, 0, none⟩), .pointer (some ⟨b2, 0, none⟩), .pointer (some ⟨b3, 0, none⟩)] _ _
  go_enter Tryz.func94, Tryz.ntmps94
  go_wp2_with fail
  refine Calls.mono HK.out ?_
  rintro e w2 ⟨v', rfl, hm2, hb2⟩
  obtain ⟨fid3, cap3, rfl⟩ := hm2.form
  go_wp2_with fail
  go_ret
  exact ⟨_, rfl, hm2, hb2⟩

set_option maxRecDepth 20000 in
set_option maxHeartbeats 2000000 in
theorem two1_t2 (b1 b2 b3 : Nat) (T : TypeId) (q va vt : Value) (n : Int) (ρ : Int → M) (H : (Int → M) → M) (t : M → M → M → M) (w : World) (hb1 : b1 < w.heap.size) (hb2 : b2 < w.heap.size) (hb3 : b3 < w.heap.size) (hc1 : w.cell? ⟨b1, 0, none⟩ = some (.iface T q)) (hc2 : w.cell? ⟨b2, 0, none⟩ = some va) (hc3 : w.cell? ⟨b3, 0, none⟩ = some vt)
    (hp : HdC (.iface T q) n H) (ha : Sr n w va ρ) (ht : T3 w vt t) :
    T2 w (.func (.func 93) #[] #[.pointer (some ⟨b1, 0, none⟩), .pointer (some ⟨b2, 0, none⟩), .pointer (some ⟨b3, 0, none⟩)]) (fun one next => appM (H ρ) (lamM fun other => t one other next)) := by
  refine ⟨_, _, rfl, ent_two1, fun vo vn o m w' hw ho hm => ?_⟩
  have c1 := (hw.cell (p := ⟨b1, 0, none⟩) hb1).trans hc1
  have c2 := (hw.cell (p := ⟨b2, 0, none⟩) hb2).trans hc2
  have c3 := (hw.cell (p := ⟨b3, 0, none⟩) hb3).trans hc3
  have hl1 : b1 < w'.heap.size := Nat.lt_of_lt_of_le hb1 hw.size
  have hl2 : b2 < w'.heap.size := Nat.lt_of_lt_of_le hb2 hw.size
  have hl3 : b3 < w'.heap.size := Nat.lt_of_lt_of_le hb3 hw.size
  have HP := hide hp
  have HA := hide (ha.below hw)
  have HT := hide (ht.below hw)
  have HM := hide hm
  have HO := hide ho
  have HC3 := hide c3
  obtain ⟨fidn, capn, rfl⟩ := hm.form
  obtain ⟨fido, capo, rfl⟩ := ho.form
  obtain ⟨fidt, capt, rfl⟩ := ht.form
  have hfa := ha.form
  clear hc1 hc2 hc3 hw hp ha ht hm ho
  show Calls _ _ #[.func (.func fido) #[] capo, .func (.func fidn) #[] capn, .pointer (some ⟨b1, 0, none⟩), .pointer (some ⟨b2, 0, none⟩), .pointer (some ⟨b3, 0, none⟩)] _ _
  rcases hfa with rfl | ⟨fida, capa, rfl⟩
  all_goals
    go_enter Tryz.func93, Tryz.ntmps93
    go_wp2_with fail
    refine Calls.mono (HP.out _ _ _ (HA.out.below (bel2 _ _ _))) ?_
    rintro e w1 ⟨v1, rfl, hm1, hb1'⟩
    have HM1 := hide hm1
    obtain ⟨fid1, cap1, rfl⟩ := hm1.form
    have HB1 : Hid (Below w'.heap.size w' w1) := hide ((bel2 w' _ _).trans (hb1'.mono (by simp; omega)))
    have HCo : Hid (w1.cell? ⟨w'.heap.size, 0, none⟩ = some (.func (.func fido) #[] capo)) := hide ((hb1'.cell (p := ⟨w'.heap.size, 0, none⟩) (by simp; omega)).trans (box_keep _ (box_cell _ _ _)))
    have HCn : Hid (w1.cell? ⟨w'.heap.size + 1, 0, none⟩ = some (.func (.func fidn) #[] capn)) := hide ((hb1'.cell (p := ⟨w'.heap.size + 1, 0, none⟩) (by simp)).trans (box_at _ _ (by simp)))
    have hsz : w'.heap.size + 1 < w1.heap.size := World.block_lt_of_cell? w1 _ HCn.out
    clear hm1 hb1'
    go_wp2_with fail
    refine Calls.mono (makeLam_any _ _ _ (two11_bd b3 w'.heap.size (w'.heap.size + 1) _ _ _ t o m w1 (by omega) (by omega) hsz ((HB1.out.cell (p := ⟨b3, 0, none⟩) hl3).trans HC3.out) HCo.out HCn.out (HT.out.below HB1.out) (HO.out.below HB1.out) (HM.out.below HB1.out))) ?_
    rintro e w2 ⟨v2, rfl, hm2, hb2'⟩
    have HM2 := hide hm2
    obtain ⟨fid2, cap2, rfl⟩ := hm2.form
    have HB2 := hide hb2'
    clear hm2 hb2'
    go_wp2_with fail
    refine Calls.mono (makeApp_any _ _ _ _ _ (HM1.out.below HB2.out) HM2.out) ?_
    rintro e w3 ⟨v3, rfl, hm3, hb3'⟩
    have HM3 := hide hm3
    obtain ⟨fid3, cap3, rfl⟩ := hm3.form
    have HB3 := hide hb3'
    clear hm3 hb3'
    go_wp2_with fail
    go_ret
    have hB2 := HB1.out.trans (HB2.out.mono HB1.out.size)
    exact ⟨_, rfl, HM3.out, hB2.trans (HB3.out.mono hB2.size)⟩

set_option maxRecDepth 20000 in
set_option maxHeartbeats 2000000 in
theorem handTwo_any (T1 T2' : TypeId) (q1 q2 va vt : Value) (n : Int) (ρ : Int → M) (H1 H2 : (Int → M) → M) (t : M → M → M → M) (w : World) (hp1 : HdC (.iface T1 q1) n H1) (hp2 : HdC (.iface T2' q2) n H2) (ha : Sr n w va ρ) (ht : T3 w vt t) :
    Calls Tryz.prog 53 #[.iface T1 q1, .iface T2' q2, va, vt] w fun e w' => ∃ v', e = .returned v' ∧ Mk w' v' (twoM (H1 ρ) (H2 ρ) t) ∧ Below w.heap.size w w' := by
  have HP1 := hide hp1
  have HP2 := hide hp2
  have HA := hide ha
  have HT := hide ht
  obtain ⟨fidt, capt, rfl⟩ := ht.form
  have hfa := ha.form
  clear hp1 hp2 ha ht
  rcases hfa with rfl | ⟨fida, capa, rfl⟩
  all_goals
    go_enter Tryz.func53, Tryz.ntmps53
    go_wp2_with fail
    refine Calls.mono (handFirst_any T1 q1 _ _ n ρ H1 _ _ HP1.out (HA.out.below (bel3 _ _ _ _)) (two1_t2 w.heap.size (w.heap.size + 1) (w.heap.size + 1 + 1) T2' q2 _ _ n ρ H2 t _ (by simp; omega) (by simp) (by simp) (box_keep _ (box_keep _ (box_at _ _ rfl))) (box_keep _ (box_at _ _ (by simp))) (box_at _ _ (by simp)) HP2.out (HA.out.below (bel3 _ _ _ _)) (HT.out.below (bel3 _ _ _ _)))) ?_
    rintro e w2 ⟨v2, rfl, hm2, hb2'⟩
    have HM2 := hide hm2
    obtain ⟨fid2, cap2, rfl⟩ := hm2.form
    have HB2 := hide hb2'
    clear hm2 hb2'
    go_wp2_with fail
    go_ret
    exact ⟨_, rfl, HM2.out, (bel3 w _ _ _).trans (HB2.out.mono (by simp; omega))⟩
end Go.Proofs.YtnmkbpflbfhpnaaGreat.W

/-
  The specification's terms made of parts: contracts of l7Var, l7Lam, l7App, and of l3Shift in the same words. No conditions.
-/
namespace Go.Proofs.YtnmkbpflbfhpnaaGreat.W
open Go.ChangeShapes Go.WideShapes Go.ChangeAt Go.RowKit
set_option linter.unusedVariables false

/-- A term of the specification's in memory, its blocks of this kind. -/
def TV (w : World) (Q : Nat → Prop) (a : F) (v : Value) : Prop := ∃ x k s, a = .cons x k .nil ∧ v = .agg #[.int .i64 x.k, .int .i64 x.n, s] ∧ KidT w Q k s
theorem TV.below {w w' : World} {Q : Nat → Prop} {a : F} {v : Value} (h : TV w Q a v) (hb : Below w.heap.size w w') : TV w' Q a v := by
  obtain ⟨x, k, s, h1, h2, h3⟩ := h
  exact ⟨x, k, s, h1, h2, h3.below hb⟩
theorem TV.keep {w w' : World} {Q : Nat → Prop} {a : F} {v : Value} (h : TV w Q a v) (hs : w.heap.size ≤ w'.heap.size) (hk : ∀ k, Q k → k < w.heap.size → w'.heap[k]? = w.heap[k]?) : TV w' Q a v := by
  obtain ⟨x, k, s, h1, h2, h3⟩ := h
  exact ⟨x, k, s, h1, h2, h3.keep hs (fun g a b => ⟨hk g a b, a⟩)⟩
theorem TV.len {w : World} {Q : Nat → Prop} {a : F} {v : Value} (h : TV w Q a v) : a.len = 1 := by
  obtain ⟨x, k, s, rfl, -⟩ := h
  rfl
theorem TV.form {w : World} {Q : Nat → Prop} {a : F} {v : Value} (h : TV w Q a v) : ∃ k n ad l c, v = .agg #[.int .i64 k, .int .i64 n, .slice ad l c] := by
  obtain ⟨x, k, s, rfl, rfl, h⟩ := h
  obtain ⟨ad, c, rfl⟩ := h.form
  exact ⟨_, _, _, _, _, rfl⟩
theorem TV.var (w : World) (Q : Nat → Prop) (n : Int) : TV w Q (varT n) (.agg #[.int .i64 1, .int .i64 n, .slice none 0 0]) := ⟨⟨1, n⟩, .nil, _, rfl, rfl, KidT.nil⟩
theorem TV.one {w : World} {Q : Nat → Prop} {a : F} {k n : Int} {ad : Option Addr} {l c : Nat} (h : TV w Q a (.agg #[.int .i64 k, .int .i64 n, .slice ad l c])) : KidsAt w Q a [.int .i64 k, .int .i64 n, .slice ad l c] := by
  obtain ⟨x, k', s, rfl, e, h⟩ := h
  simp only [Value.agg.injEq, Array.mk.injEq, List.cons.injEq, Value.int.injEq, true_and, and_true] at e
  obtain ⟨e1, e2, e3⟩ := e
  subst e1 e2 e3
  exact ⟨_, [], rfl, h, rfl⟩
/-- A row of terms in a block. -/
theorem KidT.row {w : World} {Q : Nat → Prop} {a : F} {cs : List Value} {g cap : Nat} {T : TypeId} {fr : Nat × Nat} (h : KidsAt w Q a cs) (ha : 0 < a.len) (hg : w.heap[g]? = some (.cells cs.toArray T fr)) (hQ : Q g) : KidT w Q a (.slice (some ⟨g, 0, none⟩) a.len cap) :=
  ⟨cs, h, .inr ⟨ha, g, cap, rfl, hQ, (Array.getElem?_eq_some_iff.1 hg).1, fun j v hj => by rw [cell_of_blk hg]; simpa using hj⟩⟩

set_option maxHeartbeats 400000 in
theorem l7Var_any (n : Int) (w : World) :
    Calls Tryz.prog 21 #[.int .i64 n] w fun e w' => e = .returned (.agg #[.int .i64 1, .int .i64 n, .slice none 0 0]) ∧ Below w.heap.size w w' := by
  go_enter Tryz.func21, Tryz.ntmps21
  go_wp2_with fail
  exact bodyPost_ret (v := .agg #[.int .i64 1, .int .i64 n, .slice none 0 0]) (by simp [results, Tryz.results21, go_sem]) rfl ⟨rfl, bel1 _ _⟩

set_option maxHeartbeats 1000000 in
theorem l7Lam_any (Q : Nat → Prop) (a : F) (v : Value) (w : World) (hQ : ∀ g, w.heap.size ≤ g → Q g) (h : TV w Q a v) :
    Calls Tryz.prog 20 #[v] w fun e w' => ∃ v', e = .returned v' ∧ TV w' Q (lamT a) v' ∧ Below w.heap.size w w' := by
  have H := hide h
  have HL := hide h.len
  obtain ⟨k, n, ad, l, c, rfl⟩ := h.form
  clear h
  go_enter Tryz.func20, Tryz.ntmps20
  go_wp2_with fail
  obtain ⟨W, hW⟩ : ∃ W, W = (((w.alloc (.cells #[.int .i64 k, .int .i64 n, .slice ad l c] 50)).alloc (.cells #[.int .i64 3, .int .i64 0, .slice (some ⟨w.heap.size + 1 + 1, 0, none⟩) 1 1] 50)).alloc (.cells #[.int .i64 k, .int .i64 n, .slice ad l c] 50)) := ⟨_, rfl⟩
  rw [← hW]
  have hB : Below w.heap.size w W := by rw [hW]; exact bel3 _ _ _ _
  have h1 : W.heap[w.heap.size + 1]? = some (.cells #[.int .i64 3, .int .i64 0, .slice (some ⟨w.heap.size + 1 + 1, 0, none⟩) 1 1] 50) := by
    rw [hW, heap_alloc_old _ _ (by simp)]
    have := heap_alloc_new (w.alloc (.cells #[.int .i64 k, .int .i64 n, .slice ad l c] 50)) (.cells #[.int .i64 3, .int .i64 0, .slice (some ⟨w.heap.size + 1 + 1, 0, none⟩) 1 1] 50)
    simpa using this
  have h2 : W.heap[w.heap.size + 1 + 1]? = some (.cells #[.int .i64 k, .int .i64 n, .slice ad l c] 50) := by
    rw [hW]
    have := heap_alloc_new ((w.alloc (.cells #[.int .i64 k, .int .i64 n, .slice ad l c] 50)).alloc (.cells #[.int .i64 3, .int .i64 0, .slice (some ⟨w.heap.size + 1 + 1, 0, none⟩) 1 1] 50)) (.cells #[.int .i64 k, .int .i64 n, .slice ad l c] 50)
    simpa using this
  have c0 := (cell_of_blk h1 0).trans rfl
  have c1 := (cell_of_blk h1 1).trans rfl
  have c2 := (cell_of_blk h1 2).trans rfl
  have hr := KidT.row (cap := 1) (H.out.below hB).one (by rw [HL.out]; omega) h2 (hQ _ (by omega))
  rw [HL.out] at hr
  clear hW
  exact bodyPost_ret (v := .agg #[.int .i64 3, .int .i64 0, .slice (some ⟨w.heap.size + 1 + 1, 0, none⟩) 1 1]) (by simp [results, Tryz.results20, go_sem, c0, c1, c2]) rfl ⟨_, rfl, ⟨⟨3, 0⟩, a, _, rfl, rfl, hr⟩, hB⟩

set_option maxRecDepth 20000 in
set_option maxHeartbeats 1000000 in
theorem l7App_any (Q : Nat → Prop) (a b : F) (va vb : Value) (w : World) (hQ : ∀ g, w.heap.size ≤ g → Q g) (ha : TV w Q a va) (hb : TV w Q b vb) :
    Calls Tryz.prog 19 #[va, vb] w fun e w' => ∃ v', e = .returned v' ∧ TV w' Q (appT a b) v' ∧ Below w.heap.size w w' := by
  have HA := hide ha
  have HB := hide hb
  have HL : Hid ((a.app b).len = 2) := hide (by rw [F.app_len, ha.len, hb.len])
  obtain ⟨k1, n1, ad1, l1, c1, rfl⟩ := ha.form
  obtain ⟨k2, n2, ad2, l2, c2, rfl⟩ := hb.form
  clear ha hb
  go_enter Tryz.func19, Tryz.ntmps19
  go_wp2_with fail
  obtain ⟨W, hW⟩ : ∃ W, W = ((((w.alloc (.cells #[.int .i64 k1, .int .i64 n1, .slice ad1 l1 c1] 50)).alloc (.cells #[.int .i64 k2, .int .i64 n2, .slice ad2 l2 c2] 50)).alloc (.cells #[.int .i64 4, .int .i64 0, .slice (some ⟨w.heap.size + 1 + 1 + 1, 0, none⟩) 2 2] 50)).alloc (.cells #[.int .i64 k1, .int .i64 n1, .slice ad1 l1 c1, .int .i64 k2, .int .i64 n2, .slice ad2 l2 c2] 50)) := ⟨_, rfl⟩
  rw [← hW]
  have hB : Below w.heap.size w W := by rw [hW]; exact (bel3 _ _ _ _).alloc (by simp; omega) _
  have h1 : W.heap[w.heap.size + 1 + 1]? = some (.cells #[.int .i64 4, .int .i64 0, .slice (some ⟨w.heap.size + 1 + 1 + 1, 0, none⟩) 2 2] 50) := by
    rw [hW, heap_alloc_old _ _ (by simp)]
    have := heap_alloc_new ((w.alloc (.cells #[.int .i64 k1, .int .i64 n1, .slice ad1 l1 c1] 50)).alloc (.cells #[.int .i64 k2, .int .i64 n2, .slice ad2 l2 c2] 50)) (.cells #[.int .i64 4, .int .i64 0, .slice (some ⟨w.heap.size + 1 + 1 + 1, 0, none⟩) 2 2] 50)
    simpa using this
  have h2 : W.heap[w.heap.size + 1 + 1 + 1]? = some (.cells #[.int .i64 k1, .int .i64 n1, .slice ad1 l1 c1, .int .i64 k2, .int .i64 n2, .slice ad2 l2 c2] 50) := by
    rw [hW]
    have := heap_alloc_new (((w.alloc (.cells #[.int .i64 k1, .int .i64 n1, .slice ad1 l1 c1] 50)).alloc (.cells #[.int .i64 k2, .int .i64 n2, .slice ad2 l2 c2] 50)).alloc (.cells #[.int .i64 4, .int .i64 0, .slice (some ⟨w.heap.size + 1 + 1 + 1, 0, none⟩) 2 2] 50)) (.cells #[.int .i64 k1, .int .i64 n1, .slice ad1 l1 c1, .int .i64 k2, .int .i64 n2, .slice ad2 l2 c2] 50)
    simpa using this
  have e0 := (cell_of_blk h1 0).trans rfl
  have e1 := (cell_of_blk h1 1).trans rfl
  have e2 := (cell_of_blk h1 2).trans rfl
  have hr := KidT.row (cap := 2) (KidsAt.app (HA.out.below hB).one (HB.out.below hB).one) (by rw [HL.out]; omega) h2 (hQ _ (by omega))
  rw [HL.out] at hr
  clear hW
  exact bodyPost_ret (v := .agg #[.int .i64 4, .int .i64 0, .slice (some ⟨w.heap.size + 1 + 1 + 1, 0, none⟩) 2 2]) (by simp [results, Tryz.results19, go_sem, e0, e1, e2]) rfl ⟨_, rfl, ⟨⟨4, 0⟩, a.app b, _, rfl, rfl, hr⟩, hB⟩

theorem sh_cons (by_ : Int) (f : Nat) (x : Cc) (k : F) : sh by_ f (.cons x k .nil) = .cons (shc by_ f x) (shf by_ x.k f 0 k) .nil := by simp [sh, shf, binds_0]
theorem shift_any (Q : Nat → Prop) (a : F) (v : Value) (by_ : Int) (f : Nat) (w : World) (hQ : ∀ g, w.heap.size ≤ g → Q g) (ho : a.okw) (hf : f + a.flat.length ≤ 2000000) (hb1 : -1000 ≤ by_) (hb2 : by_ ≤ 1000) (h : TV w Q a v) :
    Calls Tryz.prog 67 #[v, .int .i64 by_, .int .i64 (f : Int)] w fun e w' => ∃ v', e = .returned v' ∧ TV w' Q (sh by_ f a) v' ∧ Below w.heap.size w w' := by
  obtain ⟨x, k, s, rfl, rfl, hk⟩ := h
  have hx := V.good_n ho.1
  refine Calls.mono (V.l3Shift_any k x s by_ f Q w hx.1 hx.2 hb1 hb2 ho.2.1 ho.2.2.1 (by simp [F.flat] at hf; omega) hk) ?_
  rintro e w' ⟨s', rfl, hs, hb⟩
  exact ⟨_, rfl, ⟨_, _, _, sh_cons _ _ _ _, rfl, hs.weak (fun g hg _ => hQ g hg)⟩, hb⟩
end Go.Proofs.YtnmkbpflbfhpnaaGreat.W

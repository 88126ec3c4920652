/-
  The specification's reader of tokens in memory; contracts of fail and sign. Conditions: at most 1000 tokens.
-/
import Derived.Test.YtmnicilgenpnfaaDoorPxC
namespace Go.Proofs.YtmnicilgenpnfaaDoor.W
open Go.ChangeShapes Go.WideShapes Go.ChangeAt Go.RowKit
set_option linter.unusedVariables false
set_option linter.unusedSimpArgs false

/-- The reader's cells. -/
def spC (ta : Option Addr) (n tc p en : Nat) (b : Int) (t : Bool) : Array Value := #[.slice ta n tc, .int .i64 (p : Int), .int .i64 (en : Int), .int .i64 b, .bool t]
/-- The place of the next token; the end where there is none. -/
def plc (l : List T.Tk) (en p : Nat) : Int := match l[p]? with
  | some x => x.a
  | none => (en : Int)

set_option maxRecDepth 20000 in
set_option maxHeartbeats 4000000 in
theorem fail_old (g : Nat) (ta : Option Addr) (n tc p en : Nat) (b : Int) (t : Bool) (w : World) (h : 0 ≤ b) (hb : Bk w g (spC ta n tc p en b t) 33) :
    Calls Tryd.prog 11 #[.pointer (some ⟨g, 0, none⟩)] w fun e w' => e = .returned (.tuple #[]) ∧ w' = w := by
  have c := hb.c
  have f := hb.f
  unfold spC at c
  have h' : ¬ b < 0 := by omega
  clear hb
  go_enter Tryd.func11, Tryd.ntmps11
  go_wp2_with fail
  exact bodyPost_ret (v := .tuple #[]) (by simp [results, Tryd.results11, go_sem]) rfl ⟨rfl, rfl⟩

set_option maxRecDepth 20000 in
set_option maxHeartbeats 4000000 in
theorem fail_new (g : Nat) (ta : Option Addr) (tc : Nat) (l : List T.Tk) (p en : Nat) (t : Bool) (w : World) (hl : l.length ≤ 1000) (hp : p ≤ l.length) (hb : Bk w g (spC ta l.length tc p en (-1) t) 33) (hr : T.Row w ta l) (hne : ∀ b o, ta = some ⟨b, o, none⟩ → b ≠ g) :
    Calls Tryd.prog 11 #[.pointer (some ⟨g, 0, none⟩)] w fun e w' => e = .returned (.tuple #[]) ∧ Bk w' g (spC ta l.length tc p en (plc l en p) t) 33 ∧ w.grownBy w' (some g) := by
  have c := hb.c
  have f := hb.f
  have HB := hide hb
  unfold spC at c
  have hpn : (0 : Int) ≤ (p : Int) := by omega
  have HR := hide (hr.grown (gr_set (gr_refl w (some g)) 3 (.int .i64 (en : Int))) hne)
  by_cases hlt : p < l.length
  · have hlt' : (p : Int) < (l.length : Int) := by omega
    have hx : plc l en p = l[p].a := by unfold plc; rw [List.getElem?_eq_getElem hlt]
    rw [hx]
    obtain ⟨b, o, rfl, hbl, -, -, -, q3⟩ := HR.out.tok (Below.refl _ _) hlt
    obtain ⟨x, hxe⟩ : ∃ x, x = l[p].a := ⟨_, rfl⟩
    rw [← hxe] at q3 ⊢
    have Q3 := hide q3
    have hnb : b ≠ g := hne b o rfl
    clear hb hr hx hxe q3 hne
    go_enter Tryd.func11, Tryd.ntmps11
    go_upto_region 2 with fail
    obtain ⟨W, hW⟩ : ∃ W, W = w.setCell ⟨g, 3, none⟩ (.int .i64 (en : Int)) := ⟨_, rfl⟩
    rw [← hW] at Q3 hbl HR ⊢
    have hBW : Bk W g (spC (some ⟨b, o, none⟩) l.length tc p en (en : Int) t) 33 := by
      have hz := HB.out.set 3 (.int .i64 (en : Int))
      simp only [spC, List.setIfInBounds_toArray, List.set_cons_zero, List.set_cons_succ] at hz
      rw [hW]; exact hz
    have HGW : Hid (w.grownBy W (some g)) := hide (by rw [hW]; exact gr_set (gr_refl w _) _ _)
    have HBW := hide hBW
    have hgW := hBW.lt
    have d0 : W.cell? ⟨g, 0, none⟩ = some (.slice (some ⟨b, o, none⟩) l.length tc) := (hBW.c 0).trans rfl
    have d1 : W.cell? ⟨g, 1, none⟩ = some (.int .i64 (p : Int)) := (hBW.c 1).trans rfl
    have q3 := Q3.out
    have fz := hBW.f
    clear hW c f HB HR
    have HWd : Hid (∀ n, Below W.heap.size W (W.drewN n)) := hide (fun n => belDrewN n)
    have HD : Hid (∀ w', Below W.heap.size W w' → w'.cell? ⟨g, 0, none⟩ = some (.slice (some ⟨b, o, none⟩) l.length tc) ∧ w'.cell? ⟨g, 1, none⟩ = some (.int .i64 (p : Int)) ∧ w'.cell? ⟨b, o + p * 4 + 3, none⟩ = some (.int .i64 x)) := hide (fun w' hb => ⟨(hb.cell (p := ⟨g, 0, none⟩) hgW).trans d0, (hb.cell (p := ⟨g, 1, none⟩) hgW).trans d1, (hb.cell (p := ⟨b, o + p * 4 + 3, none⟩) hbl).trans q3⟩)
    go_quiet (fail)
    go_wp2_with fail
    obtain ⟨V, hV⟩ : ∃ V, V = W.drewN nq := ⟨_, rfl⟩
    rw [← hV]
    have HBV : Hid (Below W.heap.size W V) := hide (by rw [hV]; exact belDrewN _)
    have HV : Hid (Bk V g (spC (some ⟨b, o, none⟩) l.length tc p en (en : Int) t) 33) := hide (HBW.out.below HBV.out)
    have HGV : Hid (w.grownBy V (some g)) := hide (gr_trans HGW.out (gr_below (some g) HBV.out))
    have HD3 : Hid (∀ w', Below V.heap.size V w' → w'.cell? ⟨g, 0, none⟩ = some (.slice (some ⟨b, o, none⟩) l.length tc) ∧ w'.cell? ⟨g, 1, none⟩ = some (.int .i64 (p : Int)) ∧ w'.cell? ⟨b, o + p * 4 + 3, none⟩ = some (.int .i64 x) ∧ w'.frozen? ⟨g, 3, none⟩ = false) := hide (fun w' hb => by
      have hB2 := HV.out.below hb
      obtain ⟨a0, a1, a2⟩ := HD.out w' (HBV.out.trans (hb.mono HBV.out.size))
      exact ⟨a0, a1, a2, hB2.f 3⟩)
    have HVd : Hid (Below V.heap.size V V.drew) := hide ⟨rfl, rfl, rfl, Nat.le_refl _, fun _ _ => rfl⟩
    obtain ⟨v0, v1, v2, v3⟩ := HD3.out V.drew HVd.out
    have hBX : Bk (V.setCell ⟨g, 3, none⟩ (.int .i64 x)) g (spC (some ⟨b, o, none⟩) l.length tc p en x t) 33 := by
      have hz := HV.out.set 3 (.int .i64 x)
      simp only [spC, List.setIfInBounds_toArray, List.set_cons_zero, List.set_cons_succ] at hz
      exact hz
    have HXd : Hid (Below (V.setCell ⟨g, 3, none⟩ (.int .i64 x)).heap.size (V.setCell ⟨g, 3, none⟩ (.int .i64 x)) (V.setCell ⟨g, 3, none⟩ (.int .i64 x)).drew) := hide ⟨rfl, rfl, rfl, Nat.le_refl _, fun _ _ => rfl⟩
    have HBX := hide (hBX.below HXd.out)
    have HGX : Hid (w.grownBy (V.setCell ⟨g, 3, none⟩ (.int .i64 x)).drew (some g)) := hide (gr_trans (gr_set HGV.out 3 (.int .i64 x)) (gr_below (some g) HXd.out))
    have HS2 := hide (show (V.setCell ⟨g, 3, none⟩ (.int .i64 x)).drew.cell? ⟨g, 0, none⟩ = some (.slice (some ⟨b, o, none⟩) l.length tc) ∧ (V.setCell ⟨g, 3, none⟩ (.int .i64 x)).drew.cell? ⟨g, 1, none⟩ = some (.int .i64 (p : Int)) ∧ (V.setCell ⟨g, 3, none⟩ (.int .i64 x)).drew.cell? ⟨b, o + p * 4 + 3, none⟩ = some (.int .i64 x) ∧ (V.setCell ⟨g, 3, none⟩ (.int .i64 x)).drew.frozen? ⟨g, 3, none⟩ = false from
      ⟨(HBX.out.c 0).trans rfl, (HBX.out.c 1).trans rfl, (World.cell?_of_block (w := V) (Below.heap_setCell _ _ _ _ hnb)).trans (HD3.out V (Below.refl _ _)).2.2.1, HBX.out.f 3⟩)
    have v4 : V.cell? ⟨g, 3, none⟩ = some (.int .i64 (en : Int)) := (HV.out.c 3).trans rfl
    have v5 : V.frozen? ⟨g, 3, none⟩ = false := HV.out.f 3
    have v6 : V.drew.cell? ⟨g, 3, none⟩ = some (.int .i64 (en : Int)) := ((HV.out.below HVd.out).c 3).trans rfl
    clear hBX
    clear hV fz d0 d1 q3 hBW
    go_region_held3 (fun w' => w'.cell? ⟨g, 0, none⟩ = some (.slice (some ⟨b, o, none⟩) l.length tc) ∧ w'.cell? ⟨g, 1, none⟩ = some (.int .i64 (p : Int)) ∧ w'.cell? ⟨b, o + p * 4 + 3, none⟩ = some (.int .i64 x) ∧ w'.frozen? ⟨g, 3, none⟩ = false) (first | (with_reducible exact HD3.out _ HVd.out) | (with_reducible exact HS2.out) | go_keep) (fail)
    all_goals
      clear v0 v1 v2 v3 v4 v5 v6
      go_wp2_with fail
      exact bodyPost_end (results_none rfl _ _ _) rfl ⟨rfl, HBX.out, HGX.out⟩
  · have hlt' : ¬ (p : Int) < (l.length : Int) := by omega
    have hx : plc l en p = (en : Int) := by unfold plc; rw [List.getElem?_eq_none (by omega)]
    rw [hx]
    clear hb hr hx hne
    go_enter Tryd.func11, Tryd.ntmps11
    go_upto_region 2 with fail
    obtain ⟨W, hW⟩ : ∃ W, W = w.setCell ⟨g, 3, none⟩ (.int .i64 (en : Int)) := ⟨_, rfl⟩
    rw [← hW]
    have hBW : Bk W g (spC ta l.length tc p en (en : Int) t) 33 := by
      have hz := HB.out.set 3 (.int .i64 (en : Int))
      simp only [spC, List.setIfInBounds_toArray, List.set_cons_zero, List.set_cons_succ] at hz
      rw [hW]; exact hz
    have HGW : Hid (w.grownBy W (some g)) := hide (by rw [hW]; exact gr_set (gr_refl w _) _ _)
    have HBW := hide hBW
    have d0 : W.cell? ⟨g, 0, none⟩ = some (.slice ta l.length tc) := (hBW.c 0).trans rfl
    have d1 : W.cell? ⟨g, 1, none⟩ = some (.int .i64 (p : Int)) := (hBW.c 1).trans rfl
    clear hW c f HB HR hBW
    go_quiet (fail)
    go_wp2_with fail
    exact bodyPost_end (results_none rfl _ _ _) rfl ⟨rfl, HBW.out.below (belDrewN _), gr_trans HGW.out (gr_below (some g) (belDrewN _))⟩
end Go.Proofs.YtmnicilgenpnfaaDoor.W

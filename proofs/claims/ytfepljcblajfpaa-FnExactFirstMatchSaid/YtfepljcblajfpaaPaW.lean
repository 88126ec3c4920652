/-
  Good values: contracts of both GoodValue and of the specification's l8Value. Conditions: at most 1048576 numbers. Written by wip/build/mk_paw.py.
-/
import Derived.Test.YtfepljcblajfpaaPaV
namespace Go.Proofs.Ytfepljcblajfpaa.W
open Go.ChangeShapes Go.WideShapes Go.ChangeAt Go.RowKit
set_option linter.unusedVariables false
set_option linter.unusedSimpArgs false

/-- A good value as a tree. -/
def valT (D v : List Int) : Option F := if goodD D = true then treeT D 60 (v.map oP) else none
def goodV (D v : List Int) : Bool := (valT D v).isSome
theorem goodV_eq (D v : List Int) : goodV D v = (goodD D && (decide (v.length ≤ 60) && decide (sz D (v.map oP) 1 0 = some v.length))) := by
  unfold goodV valT
  by_cases h : goodD D = true
  · rw [if_pos h, h, Bool.true_and]
    have := goodT_sz D 60 (v.map oP)
    unfold goodT at this
    rw [this]; simp
  · rw [if_neg h]; simp at h; rw [h]; rfl

set_option maxRecDepth 20000 in
set_option maxHeartbeats 4000000 in
theorem implGoodV_no (vd : Value) (D : List Int) (ad : Option Addr) (c : Nat) (v : List Int) (w : World) (hD : DRow w vd D) (hl : v.length ≤ 1048576) (hd : goodD D = false) :
    Calls Try.prog 21 #[vd, .slice ad v.length c] w fun e w' => e = .returned (.bool false) ∧ Below w.heap.size w w' := by
  have HG := hide (fun (w' : World) (hb : Below w.heap.size w w') => implGoodD_any vd D w' (hD.below hb))
  rw [hd] at HG
  obtain ⟨da, dc, rfl, -, hDl⟩ := hD
  clear hd
  go_enter Try.func21, Try.ntmps21
  go_upto_region 1 with fail
  have hB0 : Below w.heap.size w (w.alloc (.cells #[.slice da D.length dc] 27)) := (Below.refl _ _).alloc (Nat.le_refl _) _
  have hX := Bx.new w #[.slice da D.length dc] 27
  obtain ⟨w0, hw0⟩ : ∃ w0, w0 = w.alloc (.cells #[.slice da D.length dc] 27) := ⟨_, rfl⟩
  obtain ⟨XB, hXB⟩ : ∃ XB, XB = w.heap.size := ⟨_, rfl⟩
  rw [← hw0] at hX hB0 ⊢
  rw [← hXB] at hX ⊢
  have xl : XB < w0.heap.size := hX.lt
  have b0 : w0.cell? ⟨XB, 0, none⟩ = some (.slice da D.length dc) := hX.c 0
  have HB0 : Hid (Below w.heap.size w w0.drew) := hide (belowDrew8 hB0)
  clear hX hw0 hXB hB0
  refine wp_region_noPanic ?_
  refine wp_region_held_drew (S := fun w' => w'.cell? ⟨XB, 0, none⟩ = some (.slice da D.length dc)) (by kernel_rfl) b0 (fun hHeld => ?_)
  refine wpAnyH_take (i := 0) (oi := _) (v := ?_) rfl (by kernel_rfl) (by kernel_rfl) (by kernel_rfl) (fun _ _ _ h => h) (Or.inl ⟨by rfl, ?_⟩) (by assumption) ?_
  rotate_left 1
  · (intro w hSw; (try dsimp only at hSw); (first | (go_simp; done) | (go_simp; with_reducible rfl)))
  try simp only [Act.put, List.getElem_toArray, List.getElem_cons_zero, List.getElem_cons_succ, List.setIfInBounds_toArray, List.set_cons_zero, List.set_cons_succ]
  refine wpAnyH_ready (rs := [1]) (by kernel_rfl) (by simp) ?_
  refine AllReadyH.cons (o := _) rfl (fun K hK => ?_) AllReadyH.nil
  go_simp
  (with_reducible refine Calls.mono (HG.out _ HB0.out) ?_)
  rintro r wa ⟨rfl, hba⟩
  have HBa := hide (HB0.out.trans (hba.mono HB0.out.size))
  have fa0 := (hba.cell (p := ⟨XB, 0, none⟩) xl).trans b0
  have xla : XB < wa.heap.size := Nat.lt_of_lt_of_le xl hba.size
  clear hba
  (try go_wp2_with fail)
  refine hK.out _ _ fa0 (fun hHeld => ?_)
  clear hK K
  try simp only [Act.put, List.getElem_toArray, List.getElem_cons_zero, List.getElem_cons_succ, List.setIfInBounds_toArray, List.set_cons_zero, List.set_cons_succ]
  refine wpAnyH_take (i := 2) (oi := _) (v := ?_) rfl (by kernel_rfl) (by kernel_rfl) (by kernel_rfl) (fun _ _ _ h => h) (Or.inl ⟨by rfl, ?_⟩) (by assumption) ?_
  rotate_left 1
  · (intro w hSw; (try dsimp only at hSw); (first | (go_simp; done) | (go_simp; with_reducible rfl)))
  try simp only [Act.put, List.getElem_toArray, List.getElem_cons_zero, List.getElem_cons_succ, List.setIfInBounds_toArray, List.set_cons_zero, List.set_cons_succ]
  refine wpAnyH_take (i := 3) (oi := _) (v := undef) rfl (by kernel_rfl) (by kernel_rfl) (by kernel_rfl) (fun _ _ _ h => h) (Or.inr ⟨by rfl, rfl⟩) (by assumption) ?_
  try simp only [Act.put, List.getElem_toArray, List.getElem_cons_zero, List.getElem_cons_succ, List.setIfInBounds_toArray, List.set_cons_zero, List.set_cons_succ]
  refine wpAnyH_take (i := 4) (oi := _) (v := undef) rfl (by kernel_rfl) (by kernel_rfl) (by kernel_rfl) (fun _ _ _ h => h) (Or.inr ⟨by rfl, rfl⟩) (by assumption) ?_
  try simp only [Act.put, List.getElem_toArray, List.getElem_cons_zero, List.getElem_cons_succ, List.setIfInBounds_toArray, List.set_cons_zero, List.set_cons_succ]
  refine wpAnyH_take (i := 5) (oi := _) (v := undef) rfl (by kernel_rfl) (by kernel_rfl) (by kernel_rfl) (fun _ _ _ h => h) (Or.inr ⟨by rfl, rfl⟩) (by assumption) ?_
  try simp only [Act.put, List.getElem_toArray, List.getElem_cons_zero, List.getElem_cons_succ, List.setIfInBounds_toArray, List.set_cons_zero, List.set_cons_succ]
  refine wpAnyH_take (i := 6) (oi := _) (v := ?_) rfl (by kernel_rfl) (by kernel_rfl) (by kernel_rfl) (fun _ _ _ h => h) (Or.inl ⟨by rfl, ?_⟩) (by assumption) ?_
  rotate_left 1
  · (intro w hSw; (try dsimp only at hSw); (first | (go_simp; done) | (go_simp; with_reducible rfl)))
  try simp only [Act.put, List.getElem_toArray, List.getElem_cons_zero, List.getElem_cons_succ, List.setIfInBounds_toArray, List.set_cons_zero, List.set_cons_succ]
  refine wpAnyH_take (i := 7) (oi := _) (v := ?_) rfl (by kernel_rfl) (by kernel_rfl) (by kernel_rfl) (fun _ _ _ h => h) (Or.inl ⟨by rfl, ?_⟩) (by assumption) ?_
  rotate_left 1
  · (intro w hSw; (try dsimp only at hSw); (first | (go_simp; done) | (go_simp; with_reducible rfl)))
  try simp only [Act.put, List.getElem_toArray, List.getElem_cons_zero, List.getElem_cons_succ, List.setIfInBounds_toArray, List.set_cons_zero, List.set_cons_succ]
  refine wpAnyH_take (i := 8) (oi := _) (v := undef) rfl (by kernel_rfl) (by kernel_rfl) (by kernel_rfl) (fun _ _ _ h => h) (Or.inr ⟨by rfl, rfl⟩) (by assumption) ?_
  try simp only [Act.put, List.getElem_toArray, List.getElem_cons_zero, List.getElem_cons_succ, List.setIfInBounds_toArray, List.set_cons_zero, List.set_cons_succ]
  refine wpAnyH_take (i := 9) (oi := _) (v := undef) rfl (by kernel_rfl) (by kernel_rfl) (by kernel_rfl) (fun _ _ _ h => h) (Or.inr ⟨by rfl, rfl⟩) (by assumption) ?_
  try simp only [Act.put, List.getElem_toArray, List.getElem_cons_zero, List.getElem_cons_succ, List.setIfInBounds_toArray, List.set_cons_zero, List.set_cons_succ]
  refine wpAnyH_take (i := 10) (oi := _) (v := undef) rfl (by kernel_rfl) (by kernel_rfl) (by kernel_rfl) (fun _ _ _ h => h) (Or.inr ⟨by rfl, rfl⟩) (by assumption) ?_
  try simp only [Act.put, List.getElem_toArray, List.getElem_cons_zero, List.getElem_cons_succ, List.setIfInBounds_toArray, List.set_cons_zero, List.set_cons_succ]
  refine wpAnyH_take (i := 11) (oi := _) (v := undef) rfl (by kernel_rfl) (by kernel_rfl) (by kernel_rfl) (fun _ _ _ h => h) (Or.inr ⟨by rfl, rfl⟩) (by assumption) ?_
  try simp only [Act.put, List.getElem_toArray, List.getElem_cons_zero, List.getElem_cons_succ, List.setIfInBounds_toArray, List.set_cons_zero, List.set_cons_succ]
  refine wpAnyH_take (i := 12) (oi := _) (v := ?_) rfl (by kernel_rfl) (by kernel_rfl) (by kernel_rfl) (fun _ _ _ h => h) (Or.inl ⟨by rfl, ?_⟩) (by assumption) ?_
  rotate_left 1
  · (intro w hSw; (try dsimp only at hSw); (first | (go_simp; done) | (go_simp; with_reducible rfl)))
  try simp only [Act.put, List.getElem_toArray, List.getElem_cons_zero, List.getElem_cons_succ, List.setIfInBounds_toArray, List.set_cons_zero, List.set_cons_succ]
  refine wpAnyH_take (i := 13) (oi := _) (v := ?_) rfl (by kernel_rfl) (by kernel_rfl) (by kernel_rfl) (fun _ _ _ h => h) (Or.inl ⟨by rfl, ?_⟩) (by assumption) ?_
  rotate_left 1
  · (intro w hSw; (try dsimp only at hSw); (first | (go_simp; done) | (go_simp; with_reducible rfl)))
  try simp only [Act.put, List.getElem_toArray, List.getElem_cons_zero, List.getElem_cons_succ, List.setIfInBounds_toArray, List.set_cons_zero, List.set_cons_succ]
  refine wpAnyH_done (by kernel_rfl) ?_ _
  refine NoPanic.normal ?_
  have hBK := HBa.out
  clear b0 fa0
  go_wp2_with fail
  go_ret
  exact ⟨rfl, hBK⟩

set_option maxRecDepth 20000 in
set_option maxHeartbeats 4000000 in
theorem implGoodV_long (vd : Value) (D : List Int) (ad : Option Addr) (c : Nat) (v : List Int) (w : World) (hD : DRow w vd D) (hl : v.length ≤ 1048576) (hd : goodD D = true) (h6 : ¬ v.length ≤ 60) :
    Calls Try.prog 21 #[vd, .slice ad v.length c] w fun e w' => e = .returned (.bool false) ∧ Below w.heap.size w w' := by
  have HG := hide (fun (w' : World) (hb : Below w.heap.size w w') => implGoodD_any vd D w' (hD.below hb))
  rw [hd] at HG
  obtain ⟨da, dc, rfl, -, hDl⟩ := hD
  have hq : decide ((v.length : Int) ≤ 60) = false := decide_eq_false (by omega)
  have hq2 : decide (v.length ≤ 60) = false := decide_eq_false h6
  have hl2 : ¬ (v.length : Int) ≤ 60 := by omega
  clear hd
  go_enter Try.func21, Try.ntmps21
  go_upto_region 1 with fail
  have hB0 : Below w.heap.size w (w.alloc (.cells #[.slice da D.length dc] 27)) := (Below.refl _ _).alloc (Nat.le_refl _) _
  have hX := Bx.new w #[.slice da D.length dc] 27
  obtain ⟨w0, hw0⟩ : ∃ w0, w0 = w.alloc (.cells #[.slice da D.length dc] 27) := ⟨_, rfl⟩
  obtain ⟨XB, hXB⟩ : ∃ XB, XB = w.heap.size := ⟨_, rfl⟩
  rw [← hw0] at hX hB0 ⊢
  rw [← hXB] at hX ⊢
  have xl : XB < w0.heap.size := hX.lt
  have b0 : w0.cell? ⟨XB, 0, none⟩ = some (.slice da D.length dc) := hX.c 0
  have HB0 : Hid (Below w.heap.size w w0.drew) := hide (belowDrew8 hB0)
  clear hX hw0 hXB hB0
  refine wp_region_noPanic ?_
  refine wp_region_held_drew (S := fun w' => w'.cell? ⟨XB, 0, none⟩ = some (.slice da D.length dc)) (by kernel_rfl) b0 (fun hHeld => ?_)
  refine wpAnyH_take (i := 0) (oi := _) (v := ?_) rfl (by kernel_rfl) (by kernel_rfl) (by kernel_rfl) (fun _ _ _ h => h) (Or.inl ⟨by rfl, ?_⟩) (by assumption) ?_
  rotate_left 1
  · (intro w hSw; (try dsimp only at hSw); (first | (go_simp; done) | (go_simp; with_reducible rfl)))
  try simp only [Act.put, List.getElem_toArray, List.getElem_cons_zero, List.getElem_cons_succ, List.setIfInBounds_toArray, List.set_cons_zero, List.set_cons_succ]
  refine wpAnyH_ready (rs := [1]) (by kernel_rfl) (by simp) ?_
  refine AllReadyH.cons (o := _) rfl (fun K hK => ?_) AllReadyH.nil
  go_simp
  (with_reducible refine Calls.mono (HG.out _ HB0.out) ?_)
  rintro r wa ⟨rfl, hba⟩
  have HBa := hide (HB0.out.trans (hba.mono HB0.out.size))
  have fa0 := (hba.cell (p := ⟨XB, 0, none⟩) xl).trans b0
  have xla : XB < wa.heap.size := Nat.lt_of_lt_of_le xl hba.size
  clear hba
  (try go_wp2_with fail)
  refine hK.out _ _ fa0 (fun hHeld => ?_)
  clear hK K
  try simp only [Act.put, List.getElem_toArray, List.getElem_cons_zero, List.getElem_cons_succ, List.setIfInBounds_toArray, List.set_cons_zero, List.set_cons_succ]
  refine wpAnyH_take (i := 2) (oi := _) (v := ?_) rfl (by kernel_rfl) (by kernel_rfl) (by kernel_rfl) (fun _ _ _ h => h) (Or.inl ⟨by rfl, ?_⟩) (by assumption) ?_
  rotate_left 1
  · (intro w hSw; (try dsimp only at hSw); (first | (go_simp; done) | (go_simp; with_reducible rfl)))
  try simp only [Act.put, List.getElem_toArray, List.getElem_cons_zero, List.getElem_cons_succ, List.setIfInBounds_toArray, List.set_cons_zero, List.set_cons_succ]
  refine wpAnyH_take (i := 3) (oi := _) (v := ?_) rfl (by kernel_rfl) (by kernel_rfl) (by kernel_rfl) (fun _ _ _ h => h) (Or.inl ⟨by rfl, ?_⟩) (by assumption) ?_
  rotate_left 1
  · (intro w hSw; (try dsimp only at hSw); (first | (go_simp; done) | (go_simp; with_reducible rfl)))
  try simp only [Act.put, List.getElem_toArray, List.getElem_cons_zero, List.getElem_cons_succ, List.setIfInBounds_toArray, List.set_cons_zero, List.set_cons_succ]
  refine wpAnyH_take (i := 4) (oi := _) (v := ?_) rfl (by kernel_rfl) (by kernel_rfl) (by kernel_rfl) (fun _ _ _ h => h) (Or.inl ⟨by rfl, ?_⟩) (by assumption) ?_
  rotate_left 1
  · (intro w hSw; (try dsimp only at hSw); (first | (go_simp; done) | (go_simp; with_reducible rfl)))
  try simp only [Act.put, List.getElem_toArray, List.getElem_cons_zero, List.getElem_cons_succ, List.setIfInBounds_toArray, List.set_cons_zero, List.set_cons_succ]
  refine wpAnyH_take (i := 5) (oi := _) (v := .bool false) rfl (by kernel_rfl) (by kernel_rfl) (by kernel_rfl) (fun _ _ _ h => h) (Or.inl ⟨by rfl, ?_⟩) (by assumption) ?_
  · (intro w hSw; (try dsimp only at hSw); (first | (go_simp; done) | (go_simp; simp [*])))
  try simp only [Act.put, List.getElem_toArray, List.getElem_cons_zero, List.getElem_cons_succ, List.setIfInBounds_toArray, List.set_cons_zero, List.set_cons_succ]
  refine wpAnyH_take (i := 6) (oi := _) (v := ?_) rfl (by kernel_rfl) (by kernel_rfl) (by kernel_rfl) (fun _ _ _ h => h) (Or.inl ⟨by rfl, ?_⟩) (by assumption) ?_
  rotate_left 1
  · (intro w hSw; (try dsimp only at hSw); (first | (go_simp; done) | (go_simp; with_reducible rfl)))
  try simp only [Act.put, List.getElem_toArray, List.getElem_cons_zero, List.getElem_cons_succ, List.setIfInBounds_toArray, List.set_cons_zero, List.set_cons_succ]
  refine wpAnyH_take (i := 7) (oi := _) (v := ?_) rfl (by kernel_rfl) (by kernel_rfl) (by kernel_rfl) (fun _ _ _ h => h) (Or.inl ⟨by rfl, ?_⟩) (by assumption) ?_
  rotate_left 1
  · (intro w hSw; (try dsimp only at hSw); (first | (go_simp; done) | (go_simp; with_reducible rfl)))
  try simp only [Act.put, List.getElem_toArray, List.getElem_cons_zero, List.getElem_cons_succ, List.setIfInBounds_toArray, List.set_cons_zero, List.set_cons_succ]
  refine wpAnyH_take (i := 8) (oi := _) (v := undef) rfl (by kernel_rfl) (by kernel_rfl) (by kernel_rfl) (fun _ _ _ h => h) (Or.inr ⟨by rfl, rfl⟩) (by assumption) ?_
  try simp only [Act.put, List.getElem_toArray, List.getElem_cons_zero, List.getElem_cons_succ, List.setIfInBounds_toArray, List.set_cons_zero, List.set_cons_succ]
  refine wpAnyH_take (i := 9) (oi := _) (v := undef) rfl (by kernel_rfl) (by kernel_rfl) (by kernel_rfl) (fun _ _ _ h => h) (Or.inr ⟨by rfl, rfl⟩) (by assumption) ?_
  try simp only [Act.put, List.getElem_toArray, List.getElem_cons_zero, List.getElem_cons_succ, List.setIfInBounds_toArray, List.set_cons_zero, List.set_cons_succ]
  refine wpAnyH_take (i := 10) (oi := _) (v := undef) rfl (by kernel_rfl) (by kernel_rfl) (by kernel_rfl) (fun _ _ _ h => h) (Or.inr ⟨by rfl, rfl⟩) (by assumption) ?_
  try simp only [Act.put, List.getElem_toArray, List.getElem_cons_zero, List.getElem_cons_succ, List.setIfInBounds_toArray, List.set_cons_zero, List.set_cons_succ]
  refine wpAnyH_take (i := 11) (oi := _) (v := undef) rfl (by kernel_rfl) (by kernel_rfl) (by kernel_rfl) (fun _ _ _ h => h) (Or.inr ⟨by rfl, rfl⟩) (by assumption) ?_
  try simp only [Act.put, List.getElem_toArray, List.getElem_cons_zero, List.getElem_cons_succ, List.setIfInBounds_toArray, List.set_cons_zero, List.set_cons_succ]
  refine wpAnyH_take (i := 12) (oi := _) (v := ?_) rfl (by kernel_rfl) (by kernel_rfl) (by kernel_rfl) (fun _ _ _ h => h) (Or.inl ⟨by rfl, ?_⟩) (by assumption) ?_
  rotate_left 1
  · (intro w hSw; (try dsimp only at hSw); (first | (go_simp; done) | (go_simp; with_reducible rfl)))
  try simp only [Act.put, List.getElem_toArray, List.getElem_cons_zero, List.getElem_cons_succ, List.setIfInBounds_toArray, List.set_cons_zero, List.set_cons_succ]
  refine wpAnyH_take (i := 13) (oi := _) (v := ?_) rfl (by kernel_rfl) (by kernel_rfl) (by kernel_rfl) (fun _ _ _ h => h) (Or.inl ⟨by rfl, ?_⟩) (by assumption) ?_
  rotate_left 1
  · (intro w hSw; (try dsimp only at hSw); (first | (go_simp; done) | (go_simp; with_reducible rfl)))
  try simp only [Act.put, List.getElem_toArray, List.getElem_cons_zero, List.getElem_cons_succ, List.setIfInBounds_toArray, List.set_cons_zero, List.set_cons_succ]
  refine wpAnyH_done (by kernel_rfl) ?_ _
  refine NoPanic.normal ?_
  have hBK := HBa.out
  clear b0 fa0
  go_wp2_with fail
  go_ret
  exact ⟨rfl, hBK⟩

set_option maxRecDepth 20000 in
set_option maxHeartbeats 4000000 in
theorem implGoodV_yes (vd : Value) (D : List Int) (ad : Option Addr) (c : Nat) (v : List Int) (w : World) (hD : DRow w vd D) (hR : IRow w ad v) (hd : goodD D = true) (h6 : v.length ≤ 60) :
    Calls Try.prog 21 #[vd, .slice ad v.length c] w fun e w' => e = .returned (.bool (decide (sz D (v.map oP) 1 0 = some v.length))) ∧ Below w.heap.size w w' := by
  have HG := hide (fun (w' : World) (hb : Below w.heap.size w w') => implGoodD_any vd D w' (hD.below hb))
  rw [hd] at HG
  have HO := hide (fun (w' : World) (hb : Below w.heap.size w w') => onlyPattern_any ad c v w' (by omega) (RRow.below hR hb))
  have HI := hide (fun (b : Nat) (w' : World) (hb : Below w.heap.size w w') (hr : PtBlk w' b (v.map oP)) => isPattern_any vd D (some ⟨b, 0, none⟩) v.length (v.map oP) w' (hD.below hb) hd (by simp; omega) hr.row)
  simp only [List.length_map] at HI
  obtain ⟨G, hG⟩ : ∃ G, G = decide (sz D (v.map oP) 1 0 = some v.length) := ⟨_, rfl⟩
  rw [← hG] at HI ⊢
  obtain ⟨da, dc, rfl, -, hDl⟩ := hD
  have hq : decide ((v.length : Int) ≤ 60) = true := decide_eq_true (by omega)
  have hq2 : decide (v.length ≤ 60) = true := decide_eq_true h6
  have hl2 : (v.length : Int) ≤ 60 := by omega
  clear hd hG hR
  go_enter Try.func21, Try.ntmps21
  go_upto_region 1 with fail
  have hB0 : Below w.heap.size w (w.alloc (.cells #[.slice da D.length dc] 27)) := (Below.refl _ _).alloc (Nat.le_refl _) _
  have hX := Bx.new w #[.slice da D.length dc] 27
  obtain ⟨w0, hw0⟩ : ∃ w0, w0 = w.alloc (.cells #[.slice da D.length dc] 27) := ⟨_, rfl⟩
  obtain ⟨XB, hXB⟩ : ∃ XB, XB = w.heap.size := ⟨_, rfl⟩
  rw [← hw0] at hX hB0 ⊢
  rw [← hXB] at hX ⊢
  have xl : XB < w0.heap.size := hX.lt
  have b0 : w0.cell? ⟨XB, 0, none⟩ = some (.slice da D.length dc) := hX.c 0
  have HB0 : Hid (Below w.heap.size w w0.drew) := hide (belowDrew8 hB0)
  clear hX hw0 hXB hB0
  refine wp_region_noPanic ?_
  refine wp_region_held_drew (S := fun w' => w'.cell? ⟨XB, 0, none⟩ = some (.slice da D.length dc)) (by kernel_rfl) b0 (fun hHeld => ?_)
  refine wpAnyH_take (i := 0) (oi := _) (v := ?_) rfl (by kernel_rfl) (by kernel_rfl) (by kernel_rfl) (fun _ _ _ h => h) (Or.inl ⟨by rfl, ?_⟩) (by assumption) ?_
  rotate_left 1
  · (intro w hSw; (try dsimp only at hSw); (first | (go_simp; done) | (go_simp; with_reducible rfl)))
  try simp only [Act.put, List.getElem_toArray, List.getElem_cons_zero, List.getElem_cons_succ, List.setIfInBounds_toArray, List.set_cons_zero, List.set_cons_succ]
  refine wpAnyH_ready (rs := [1]) (by kernel_rfl) (by simp) ?_
  refine AllReadyH.cons (o := _) rfl (fun K hK => ?_) AllReadyH.nil
  go_simp
  (with_reducible refine Calls.mono (HG.out _ HB0.out) ?_)
  rintro r wa ⟨rfl, hba⟩
  have HBa := hide (HB0.out.trans (hba.mono HB0.out.size))
  have fa0 := (hba.cell (p := ⟨XB, 0, none⟩) xl).trans b0
  have xla : XB < wa.heap.size := Nat.lt_of_lt_of_le xl hba.size
  clear hba
  (try go_wp2_with fail)
  refine hK.out _ _ fa0 (fun hHeld => ?_)
  clear hK K
  try simp only [Act.put, List.getElem_toArray, List.getElem_cons_zero, List.getElem_cons_succ, List.setIfInBounds_toArray, List.set_cons_zero, List.set_cons_succ]
  refine wpAnyH_take (i := 2) (oi := _) (v := ?_) rfl (by kernel_rfl) (by kernel_rfl) (by kernel_rfl) (fun _ _ _ h => h) (Or.inl ⟨by rfl, ?_⟩) (by assumption) ?_
  rotate_left 1
  · (intro w hSw; (try dsimp only at hSw); (first | (go_simp; done) | (go_simp; with_reducible rfl)))
  try simp only [Act.put, List.getElem_toArray, List.getElem_cons_zero, List.getElem_cons_succ, List.setIfInBounds_toArray, List.set_cons_zero, List.set_cons_succ]
  refine wpAnyH_take (i := 3) (oi := _) (v := ?_) rfl (by kernel_rfl) (by kernel_rfl) (by kernel_rfl) (fun _ _ _ h => h) (Or.inl ⟨by rfl, ?_⟩) (by assumption) ?_
  rotate_left 1
  · (intro w hSw; (try dsimp only at hSw); (first | (go_simp; done) | (go_simp; with_reducible rfl)))
  try simp only [Act.put, List.getElem_toArray, List.getElem_cons_zero, List.getElem_cons_succ, List.setIfInBounds_toArray, List.set_cons_zero, List.set_cons_succ]
  refine wpAnyH_take (i := 4) (oi := _) (v := ?_) rfl (by kernel_rfl) (by kernel_rfl) (by kernel_rfl) (fun _ _ _ h => h) (Or.inl ⟨by rfl, ?_⟩) (by assumption) ?_
  rotate_left 1
  · (intro w hSw; (try dsimp only at hSw); (first | (go_simp; done) | (go_simp; with_reducible rfl)))
  try simp only [Act.put, List.getElem_toArray, List.getElem_cons_zero, List.getElem_cons_succ, List.setIfInBounds_toArray, List.set_cons_zero, List.set_cons_succ]
  refine wpAnyH_take (i := 5) (oi := _) (v := .bool true) rfl (by kernel_rfl) (by kernel_rfl) (by kernel_rfl) (fun _ _ _ h => h) (Or.inl ⟨by rfl, ?_⟩) (by assumption) ?_
  · (intro w hSw; (try dsimp only at hSw); (first | (go_simp; done) | (go_simp; simp [*])))
  try simp only [Act.put, List.getElem_toArray, List.getElem_cons_zero, List.getElem_cons_succ, List.setIfInBounds_toArray, List.set_cons_zero, List.set_cons_succ]
  refine wpAnyH_take (i := 6) (oi := _) (v := ?_) rfl (by kernel_rfl) (by kernel_rfl) (by kernel_rfl) (fun _ _ _ h => h) (Or.inl ⟨by rfl, ?_⟩) (by assumption) ?_
  rotate_left 1
  · (intro w hSw; (try dsimp only at hSw); (first | (go_simp; done) | (go_simp; with_reducible rfl)))
  try simp only [Act.put, List.getElem_toArray, List.getElem_cons_zero, List.getElem_cons_succ, List.setIfInBounds_toArray, List.set_cons_zero, List.set_cons_succ]
  refine wpAnyH_take (i := 7) (oi := _) (v := ?_) rfl (by kernel_rfl) (by kernel_rfl) (by kernel_rfl) (fun _ _ _ h => h) (Or.inl ⟨by rfl, ?_⟩) (by assumption) ?_
  rotate_left 1
  · (intro w hSw; (try dsimp only at hSw); (first | (go_simp; done) | (go_simp; with_reducible rfl)))
  try simp only [Act.put, List.getElem_toArray, List.getElem_cons_zero, List.getElem_cons_succ, List.setIfInBounds_toArray, List.set_cons_zero, List.set_cons_succ]
  refine wpAnyH_take (i := 8) (oi := _) (v := ?_) rfl (by kernel_rfl) (by kernel_rfl) (by kernel_rfl) (fun _ _ _ h => h) (Or.inl ⟨by rfl, ?_⟩) (by assumption) ?_
  rotate_left 1
  · (intro w hSw; (try dsimp only at hSw); (first | (go_simp; done) | (go_simp; with_reducible rfl)))
  try simp only [Act.put, List.getElem_toArray, List.getElem_cons_zero, List.getElem_cons_succ, List.setIfInBounds_toArray, List.set_cons_zero, List.set_cons_succ]
  refine wpAnyH_take (i := 9) (oi := _) (v := ?_) rfl (by kernel_rfl) (by kernel_rfl) (by kernel_rfl) (fun _ _ _ h => h) (Or.inl ⟨by rfl, ?_⟩) (by assumption) ?_
  rotate_left 1
  · (intro w hSw; (try dsimp only at hSw); (first | (go_simp; done) | (go_simp; with_reducible rfl)))
  try simp only [Act.put, List.getElem_toArray, List.getElem_cons_zero, List.getElem_cons_succ, List.setIfInBounds_toArray, List.set_cons_zero, List.set_cons_succ]
  refine wpAnyH_ready (rs := [10]) (by kernel_rfl) (by simp) ?_
  refine AllReadyH.cons (o := _) rfl (fun K hK => ?_) AllReadyH.nil
  go_simp
  (with_reducible refine Calls.mono (HO.out _ HBa.out) ?_)
  rintro r wb ⟨rfl, hrb, hbb⟩
  have HBb := hide (HBa.out.trans (hbb.mono HBa.out.size))
  have HRb := hide hrb
  have fb0 := (hbb.cell (p := ⟨XB, 0, none⟩) xla).trans fa0
  have xlb : XB < wb.heap.size := Nat.lt_of_lt_of_le xla hbb.size
  clear hbb hrb
  (try go_wp2_with fail)
  refine hK.out _ _ fb0 (fun hHeld => ?_)
  clear hK K
  try simp only [Act.put, List.getElem_toArray, List.getElem_cons_zero, List.getElem_cons_succ, List.setIfInBounds_toArray, List.set_cons_zero, List.set_cons_succ]
  refine wpAnyH_ready (rs := [11]) (by kernel_rfl) (by simp) ?_
  refine AllReadyH.cons (o := _) rfl (fun K hK => ?_) AllReadyH.nil
  go_simp
  (with_reducible refine Calls.mono (HI.out _ _ HBb.out HRb.out) ?_)
  rintro r wd ⟨rfl, hbd⟩
  have HBd := hide (HBb.out.trans (hbd.mono HBb.out.size))
  have fd0 := (hbd.cell (p := ⟨XB, 0, none⟩) xlb).trans fb0
  clear hbd
  (try go_wp2_with fail)
  refine hK.out _ _ fd0 (fun hHeld => ?_)
  clear hK K
  try simp only [Act.put, List.getElem_toArray, List.getElem_cons_zero, List.getElem_cons_succ, List.setIfInBounds_toArray, List.set_cons_zero, List.set_cons_succ]
  refine wpAnyH_take (i := 12) (oi := _) (v := ?_) rfl (by kernel_rfl) (by kernel_rfl) (by kernel_rfl) (fun _ _ _ h => h) (Or.inl ⟨by rfl, ?_⟩) (by assumption) ?_
  rotate_left 1
  · (intro w hSw; (try dsimp only at hSw); (first | (go_simp; done) | (go_simp; with_reducible rfl)))
  try simp only [Act.put, List.getElem_toArray, List.getElem_cons_zero, List.getElem_cons_succ, List.setIfInBounds_toArray, List.set_cons_zero, List.set_cons_succ]
  refine wpAnyH_take (i := 13) (oi := _) (v := ?_) rfl (by kernel_rfl) (by kernel_rfl) (by kernel_rfl) (fun _ _ _ h => h) (Or.inl ⟨by rfl, ?_⟩) (by assumption) ?_
  rotate_left 1
  · (intro w hSw; (try dsimp only at hSw); (first | (go_simp; done) | (go_simp; with_reducible rfl)))
  try simp only [Act.put, List.getElem_toArray, List.getElem_cons_zero, List.getElem_cons_succ, List.setIfInBounds_toArray, List.set_cons_zero, List.set_cons_succ]
  refine wpAnyH_done (by kernel_rfl) ?_ _
  refine NoPanic.normal ?_
  have hBK := HBd.out
  clear b0 fa0 fb0 fd0
  go_wp2_with fail
  go_ret
  exact ⟨rfl, hBK⟩

theorem implGoodV_any (vd : Value) (D : List Int) (ad : Option Addr) (c : Nat) (v : List Int) (w : World) (hD : DRow w vd D) (hl : v.length ≤ 1048576) (hR : IRow w ad v) :
    Calls Try.prog 21 #[vd, .slice ad v.length c] w fun e w' => e = .returned (.bool (goodV D v)) ∧ Below w.heap.size w w' := by
  rw [goodV_eq]
  cases hd : goodD D with
  | false => exact implGoodV_no vd D ad c v w hD hl hd
  | true =>
    by_cases h6 : v.length ≤ 60
    · rw [decide_eq_true h6]
      exact implGoodV_yes vd D ad c v w hD hR hd h6
    · rw [decide_eq_false h6]
      exact implGoodV_long vd D ad c v w hD hl hd h6

/-- What l8Value tells. -/
def VOut (w' : World) (lo : Nat) (e : Ending) : Option F → Prop
  | none => ∃ (k : Int) (sad : Option Addr) (sn sc : Nat), e = .returned (.tuple #[.agg #[.int .i64 k, .slice sad sn sc], .bool false])
  | some a => ∃ x k s, a = .cons x k .nil ∧ e = .returned (.tuple #[.agg #[.int .i64 (tcon x), s], .bool true]) ∧ KidT w' (fun g => lo ≤ g) k s

set_option maxRecDepth 20000 in
set_option maxHeartbeats 4000000 in
theorem l8Value_any (vd : Value) (D : List Int) (ad : Option Addr) (c : Nat) (v : List Int) (w : World) (hD : DRow w vd D) (hl : v.length ≤ 1048576) (hR : IRow w ad v) :
    Calls Try.prog 44 #[vd, .slice ad v.length c] w fun e w' => Below w.heap.size w w' ∧ VOut w' w.heap.size e (valT D v) := by
  obtain ⟨T, hT⟩ : ∃ T, T = valT D v := ⟨_, rfl⟩
  rw [← hT]
  have HT := hide hT
  clear hT
  have HG := hide (fun (w' : World) (hb : Below w.heap.size w w') => specGoodD_any vd D w' (hD.below hb))
  have HRd := hide (fun (w' : World) (hb : Below w.heap.size w w') (hd : goodD D = true) => l8ReadVal_all v.length vd D ad c v (v.map oP) (hide rfl) 0 w' hl hd (hD.below hb) (RRow.below hR hb) (by omega) (by omega))
  unfold RdGoal at HRd
  simp only [List.drop_zero, List.length_map] at HRd
  obtain ⟨da, dc, rfl, -, hDl⟩ := hD
  clear hR
  have HB0 := hide (show Below w.heap.size w ((w.alloc (.cells #[.slice da D.length dc] 27)).alloc (.cells #[.int .i64 0, .slice none 0 0] 71)) from ((Below.refl _ _).alloc (Nat.le_refl _) _).alloc (by simp) _)
  have HX0 := hide ((Bx.new w #[.slice da D.length dc] 27).alloc (.cells #[.int .i64 0, .slice none 0 0] 71))
  have HX1 := hide (Bx.new (w.alloc (.cells #[.slice da D.length dc] 27)) #[.int .i64 0, .slice none 0 0] 71)
  rw [show (w.alloc (.cells #[.slice da D.length dc] 27)).heap.size = w.heap.size + 1 by simp] at HX1
  go_enter Try.func44, Try.ntmps44
  go_wp2_with fail
  refine Calls.mono (HG.out _ HB0.out) ?_
  rintro e w1 ⟨rfl, hb1⟩
  have hB1 : Below w.heap.size w w1 := HB0.out.trans (hb1.mono HB0.out.size)
  have X0 := HX0.out.below hb1 HX0.out.lt
  have X1 := HX1.out.below hb1 HX1.out.lt
  have H0 := hide X0
  have H1 := hide X1
  have l0 : w.heap.size < w1.heap.size := X0.lt
  have l1 : w.heap.size + 1 < w1.heap.size := X1.lt
  clear hb1 HB0 HX0 HX1 X0 X1 HG
  cases hd : goodD D with
  | false =>
    have e1 : T = none := by rw [HT.out]; unfold valT; rw [if_neg (by rw [hd]; simp)]
    subst e1
    have zf := H1.out.f
    have zc := H1.out.c
    clear hd
    go_wp2_with fail
    exact bodyPost_ret (v := .tuple #[.agg #[.int .i64 0, .slice none 0 0], .bool false]) (by simp [results, Try.results44, go_sem, *]) rfl ⟨(hB1.setCell (p := ⟨w.heap.size + 1, 0, none⟩) (by simp) _).setCell (p := ⟨w.heap.size + 1, 1, none⟩) (by simp) _, _, _, _, _, rfl⟩
  | true =>
    by_cases h6 : v.length ≤ 60
    · have h6' : (v.length : Int) ≤ 60 := by omega
      have h6n : ¬ (60 : Int) < (v.length : Int) := by omega
      have cx := H0.out.c
      have HV := hide (HRd.out w1 hB1 hd)
      have hT : T = treeT D 60 (v.map oP) := by rw [HT.out]; unfold valT; rw [if_pos hd]
      have HTt := hide hT
      clear hd hT HT HRd
      go_wp2_with fail
      refine Calls.mono HV.out ?_
      rintro e w2 ⟨hb2, ho2⟩
      have hB2 : Below w.heap.size w w2 := hB1.trans (hb2.mono hB1.size)
      have K1 := H1.out.below hb2 l1
      have zf := K1.f
      have zc := K1.c
      have l2 : w.heap.size + 1 < w2.heap.size := K1.lt
      have hz12 := hb2.size
      clear hb2 cx H0 H1
      cases hr : rt D 1 (v.map oP) with
      | none =>
        rw [hr] at ho2
        have e1 : T = none := by rw [HTt.out]; unfold treeT; rw [if_pos (by simpa using h6), hr]
        subst e1
        have ho2' : e = .returned (.tuple #[.agg #[.int .i64 0, .slice none 0 0], .int .i64 0]) := ho2
        subst ho2'
        clear ho2 hr
        go_wp2_with fail
        exact bodyPost_ret (v := .tuple #[.agg #[.int .i64 0, .slice none 0 0], .bool false]) (by simp [results, Try.results44, go_sem, *]) rfl ⟨((hB2.setCell (p := ⟨w.heap.size + 1, 0, none⟩) (by simp) _).setCell (p := ⟨w.heap.size + 1, 1, none⟩) (by simp) _).alloc (by simp [World.setCell]; omega) _, _, _, _, _, rfl⟩
      | some q =>
        obtain ⟨a, r⟩ := q
        rw [hr] at ho2
        obtain ⟨x, k, s, rfl, rfl, hTr⟩ := ho2
        have hrf := rt_flat hr
        have hrl : r.length < v.length := by have := congrArg List.length hrf.1; simp [F.flat] at this; omega
        obtain ⟨sad, sc, rfl⟩ := hTr.form
        obtain ⟨sn, hsn⟩ : ∃ sn, sn = k.len := ⟨_, rfl⟩
        rw [← hsn] at hTr ⊢
        have HTr := hide hTr
        obtain ⟨X, hX⟩ : ∃ X, X = tcon x := ⟨_, rfl⟩
        rw [← hX]
        have HX := hide hX
        clear hTr hsn hrf hX
        by_cases hr0 : r.length = 0
        · have e1 : T = some (.cons x k .nil) := by
            rw [HTt.out]; unfold treeT; rw [if_pos (by simpa using h6), hr, List.length_eq_zero_iff.1 hr0]
          subst e1
          have he : ((v.length - r.length : Nat) : Int) = (v.length : Int) := by omega
          rw [he]
          have hpos : (0 : Int) < (v.length : Int) := by omega
          clear hr he
          go_wp2_with fail
          refine bodyPost_ret (v := .tuple #[.agg #[.int .i64 X, .slice sad sn sc], .bool true]) (by simp [results, Try.results44, go_sem, *]) rfl ⟨((hB2.setCell (p := ⟨w.heap.size + 1, 0, none⟩) (by simp) _).setCell (p := ⟨w.heap.size + 1, 1, none⟩) (by simp) _).alloc (by simp [World.setCell]; omega) _, x, k, .slice sad sn sc, rfl, by rw [HX.out], ?_⟩
          refine HTr.out.keep (by simp [World.setCell]) (fun g hk1 hk2 => ?_)
          have hkn : g ≠ w.heap.size + 1 := by omega
          exact ⟨by rw [heap_alloc_old _ _ (by simp [World.setCell]; omega), Below.heap_setCell _ _ _ _ hkn, Below.heap_setCell _ _ _ _ hkn], by omega⟩
        · have e1 : T = none := by
            rw [HTt.out]; unfold treeT; rw [if_pos (by simpa using h6), hr]
            cases r with
            | nil => simp at hr0
            | cons y r => rfl
          subst e1
          have hne : ¬ ((v.length - r.length : Nat) : Int) = (v.length : Int) := by omega
          have hpos : (0 : Int) < ((v.length - r.length : Nat) : Int) := by omega
          obtain ⟨E1, hE1⟩ : ∃ E1, E1 = v.length - r.length := ⟨_, rfl⟩
          rw [← hE1] at hne hpos ⊢
          have hnb : ((E1 : Int) == (v.length : Int)) = false := by simp; omega
          clear hr hE1
          go_wp2_with fail
          exact bodyPost_ret (v := .tuple #[.agg #[.int .i64 X, .slice sad sn sc], .bool false]) (by simp [results, Try.results44, go_sem, *]) rfl ⟨((hB2.setCell (p := ⟨w.heap.size + 1, 0, none⟩) (by simp) _).setCell (p := ⟨w.heap.size + 1, 1, none⟩) (by simp) _).alloc (by simp [World.setCell]; omega) _, _, _, _, _, rfl⟩
    · have h6' : (60 : Int) < (v.length : Int) := by omega
      have e1 : T = none := by rw [HT.out]; unfold valT; rw [if_pos hd]; unfold treeT; rw [if_neg (by simpa using h6)]
      subst e1
      have zf := H1.out.f
      have zc := H1.out.c
      clear hd
      go_wp2_with fail
      exact bodyPost_ret (v := .tuple #[.agg #[.int .i64 0, .slice none 0 0], .bool false]) (by simp [results, Try.results44, go_sem, *]) rfl ⟨(hB1.setCell (p := ⟨w.heap.size + 1, 0, none⟩) (by simp) _).setCell (p := ⟨w.heap.size + 1, 1, none⟩) (by simp) _, _, _, _, _, rfl⟩

set_option maxHeartbeats 1000000 in
theorem specGoodV_any (vd : Value) (D : List Int) (ad : Option Addr) (c : Nat) (v : List Int) (w : World) (hD : DRow w vd D) (hl : v.length ≤ 1048576) (hR : IRow w ad v) :
    Calls Try.prog 19 #[vd, .slice ad v.length c] w fun e w' => e = .returned (.bool (goodV D v)) ∧ Below w.heap.size w w' := by
  unfold goodV
  have HC := hide (fun (w' : World) (hb : Below w.heap.size w w') => l8Value_any vd D ad c v w' (hD.below hb) hl (RRow.below hR hb))
  obtain ⟨T, hT⟩ : ∃ T, T = valT D v := ⟨_, rfl⟩
  rw [← hT] at HC ⊢
  obtain ⟨da, dc, rfl, -, hDl⟩ := hD
  clear hT hR
  have HB0 := hide (show Below w.heap.size w (w.alloc (.cells #[.slice da D.length dc] 27)) from (Below.refl _ _).alloc (Nat.le_refl _) _)
  go_enter Try.func19, Try.ntmps19
  go_wp2_with fail
  refine Calls.mono (HC.out _ HB0.out) ?_
  rintro e w1 ⟨hb1, ho⟩
  have hB1 : Below w.heap.size w w1 := HB0.out.trans (hb1.mono HB0.out.size)
  clear HC HB0 hb1
  cases T with
  | none =>
    obtain ⟨k, sad, sn, sc, rfl⟩ := ho
    go_wp2_with fail
    go_ret
    exact ⟨rfl, hB1.alloc hB1.size _⟩
  | some t =>
    obtain ⟨x, k, s, -, rfl, hT⟩ := ho
    obtain ⟨sad, sc, rfl⟩ := hT.form
    clear hT
    go_wp2_with fail
    go_ret
    exact ⟨rfl, hB1.alloc hB1.size _⟩
end Go.Proofs.Ytfepljcblajfpaa.W

/-
  l13Rights and CodeFor of the specification: contracts. Conditions: at most 1048576 cells. Written by wip/build/mk_ply.py.
-/
import Derived.Test.YtiphcjbmoekkkaaPlN
namespace Go.Proofs.Ytiphcjbmoekkkaa.L
open Go.Proofs.Ytiphcjbmoekkkaa.W
open Go.ChangeShapes Go.WideShapes Go.ChangeAt Go.RowKit
set_option linter.unusedVariables false
set_option linter.unusedSimpArgs false

def SRt (B n c : Nat) (t : Tr) : Prop := ∀ (u : Value) (i : Nat) (P : Nat → Prop) (w : World) (cur : Array Value), t.ok → t.flat.length ≤ 1048576 → TV w P t i u → (∀ k, P k → k < w.heap.size → k ≠ B) → B < w.heap.size → w.heap[B]? = some (.cells cur 4 (0, 0)) → cur.size = n → i + t.flat.length ≤ n → (∀ k, i ≤ k → k < i + t.flat.length → cur[k]? = some (.bool false)) →
    Calls Try.prog 41 #[u, .slice (some ⟨B, 0, none⟩) n c] w fun e w' => (∃ v, e = .returned v) ∧ ∃ cur' : Array Value, w'.heap[B]? = some (.cells cur' 4 (0, 0)) ∧ cur'.size = n ∧ (∀ k, i ≤ k → k < i + t.flat.length → cur'[k]? = (t.rl[k - i]?).map Value.bool) ∧ (∀ k, (k < i ∨ i + t.flat.length ≤ k) → cur'[k]? = cur[k]?) ∧ w.grownBy w' (some B)

set_option maxRecDepth 20000 in
set_option maxHeartbeats 4000000 in
theorem rights_any (B n c : Nat) (hnl : n ≤ 1048576) : ∀ t, SRt B n c t := by
  intro t
  induction t with
  | ld x =>
    intro u i P w cur hok hlen hT hsep hBl hcu hcs hin hfl
    obtain rfl : u = .agg #[.int .i64 1, .int .i64 x, .int .i64 (i : Int), .slice none 0 0] := hT
    have hf := hfl i (Nat.le_refl _) (by simp [Tr.flat])
    have HH := hide (And.intro hcu (And.intro hcs hf))
    have hc2 : (w.alloc (.cells #[.int .i64 1, .int .i64 x, .int .i64 (i : Int), .slice none 0 0] 51)).heap[B]? = some (.cells cur 4 (0, 0)) := (heap_alloc_old _ _ hBl).trans hcu
    have HC := hide hc2
    clear hcu hcs hf hc2 hfl
    go_enter Try.func41, Try.ntmps41
    go_wp2_with fail
    refine bodyPost_ret (results_none rfl _ _ _) rfl ⟨⟨_, rfl⟩, cur, HC.out, HH.out.2.1, fun k h1 h2 => ?_, fun _ _ => rfl, World.grownBy_alloc w _ _⟩
    simp only [Tr.flat, List.length_singleton] at h2
    obtain rfl : k = i := by omega
    rw [HH.out.2.2, Nat.sub_self]
    rfl
  | op k1 a b iha ihb =>
    intro u i P w cur hok hlen hT hsep hBl hcu hcs hin hfl
    obtain ⟨g, cap, aad, al, ac, bad, bl, bc, pa, pb, rfl, hP, hg, hc, h1, h2⟩ := hT.two
    have hl : (Tr.op k1 a b).flat.length = 1 + (a.flat.length + b.flat.length) := by simp [Tr.flat]; omega
    rw [hl] at hlen hin hfl
    have ho1 := op_ne hok.1
    have hgB : g ≠ B := hsep g hP hg
    have hpa := a.flat_pos
    have hpb := b.flat_pos
    have hil : (i : Int) < (n : Int) := by omega
    have hi0 : (0 : Int) ≤ (i : Int) := by omega
    have hiln : i < n := by omega
    obtain ⟨WA, hWA⟩ : ∃ WA, WA = w.alloc (.cells #[.int .i64 k1, .int .i64 0, .int .i64 (i : Int), .slice (some ⟨g, 0, none⟩) 2 cap] 51) := ⟨_, rfl⟩
    have hsA : WA.heap.size = w.heap.size + 1 := by rw [hWA]; simp
    have hbA : Below w.heap.size w WA := by rw [hWA]; exact (Below.refl _ _).alloc (Nat.le_refl _) _
    have hx : WA.heap[w.heap.size]? = some (.cells #[.int .i64 k1, .int .i64 0, .int .i64 (i : Int), .slice (some ⟨g, 0, none⟩) 2 cap] 51 (0, 0)) := by rw [hWA]; exact heap_alloc_new w _
    have hcA : WA.heap[B]? = some (.cells cur 4 (0, 0)) := (hbA.block B hBl).trans hcu
    obtain ⟨q0, q1, q2, q3, q4, q5, q6, q7⟩ := hc _ hbA
    have x0 := (cell_of_blk hx 0).trans rfl
    have hxb2 := (cell_of_blk hx 2).trans rfl
    have hxb3 := (cell_of_blk hx 3).trans rfl
    have HAll : Hid (∀ W1 : World, (∀ k, k < WA.heap.size → k ≠ B → W1.heap[k]? = WA.heap[k]?) → W1.cell? ⟨w.heap.size, 2, none⟩ = some (.int .i64 (i : Int)) ∧ W1.cell? ⟨w.heap.size, 3, none⟩ = some (.slice (some ⟨g, 0, none⟩) 2 cap) ∧ W1.cell? ⟨g, 0, none⟩ = some (.int .i64 a.x.k) ∧ W1.cell? ⟨g, 1, none⟩ = some (.int .i64 a.x.n) ∧ W1.cell? ⟨g, 2, none⟩ = some (.int .i64 pa) ∧ W1.cell? ⟨g, 3, none⟩ = some (.slice aad al ac) ∧ W1.cell? ⟨g, 4, none⟩ = some (.int .i64 b.x.k) ∧ W1.cell? ⟨g, 5, none⟩ = some (.int .i64 b.x.n) ∧ W1.cell? ⟨g, 6, none⟩ = some (.int .i64 pb) ∧ W1.cell? ⟨g, 7, none⟩ = some (.slice bad bl bc)) := hide (fun W1 h =>
      have e1 := h w.heap.size (by omega) (by omega)
      have e2 := h g (by omega) hgB
      ⟨(World.cell?_of_block (w := WA) e1).trans hxb2, (World.cell?_of_block (w := WA) e1).trans hxb3, (World.cell?_of_block (w := WA) e2).trans q0, (World.cell?_of_block (w := WA) e2).trans q1, (World.cell?_of_block (w := WA) e2).trans q2, (World.cell?_of_block (w := WA) e2).trans q3, (World.cell?_of_block (w := WA) e2).trans q4, (World.cell?_of_block (w := WA) e2).trans q5, (World.cell?_of_block (w := WA) e2).trans q6, (World.cell?_of_block (w := WA) e2).trans q7⟩)
    have HPa := hide (fun (W1 : World) (hb : Below w.heap.size w W1) => l13Places_any a _ _ _ W1 hok.2.1 (by omega) (h1 W1 hb))
    have HPb := hide (fun (W1 : World) (hb : Below w.heap.size w W1) => l13Places_any b _ _ _ W1 hok.2.2 (by omega) (h2 W1 hb))
    have HWA := hide hWA
    have HbA := hide hbA
    have HcA := hide hcA
    have hsepA : ∀ k, P k → k < w.heap.size → k ≠ B := hsep
    have HTa := hide (h1 w (Below.refl _ _))
    have HTb := hide (h2 w (Below.refl _ _))
    obtain ⟨D, hD⟩ : ∃ D, D = decide (a.plc < b.plc) := ⟨_, rfl⟩
    have hrl : (Tr.op k1 a b).rl = D :: (a.rl ++ b.rl) := by rw [hD]; rfl
    have HRl := hide hrl
    have HD := hide hD
    have HFl := hide hfl
    have HSep := hide hsep
    have HOk := hide hok
    have HIha := hide iha
    have HIhb := hide ihb
    have HCs := hide hcs
    have hpab := a.plc_le
    have hpbb := b.plc_le
    obtain ⟨PA, hPA⟩ : ∃ PA, PA = a.plc := ⟨_, rfl⟩
    obtain ⟨PB, hPB⟩ : ∃ PB, PB = b.plc := ⟨_, rfl⟩
    rw [← hPA] at HPa hpab
    rw [← hPB] at HPb hpbb
    rw [← hPA, ← hPB] at HD
    have hpa2 : PA ≤ 1048576 := by omega
    have hpb2 : PB ≤ 1048576 := by omega
    clear hT hc h1 h2 hWA hbA hcA hrl hD hfl hsep hsepA hok iha ihb hx hxb2 hxb3 q0 q1 q2 q3 q4 q5 q6 q7 hPA hPB hpab hpbb hcs hl
    go_enter Try.func41, Try.ntmps41
    go_wp2_with (rw [← HWA.out])
    refine wp_region_noPanic ?_
    refine wp_region_held_drew (S := fun W1 => W1.cell? ⟨w.heap.size, 2, none⟩ = some (.int .i64 (i : Int)) ∧ W1.cell? ⟨w.heap.size, 3, none⟩ = some (.slice (some ⟨g, 0, none⟩) 2 cap) ∧ W1.cell? ⟨g, 0, none⟩ = some (.int .i64 a.x.k) ∧ W1.cell? ⟨g, 1, none⟩ = some (.int .i64 a.x.n) ∧ W1.cell? ⟨g, 2, none⟩ = some (.int .i64 pa) ∧ W1.cell? ⟨g, 3, none⟩ = some (.slice aad al ac) ∧ W1.cell? ⟨g, 4, none⟩ = some (.int .i64 b.x.k) ∧ W1.cell? ⟨g, 5, none⟩ = some (.int .i64 b.x.n) ∧ W1.cell? ⟨g, 6, none⟩ = some (.int .i64 pb) ∧ W1.cell? ⟨g, 7, none⟩ = some (.slice bad bl bc)) (by kernel_rfl) (HAll.out _ (fun _ _ _ => rfl)) (fun hHeld => ?_)
    have hbD : Below WA.heap.size WA WA.drew := ⟨rfl, rfl, rfl, Nat.le_refl _, fun _ _ => rfl⟩
    have HbD := hide hbD
    clear hbD
    refine wpAnyH_take (i := 0) (oi := _) (v := ?_) rfl (by kernel_rfl) (by kernel_rfl) (by kernel_rfl) (fun _ _ _ h => h) (Or.inl ⟨by rfl, ?_⟩) (by assumption) ?_
    rotate_left 1
    · (intro w hSw; (try dsimp only at hSw); (first | (go_simp; done) | (go_simp; with_reducible rfl)))
    try simp only [Act.put, List.getElem_toArray, List.getElem_cons_zero, List.getElem_cons_succ, List.setIfInBounds_toArray, List.set_cons_zero, List.set_cons_succ]
    refine wpAnyH_take (i := 1) (oi := _) (v := ?_) rfl (by kernel_rfl) (by kernel_rfl) (by kernel_rfl) (fun _ _ _ h => h) (Or.inl ⟨by rfl, ?_⟩) (by assumption) ?_
    rotate_left 1
    · (intro w hSw; (try dsimp only at hSw); (first | (go_simp; done) | (go_simp; with_reducible rfl)))
    try simp only [Act.put, List.getElem_toArray, List.getElem_cons_zero, List.getElem_cons_succ, List.setIfInBounds_toArray, List.set_cons_zero, List.set_cons_succ]
    refine wpAnyH_take (i := 2) (oi := _) (v := ?_) rfl (by kernel_rfl) (by kernel_rfl) (by kernel_rfl) (fun _ _ _ h => h) (Or.inl ⟨by rfl, ?_⟩) (by assumption) ?_
    rotate_left 1
    · (intro w hSw; (try dsimp only at hSw); (first | (go_simp; done) | (go_simp; with_reducible rfl)))
    try simp only [Act.put, List.getElem_toArray, List.getElem_cons_zero, List.getElem_cons_succ, List.setIfInBounds_toArray, List.set_cons_zero, List.set_cons_succ]
    refine wpAnyH_take (i := 3) (oi := _) (v := ?_) rfl (by kernel_rfl) (by kernel_rfl) (by kernel_rfl) (fun _ _ _ h => h) (Or.inl ⟨by rfl, ?_⟩) (by assumption) ?_
    rotate_left 1
    · (intro w hSw; (try dsimp only at hSw); (first | (go_simp; done) | (go_simp; with_reducible rfl)))
    try simp only [Act.put, List.getElem_toArray, List.getElem_cons_zero, List.getElem_cons_succ, List.setIfInBounds_toArray, List.set_cons_zero, List.set_cons_succ]
    refine wpAnyH_take (i := 4) (oi := _) (v := ?_) rfl (by kernel_rfl) (by kernel_rfl) (by kernel_rfl) (fun _ _ _ h => h) (Or.inl ⟨by rfl, ?_⟩) (by assumption) ?_
    rotate_left 1
    · (intro w hSw; (try dsimp only at hSw); (first | (go_simp; done) | (go_simp; with_reducible rfl)))
    try simp only [Act.put, List.getElem_toArray, List.getElem_cons_zero, List.getElem_cons_succ, List.setIfInBounds_toArray, List.set_cons_zero, List.set_cons_succ]
    refine wpAnyH_take (i := 5) (oi := _) (v := ?_) rfl (by kernel_rfl) (by kernel_rfl) (by kernel_rfl) (fun _ _ _ h => h) (Or.inl ⟨by rfl, ?_⟩) (by assumption) ?_
    rotate_left 1
    · (intro w hSw; (try dsimp only at hSw); (first | (go_simp; done) | (go_simp; with_reducible rfl)))
    try simp only [Act.put, List.getElem_toArray, List.getElem_cons_zero, List.getElem_cons_succ, List.setIfInBounds_toArray, List.set_cons_zero, List.set_cons_succ]
    refine wpAnyH_take (i := 6) (oi := _) (v := ?_) rfl (by kernel_rfl) (by kernel_rfl) (by kernel_rfl) (fun _ _ _ h => h) (Or.inl ⟨by rfl, ?_⟩) (by assumption) ?_
    rotate_left 1
    · (intro w hSw; (try dsimp only at hSw); (first | (go_simp; done) | (go_simp; with_reducible rfl)))
    try simp only [Act.put, List.getElem_toArray, List.getElem_cons_zero, List.getElem_cons_succ, List.setIfInBounds_toArray, List.set_cons_zero, List.set_cons_succ]
    refine wpAnyH_take (i := 8) (oi := _) (v := ?_) rfl (by kernel_rfl) (by kernel_rfl) (by kernel_rfl) (fun _ _ _ h => h) (Or.inl ⟨by rfl, ?_⟩) (by assumption) ?_
    rotate_left 1
    · (intro w hSw; (try dsimp only at hSw); (first | (go_simp; done) | (go_simp; with_reducible rfl)))
    try simp only [Act.put, List.getElem_toArray, List.getElem_cons_zero, List.getElem_cons_succ, List.setIfInBounds_toArray, List.set_cons_zero, List.set_cons_succ]
    refine wpAnyH_take (i := 9) (oi := _) (v := ?_) rfl (by kernel_rfl) (by kernel_rfl) (by kernel_rfl) (fun _ _ _ h => h) (Or.inl ⟨by rfl, ?_⟩) (by assumption) ?_
    rotate_left 1
    · (intro w hSw; (try dsimp only at hSw); (first | (go_simp; done) | (go_simp; with_reducible rfl)))
    try simp only [Act.put, List.getElem_toArray, List.getElem_cons_zero, List.getElem_cons_succ, List.setIfInBounds_toArray, List.set_cons_zero, List.set_cons_succ]
    refine wpAnyH_take (i := 10) (oi := _) (v := ?_) rfl (by kernel_rfl) (by kernel_rfl) (by kernel_rfl) (fun _ _ _ h => h) (Or.inl ⟨by rfl, ?_⟩) (by assumption) ?_
    rotate_left 1
    · (intro w hSw; (try dsimp only at hSw); (first | (go_simp; done) | (go_simp; with_reducible rfl)))
    try simp only [Act.put, List.getElem_toArray, List.getElem_cons_zero, List.getElem_cons_succ, List.setIfInBounds_toArray, List.set_cons_zero, List.set_cons_succ]
    refine wpAnyH_take (i := 11) (oi := _) (v := ?_) rfl (by kernel_rfl) (by kernel_rfl) (by kernel_rfl) (fun _ _ _ h => h) (Or.inl ⟨by rfl, ?_⟩) (by assumption) ?_
    rotate_left 1
    · (intro w hSw; (try dsimp only at hSw); (first | (go_simp; done) | (go_simp; with_reducible rfl)))
    try simp only [Act.put, List.getElem_toArray, List.getElem_cons_zero, List.getElem_cons_succ, List.setIfInBounds_toArray, List.set_cons_zero, List.set_cons_succ]
    refine wpAnyH_ready (rs := [7]) (by kernel_rfl) (by simp) ?_
    refine AllReadyH.cons (o := _) rfl (fun K hK => ?_) AllReadyH.nil
    go_simp
    (with_reducible refine Calls.mono (HPb.out _ (HbA.out.trans (HbD.out.mono HbA.out.size))) ?_)
    rintro r W1 ⟨rfl, hb1⟩
    have HbW1 : Hid (Below WA.heap.size WA W1) := hide (HbD.out.trans (hb1.mono HbD.out.size))
    clear hb1
    (try go_wp2_with fail)
    refine hK.out _ _ (HAll.out _ (fun k h1 _ => HbW1.out.block k h1)) (fun hHeld => ?_)
    clear hK K
    try simp only [Act.put, List.getElem_toArray, List.getElem_cons_zero, List.getElem_cons_succ, List.setIfInBounds_toArray, List.set_cons_zero, List.set_cons_succ]
    refine wpAnyH_ready (rs := [12]) (by kernel_rfl) (by simp) ?_
    refine AllReadyH.cons (o := _) rfl (fun K hK => ?_) AllReadyH.nil
    go_simp
    (with_reducible refine Calls.mono (HPa.out _ (HbA.out.trans (HbW1.out.mono HbA.out.size))) ?_)
    rintro r W2 ⟨rfl, hb1⟩
    have HbW2 : Hid (Below WA.heap.size WA W2) := hide (HbW1.out.trans (hb1.mono HbW1.out.size))
    clear hb1
    (try go_wp2_with fail)
    refine hK.out _ _ (HAll.out _ (fun k h1 _ => HbW2.out.block k h1)) (fun hHeld => ?_)
    clear hK K
    try simp only [Act.put, List.getElem_toArray, List.getElem_cons_zero, List.getElem_cons_succ, List.setIfInBounds_toArray, List.set_cons_zero, List.set_cons_succ]
    refine wpAnyH_take (i := 13) (oi := _) (v := ?_) rfl (by kernel_rfl) (by kernel_rfl) (by kernel_rfl) (fun _ _ _ h => h) (Or.inl ⟨by rfl, ?_⟩) (by assumption) ?_
    rotate_left 1
    · (intro w hSw; (try dsimp only at hSw); (first | (go_simp; done) | (go_simp; with_reducible rfl)))
    try simp only [Act.put, List.getElem_toArray, List.getElem_cons_zero, List.getElem_cons_succ, List.setIfInBounds_toArray, List.set_cons_zero, List.set_cons_succ]
    refine wpAnyH_take (i := 14) (oi := _) (v := ?_) rfl (by kernel_rfl) (by kernel_rfl) (by kernel_rfl) (fun _ _ _ h => h) (Or.inl ⟨by rfl, ?_⟩) (by assumption) ?_
    rotate_left 1
    · (intro w hSw; (try dsimp only at hSw); (first | (go_simp; done) | (go_simp; with_reducible rfl)))
    try simp only [Act.put, List.getElem_toArray, List.getElem_cons_zero, List.getElem_cons_succ, List.setIfInBounds_toArray, List.set_cons_zero, List.set_cons_succ]
    have hcW := (HbW2.out.block B (by omega)).trans HcA.out
    have t0 := (cell_of_blk hcW i).trans (HFl.out i (Nat.le_refl _) (by omega))
    have tf := unfrozen_of_blk hcW i
    have HcW := hide hcW
    clear hcW
    refine wpAnyH_ready (rs := [15]) (by kernel_rfl) (by simp) ?_
    refine AllReadyH.cons (o := _) rfl (fun K hK => ?_) AllReadyH.nil
    go_simp
    refine hK.out _ _ (HAll.out _ (fun k h1 h2 => (Below.heap_setCell W2 _ _ _ h2).trans (HbW2.out.block k h1))) (fun hHeld => ?_)
    clear hK K
    try simp only [Act.put, List.getElem_toArray, List.getElem_cons_zero, List.getElem_cons_succ, List.setIfInBounds_toArray, List.set_cons_zero, List.set_cons_succ]
    refine wpAnyH_done (by kernel_rfl) ?_ _
    refine NoPanic.normal ?_
    clear hHeld
    obtain ⟨WS, hWS⟩ : ∃ WS, WS = W2.setCell ⟨B, i, none⟩ (.bool (decide (PA < PB))) := ⟨_, rfl⟩
    have hsS : WS.heap.size = W2.heap.size := by rw [hWS]; simp [World.setCell]
    have hS2 : ∀ k, k ≠ B → WS.heap[k]? = W2.heap[k]? := fun k hk => by rw [hWS]; exact Below.heap_setCell W2 _ _ _ hk
    have hcS : WS.heap[B]? = some (.cells (cur.setIfInBounds i (.bool D)) 4 (0, 0)) := by rw [hWS, HD.out]; exact blk_setCell HcW.out _
    have hgS : W2.grownBy WS (some B) := ⟨by rw [hWS]; rfl, by rw [hWS]; rfl, by rw [hWS]; rfl, Nat.le_of_eq hsS.symm, fun k _ hne => hS2 k (fun e => hne (by rw [e]))⟩
    have hs2 := HbW2.out.size
    have hSx : ∀ k, k < WA.heap.size → k ≠ B → WS.heap[k]? = WA.heap[k]? := fun k h1 h2 => (hS2 k h2).trans (HbW2.out.block k h1)
    obtain ⟨-, x3, k0, kk1, kk2, k3, k4, k5, k6, k7⟩ := HAll.out WS hSx
    rw [← hWS]
    have HSx := hide hSx
    have HgS : Hid (w.grownBy WS (some B)) := hide (grownT (grownT (r := some B) ⟨HbA.out.os, HbA.out.tape, HbA.out.output, HbA.out.size, fun k hk _ => HbA.out.block k hk⟩ (grownOfB (row := some B) HbW2.out) (fun k hk => .inl hk)) hgS (fun k hk => .inl hk))
    have HIa := hide (HIha.out (.agg #[.int .i64 a.x.k, .int .i64 a.x.n, .int .i64 pa, .slice aad al ac]) (i + 1) (fun k => P k ∧ k < w.heap.size) WS (cur.setIfInBounds i (.bool D)) HOk.out.2.1 (by omega) (HTa.out.keep (w' := WS) (P' := fun k => P k ∧ k < w.heap.size) HgS.out.size (fun k hp hk => ⟨HgS.out.block k hk (fun e => HSep.out k hp hk (by simpa using e)), hp, hk⟩)) (fun k hp _ => HSep.out k hp.1 hp.2) (by omega) hcS (by simp [HCs.out]) (by omega) (fun k h1 h2 => by rw [Array.getElem?_setIfInBounds_ne (by omega)]; exact HFl.out k (by omega) (by omega)))
    clear hWS hS2 hcS hgS hSx HcW t0 tf
    go_wp2_with fail
    refine HIa.out.mono ?_
    rintro e W3 ⟨⟨v3, rfl⟩, cur3, hc3, hs3, hr3, ho3, hg3⟩
    have hs3' := hg3.size
    have HS3 := hide (fun k (h1 : k < WA.heap.size) (h2 : k ≠ B) => (hg3.block k (by omega) (fun e => h2 (by simpa using e))).trans (HSx.out k h1 h2))
    obtain ⟨-, y3, l0, l1, l2, l3, l4, l5, l6, l7⟩ := HAll.out W3 HS3.out
    have HgS3 : Hid (w.grownBy W3 (some B)) := hide (grownT HgS.out hg3 (fun k hk => .inl hk))
    have HIb := hide (HIhb.out (.agg #[.int .i64 b.x.k, .int .i64 b.x.n, .int .i64 pb, .slice bad bl bc]) (i + 1 + a.flat.length) (fun k => P k ∧ k < w.heap.size) W3 cur3 HOk.out.2.2 (by omega) (HTb.out.keep (w' := W3) (P' := fun k => P k ∧ k < w.heap.size) HgS3.out.size (fun k hp hk => ⟨HgS3.out.block k hk (fun e => HSep.out k hp hk (by simpa using e)), hp, hk⟩)) (fun k hp _ => HSep.out k hp.1 hp.2) (by omega) hc3 hs3 (by omega) (fun k h1 h2 => by rw [ho3 k (.inr (by omega)), Array.getElem?_setIfInBounds_ne (by omega)]; exact HFl.out k (by omega) (by omega)))
    have HR3 := hide hr3
    have HO3 := hide ho3
    clear hc3 hs3 hr3 ho3 hg3 x3 k0 kk1 kk2 k3 k4 k5 k6 k7 HIa
    go_wp2_with fail
    refine HIb.out.mono ?_
    rintro e W4 ⟨⟨v4, rfl⟩, cur4, hc4, hs4, hr4, ho4, hg4⟩
    have H4 := hide (And.intro hc4 (And.intro hs4 (And.intro hr4 (And.intro ho4 hg4))))
    clear hc4 hs4 hr4 ho4 hg4 y3 l0 l1 l2 l3 l4 l5 l6 l7 HIb
    go_wp2_with fail
    have hl : (Tr.op k1 a b).flat.length = 1 + (a.flat.length + b.flat.length) := by simp [Tr.flat]; omega
    go_end0
    refine ⟨⟨_, rfl⟩, cur4, H4.out.1, H4.out.2.1, fun k h1 h2 => ?_, fun k h1 => ?_, grownT HgS3.out H4.out.2.2.2.2 (fun k hk => .inl hk)⟩
    · rw [hl] at h2
      rw [HRl.out]
      by_cases hki : k = i
      · subst hki
        rw [H4.out.2.2.2.1 k (.inl (by omega)), HO3.out k (.inl (by omega)), Array.getElem?_setIfInBounds, if_pos rfl, if_pos (by have := HCs.out; omega), Nat.sub_self]
        rfl
      · have e : k - i = (k - (i + 1)) + 1 := by omega
        rw [e, List.getElem?_cons_succ]
        by_cases hka : k < i + 1 + a.flat.length
        · rw [H4.out.2.2.2.1 k (.inl (by omega)), HR3.out k (by omega) (by omega), List.getElem?_append_left (by rw [Tr.rl_len]; omega)]
        · rw [H4.out.2.2.1 k (by omega) (by omega), List.getElem?_append_right (by rw [Tr.rl_len]; omega), Tr.rl_len, show k - (i + 1) - a.flat.length = k - (i + 1 + a.flat.length) by omega]
    · rw [hl] at h1
      rw [H4.out.2.2.2.1 k (by omega), HO3.out k (by omega), Array.getElem?_setIfInBounds_ne (by omega)]

set_option maxRecDepth 20000 in
set_option maxHeartbeats 4000000 in
theorem specCodeFor_any (ad : Option Addr) (c : Nat) (l : List Cc) (w : World) (hl : l.length ≤ 1048576) (h : CRow w ad l) :
    Calls Try.prog 16 #[.slice ad l.length c] w fun e w' => ∃ v, e = .returned (.tuple #[v, .int .i64 (cfN l : Int), .bool (goodT l)]) ∧ w'.ownsRow w.heap.size 74 5 v (cfL l).length (dv (cfL l)) ∧ Below w.heap.size w w' := by
  cases hg : goodT l with
  | false =>
    rw [(cf_bad hg).1, (cf_bad hg).2]
    have HN : Hid (∀ w' : World, w'.ownsRow w.heap.size 74 5 (.slice none 0 0) 0 (dv [])) := hide (fun w' => World.ownsRow_nil _ _ _ _)
    have HT := hide (l13Tree_bad ad c l w hl h hg)
    clear h
    go_enter Try.func16, Try.ntmps16
    go_wp2_with fail
    refine HT.out.mono ?_
    rintro e w1 ⟨hb1, k, n, p, sad, sn, sc, rfl⟩
    go_wp2_with fail
    exact bodyPost_ret (v := .tuple #[.slice none 0 0, .int .i64 0, .bool false]) (by simp [results, Try.results16, go_sem]) rfl ⟨_, rfl, HN.out _, hb1.alloc hb1.size _⟩
  | true =>
    obtain ⟨e1, e2, hok⟩ := cf_ok hg
    obtain ⟨t1, t2, t3, t4⟩ := trOf_good hg
    obtain ⟨c1, c2, -, -⟩ := cb_ok hok
    have HT := hide (l13Tree_tr ad c l w hl h (trOf l) t4)
    have hflat : (trOf l).flat.length = l.length := by rw [← t2]
    have hpos : 0 < l.length := by rw [← hflat]; exact (trOf l).flat_pos
    have hrll : (trOf l).rl.length = l.length := by rw [Tr.rl_len, hflat]
    have hmk := mk_Bool1 l.length hl
    have HR := hide (fun (u : Value) (B : Nat) (P : Nat → Prop) (w1 : World) (cur : Array Value) h1 h2 h3 h4 h5 h6 => rights_any B l.length l.length hl (trOf l) u 0 P w1 cur t1 (by omega) h1 h2 h3 h4 h5 (by omega) h6)
    have HC := hide (fun (u : Value) (B : Nat) (P : Nat → Prop) (w2 : World) (hB : B < w2.heap.size) (hc : ∀ j, j < l.length → w2.cell? ⟨B, 0 + j, none⟩ = some (.bool (RB (trOf l).rl j))) (hs : w.heap.size ≤ w2.heap.size) (hT : TV w2 P (trOf l) 0 u) => sCode_any B 0 l.length l.length (RB (trOf l).rl) (trOf l) u (.slice none 0 0) w.heap.size 0 0 0 [] P w2 t1 (fun g _ _ e => by cases e) (fun e => by cases e) ⟨hB, hc⟩ (by omega) (by omega) (by omega) hs hT (World.ownsRow_nil _ _ _ _))
    have e0 : ((0 : Nat) : Int) = 0 := rfl
    rw [← c1, ← c2, ← e1, ← e2] at HC
    simp only [e0, Nat.zero_add, List.nil_append] at HC
    rw [hflat] at HR
    simp only [Nat.zero_add, Nat.sub_zero] at HR
    obtain ⟨CL, hCL⟩ : ∃ CL, CL = cfL l := ⟨_, rfl⟩
    obtain ⟨CN, hCN⟩ : ∃ CN, CN = cfN l := ⟨_, rfl⟩
    obtain ⟨T, hTe⟩ : ∃ T, T = trOf l := ⟨_, rfl⟩
    rw [← hTe] at HT HC HR hrll
    rw [← hCL, ← hCN] at HC ⊢
    clear h e1 e2 hok hg t1 t2 t3 t4 c1 c2 hflat hTe hCL hCN e0
    go_enter Try.func16, Try.ntmps16
    go_wp2_with fail
    refine HT.out.mono ?_
    rintro e w1 ⟨hb1, v, rfl, hv⟩
    have HV := hide hv
    obtain ⟨ad1, l1, c1, rfl⟩ := hv.form
    have HB1 := hide hb1
    clear hv hb1 HT
    go_wp2_with fail
    obtain ⟨Wr, hWr⟩ : ∃ Wr, Wr = (w1.alloc (.cells #[.int .i64 T.x.k, .int .i64 T.x.n, .int .i64 0, .slice ad1 l1 c1] 51)).alloc (.cells (madeCells #[.bool false] l.length) 4) := ⟨_, rfl⟩
    have hsr : Wr.heap.size = w1.heap.size + 1 + 1 := by rw [hWr]; simp
    have hb1r : Below w1.heap.size w1 Wr := by rw [hWr]; exact ((Below.refl _ _).alloc (Nat.le_refl _) _).alloc (by simp) _
    have hx : Wr.heap[w1.heap.size]? = some (.cells #[.int .i64 T.x.k, .int .i64 T.x.n, .int .i64 0, .slice ad1 l1 c1] 51 (0, 0)) := by rw [hWr, heap_alloc_old _ _ (by simp)]; exact heap_alloc_new w1 _
    have hcu : Wr.heap[w1.heap.size + 1]? = some (.cells (madeCells #[.bool false] l.length) 4 (0, 0)) := by
      rw [hWr]
      have := heap_alloc_new (w1.alloc (.cells #[.int .i64 T.x.k, .int .i64 T.x.n, .int .i64 0, .slice ad1 l1 c1] 51)) (.cells (madeCells #[.bool false] l.length) 4)
      simpa using this
    have hTV : TV w1 (fun g => w.heap.size ≤ g) T 0 (.agg #[.int .i64 T.x.k, .int .i64 T.x.n, .int .i64 0, .slice ad1 l1 c1]) := HV.out
    have hTr : TV Wr (fun g => w.heap.size ≤ g ∧ g < w1.heap.size) T 0 (.agg #[.int .i64 T.x.k, .int .i64 T.x.n, .int .i64 0, .slice ad1 l1 c1]) := hTV.keep hb1r.size (fun k h1 h2 => ⟨hb1r.block k h2, h1, h2⟩)
    have HTr := hide hTr
    have hsw := HB1.out.size
    rw [← hWr]
    have HCl := hide (HR.out _ (w1.heap.size + 1) (fun g => w.heap.size ≤ g ∧ g < w1.heap.size) Wr _ hTr (fun k h1 _ => by have := h1.2; omega) (by omega) hcu (by simp [madeCells]) (fun k _ hk => by simp [madeCells, hk, Nat.mod_one]))
    have HX := hide hx
    have HBr : Hid (Below w.heap.size w Wr) := hide (HB1.out.trans (hb1r.mono HB1.out.size))
    clear hWr hb1r hx hcu hTV hTr hmk HR HV
    refine HCl.out.mono ?_
    rintro e w3 ⟨⟨v3, rfl⟩, cur3, hc3, hs3, hr3, -, hg3⟩
    have hx3 := (hg3.block w1.heap.size (by omega) (fun e => by simp only [Option.some.injEq] at e; omega)).trans HX.out
    have x0 := (cell_of_blk hx3 0).trans rfl
    have x1 := (cell_of_blk hx3 1).trans rfl
    have x2 := (cell_of_blk hx3 2).trans rfl
    have x3 := (cell_of_blk hx3 3).trans rfl
    have hgs := hg3.size
    have HB3 : Hid (Below w.heap.size w w3) := hide (HBr.out.grown hg3 HBr.out.size (fun k hk => by simp only [Option.some.injEq] at hk; omega))
    have HCc := hide (HC.out (.agg #[.int .i64 T.x.k, .int .i64 T.x.n, .int .i64 0, .slice ad1 l1 c1]) (w1.heap.size + 1) (fun g => w.heap.size ≤ g ∧ g < w1.heap.size) w3 (by omega) (fun j hj => by
      rw [cell_of_blk hc3, hr3 j (Nat.zero_le _) hj, List.getElem?_eq_getElem (by omega)]
      simp [RB, List.getElem?_eq_getElem (show j < T.rl.length by omega)]) (by omega) (HTr.out.keep hg3.size (fun k h1 h2 => ⟨hg3.block k h2 (fun e => by simp only [Option.some.injEq] at e; have := h1.2; omega), h1⟩)))
    clear hx3 hc3 hs3 hr3 hg3 HX HTr HCl HC hrll
    go_wp2_with fail
    refine HCc.out.mono ?_
    rintro e w4 ⟨v4, rfl, ho, hg4, -⟩
    have HO := hide ho
    have HB4 := hide (HB3.out.grown hg4 HB3.out.size (fun k hk => by cases hk))
    obtain ⟨a4, c4, rfl⟩ := own_form ho
    clear ho hg4 HCc x0 x1 x2 x3
    go_wp2_with fail
    exact bodyPost_ret (v := .tuple #[.slice a4 CL.length c4, .int .i64 (CN : Int), .bool true]) (by simp [results, Try.results16, go_sem]) rfl ⟨_, rfl, HO.out, HB4.out⟩
end Go.Proofs.Ytiphcjbmoekkkaa.L

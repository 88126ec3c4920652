/-
  The program's codeOf: its contract. Conditions: good trees. Written by wip/build/mk_plf.py.
-/
import Derived.Test.YtiphcjbmoekkkaaPlE
import Derived.Test.YtiphcjbmoekkkaaPlG
import Derived.Test.YtiphcjbmoekkkaaPlB
import Derived.Deep.RegionHeld3
namespace Go.Proofs.Ytiphcjbmoekkkaa.L
open Go.Proofs.Ytiphcjbmoekkkaa.W
open Go.ChangeShapes Go.WideShapes Go.ChangeAt Go.RowKit
set_option linter.unusedVariables false
set_option linter.unusedSimpArgs false

/-- The cells of a tree and the truths for them, as codeOf reads them. -/
def EnvC (b o : Nat) (l : List Cc) (rb ro : Nat) (R : Nat → Bool) (w : World) : Prop := CRowAt w b o l ∧ rb < w.heap.size ∧ ∀ j, j < l.length → w.cell? ⟨rb, ro + j, none⟩ = some (.bool (R j))
theorem EnvC.below {b o : Nat} {l : List Cc} {rb ro : Nat} {R : Nat → Bool} {w w' : World} (h : EnvC b o l rb ro R w) (hb : Below w.heap.size w w') : EnvC b o l rb ro R w' :=
  ⟨⟨Nat.lt_of_lt_of_le h.1.1 hb.size, fun i hi => ⟨(hb.cell (p := ⟨b, o + i * 2, none⟩) h.1.1).trans (h.1.2 i hi).1, (hb.cell (p := ⟨b, o + i * 2 + 1, none⟩) h.1.1).trans (h.1.2 i hi).2⟩⟩, Nat.lt_of_lt_of_le h.2.1 hb.size, fun j hj => (hb.cell (p := ⟨rb, ro + j, none⟩) h.2.1).trans (h.2.2 j hj)⟩
theorem dv_one (x : Cd) : dv [x] = [.int .i64 x.o, .int .i64 x.to, .int .i64 x.a, .int .i64 x.b, .int .i64 x.n] := rfl
theorem one_blk {w : World} {g : Nat} {x : Cd} {T : TypeId} (h : w.heap[g]? = some (.cells #[.int .i64 x.o, .int .i64 x.to, .int .i64 x.a, .int .i64 x.b, .int .i64 x.n] T (0, 0))) : RAt 5 Cd.c w g 0 [x] := by
  refine ⟨(Array.getElem?_eq_some_iff.1 h).1, fun i hi r hr => ?_⟩
  obtain rfl : i = 0 := by simpa using hi
  rw [cell_of_blk h, Nat.zero_mul, Nat.zero_add]
  match r, hr with
  | 0, _ => rfl
  | 1, _ => rfl
  | 2, _ => rfl
  | 3, _ => rfl
  | 4, _ => rfl
theorem one_own {w : World} {g base : Nat} {x : Cd} {T : TypeId} (h : w.heap[g]? = some (.cells #[.int .i64 x.o, .int .i64 x.to, .int .i64 x.a, .int .i64 x.b, .int .i64 x.n] T (0, 0))) (hb : base ≤ g) : w.ownsRow base T 5 (.slice (some ⟨g, 0, none⟩) 1 1) 1 (dv [x]) :=
  ⟨rfl, .inr ⟨g, 1, _, rfl, hb, h, Nat.le_refl _, by unfold maxLen; omega, rfl, rfl⟩⟩

def CodeGoal (ad : Nat × Nat × Nat) (l : List Cc) (rd : Nat × Nat × Nat × Nat) (R : Nat → Bool) (s : Tr) : Prop :=
  ∀ (i p : Nat) (w : World), Sub l i s → p + s.flat.length ≤ 1000 → EnvC ad.1 ad.2.1 l rd.1 rd.2.1 R w →
    Calls Try.prog 45 #[.slice (some ⟨ad.1, ad.2.1, none⟩) l.length ad.2.2, .slice (some ⟨rd.1, rd.2.1, none⟩) rd.2.2.1 rd.2.2.2, .int .i64 (i : Int), .int .i64 (p : Int)] w fun e w' => ∃ v, e = .returned v ∧ w'.ownsRow w.heap.size 74 5 v (s.cd R i p).length (dv (s.cd R i p)) ∧ Below w.heap.size w w'

set_option maxRecDepth 20000 in
set_option maxHeartbeats 4000000 in
theorem codeOf_leaf (b o c : Nat) (l : List Cc) (rb ro rn rc : Nat) (R : Nat → Bool) (n : Int) (hl : l.length ≤ 40) : CodeGoal ⟨b, o, c⟩ l ⟨rb, ro, rn, rc⟩ R (.ld n) := by
  intro i p w hs hp hE
  have hil := hs.lt'
  have hcell := hs.cell hil
  obtain ⟨p0, p1⟩ := hE.1.2 i hil
  have hb := hE.1.1
  rw [hcell] at p0 p1
  simp only [Tr.x] at p0 p1
  have hi0 : (0 : Int) ≤ (i : Int) := by omega
  have hi1 : (i : Int) < (l.length : Int) := by omega
  clear hE hs hcell
  show Calls _ _ _ _ (fun e w' => ∃ v, e = .returned v ∧ w'.ownsRow w.heap.size 74 5 v 1 (dv [⟨1, p, 0, 0, n⟩]) ∧ Below w.heap.size w w')
  go_enter Try.func45, Try.ntmps45
  go_wp2_with fail
  go_ret
  refine ⟨_, rfl, one_own (by have := heap_alloc_new (w.alloc (.cells #[.int .i64 1, .int .i64 n] 55)) (.cells #[.int .i64 1, .int .i64 (p : Int), .int .i64 0, .int .i64 0, .int .i64 n] 74); simpa using this) (by omega), ((Below.refl _ _).alloc (Nat.le_refl _) _).alloc (by simp) _⟩

set_option maxRecDepth 20000 in
set_option maxHeartbeats 8000000 in
theorem codeOf_node (b o c : Nat) (l : List Cc) (rb ro rn rc : Nat) (R : Nat → Bool) (k1 : Int) (ta tb : Tr) (hl : l.length ≤ 40) (hc : l.length ≤ c) (hrn : l.length ≤ rn) (iha : CodeGoal ⟨b, o, c⟩ l ⟨rb, ro, rn, rc⟩ R ta) (ihb : CodeGoal ⟨b, o, c⟩ l ⟨rb, ro, rn, rc⟩ R tb) : CodeGoal ⟨b, o, c⟩ l ⟨rb, ro, rn, rc⟩ R (.op k1 ta tb) := by
  intro i p w hs hp hE
  have hil := hs.lt'
  have hcell := hs.cell hil
  obtain ⟨p0, p1⟩ := hE.1.2 i hil
  have hb := hE.1.1
  have hrb : rb < w.heap.size := hE.2.1
  have r0 := hE.2.2 i hil
  rw [hcell] at p0 p1
  simp only [Tr.x] at p0 p1 r0
  have hi0 : (0 : Int) ≤ (i : Int) := by omega
  have hi1 : (i : Int) < (l.length : Int) := by omega
  have hi2 : (i : Int) < (rn : Int) := by omega
  have hp' : p + (1 + (ta.flat.length + tb.flat.length)) ≤ 1000 := by have h := hp; simp only [Tr.flat, List.length_cons, List.length_append] at h; omega
  have hpa := ta.flat_pos
  have hpb := tb.flat_pos
  have ho := op_ne hs.1.1
  obtain ⟨hka, hkb⟩ := hs.kids
  have HPu := hide (fun (w' : World) (hb : Below w.heap.size w w') => partsUnder_any (some ⟨b, o, none⟩) c l i k1 ta tb w' (by omega) hc (.inr ⟨b, o, rfl, (hE.below hb).1⟩) hs)
  have HIa0 := hide (fun (w' : World) (hb : Below w.heap.size w w') => iha (i + 1) p w' hka (by omega) (hE.below hb))
  have HIa1 := hide (fun (w' : World) (hb : Below w.heap.size w w') => iha (i + 1) (p + 1) w' hka (by omega) (hE.below hb))
  have HIb0 := hide (fun (w' : World) (hb : Below w.heap.size w w') => ihb (i + 1 + ta.flat.length) p w' hkb (by omega) (hE.below hb))
  have HIb1 := hide (fun (w' : World) (hb : Below w.heap.size w w') => ihb (i + 1 + ta.flat.length) (p + 1) w' hkb (by omega) (hE.below hb))
  have hTl : (Tr.op k1 ta tb).cd R i p = if R i = true then tb.cd R (i + 1 + ta.flat.length) p ++ ta.cd R (i + 1) (p + 1) ++ [⟨k1, p, (p : Int) + 1, p, 0⟩] else ta.cd R (i + 1) p ++ tb.cd R (i + 1 + ta.flat.length) (p + 1) ++ [⟨k1, p, p, (p : Int) + 1, 0⟩] := rfl
  have hla := hka.lt
  have hlb := hkb.lt
  obtain ⟨A0, hA0⟩ : ∃ A0, A0 = ta.cd R (i + 1) p := ⟨_, rfl⟩
  obtain ⟨A1, hA1⟩ : ∃ A1, A1 = ta.cd R (i + 1) (p + 1) := ⟨_, rfl⟩
  obtain ⟨B0, hB0⟩ : ∃ B0, B0 = tb.cd R (i + 1 + ta.flat.length) p := ⟨_, rfl⟩
  obtain ⟨B1, hB1⟩ : ∃ B1, B1 = tb.cd R (i + 1 + ta.flat.length) (p + 1) := ⟨_, rfl⟩
  have na0 : A0.length = ta.flat.length := by rw [hA0, Tr.cd_len]
  have na1 : A1.length = ta.flat.length := by rw [hA1, Tr.cd_len]
  have nb0 : B0.length = tb.flat.length := by rw [hB0, Tr.cd_len]
  have nb1 : B1.length = tb.flat.length := by rw [hB1, Tr.cd_len]
  rw [← hA1, ← hB0, ← hA0, ← hB1] at hTl
  rw [← hA0] at HIa0
  rw [← hA1] at HIa1
  rw [← hB0] at HIb0
  rw [← hB1] at HIb1
  rw [hTl]
  obtain ⟨J1, hJ1⟩ : ∃ J1, J1 = i + 1 := ⟨_, rfl⟩
  obtain ⟨J2, hJ2⟩ : ∃ J2, J2 = J1 + ta.flat.length := ⟨_, rfl⟩
  obtain ⟨J3, hJ3⟩ : ∃ J3, J3 = J2 + tb.flat.length := ⟨_, rfl⟩
  rw [← hJ1, ← hJ2, ← hJ3] at HPu
  rw [← hJ1] at HIa0 HIa1
  rw [← hJ1, ← hJ2] at HIb0 HIb1
  have hp1 : ((p + 1 : Nat) : Int) = (p : Int) + 1 := by omega
  simp only [hp1] at HIa1 HIb1
  have hpp : p ≤ 1000 := by omega
  have hwp : IntKind.i64.wrap ((p : Int) + 1) = (p : Int) + 1 := IntWalk.i64_in _ ⟨by omega, by omega⟩
  obtain ⟨na2, na3, na4, na5, nb2, nb3, nb4, nb5⟩ : A0.length ≤ 40 ∧ 0 < A0.length ∧ A1.length ≤ 40 ∧ 0 < A1.length ∧ B0.length ≤ 40 ∧ 0 < B0.length ∧ B1.length ≤ 40 ∧ 0 < B1.length := by omega
  clear iha ihb hs hcell hka hkb hp hp' hpa hpb hla hlb hA0 hA1 hB0 hB1 na0 na1 nb0 nb1 hE hTl hJ1 hJ2 hJ3 hp1
  cases hR : R i with
  | true =>
    rw [hR] at r0
    rw [if_pos rfl]
    have q0 : ∀ B : Obj, (w.alloc B).cell? ⟨b, o + i * 2, none⟩ = some (.int .i64 k1) := fun B => by rw [((Below.refl w.heap.size w).alloc (Nat.le_refl _) _).cell hb]; exact p0
    have q1 : ∀ B : Obj, (w.alloc B).cell? ⟨b, o + i * 2 + 1, none⟩ = some (.int .i64 0) := fun B => by rw [((Below.refl w.heap.size w).alloc (Nat.le_refl _) _).cell hb]; exact p1
    go_enter Try.func45, Try.ntmps45
    go_wp2_with fail
    have hx0 := heap_alloc_new w (.cells #[.int .i64 k1, .int .i64 0] 55)
    refine (HPu.out _ ((Below.refl _ _).alloc (Nat.le_refl _) _)).mono ?_
    rintro e w1 ⟨rfl, hb1⟩
    have hs1 := hb1.size
    have hBw1 : Below w.heap.size w w1 := ((Below.refl _ _).alloc (Nat.le_refl _) _).trans (hb1.mono (by simp))
    have hx1 := (hb1.block w.heap.size (by simp)).trans hx0
    simp only [World.size_alloc] at hs1
    have x0 : ∀ B B2 : Obj, ((w1.alloc B).alloc B2).cell? ⟨w.heap.size, 0, none⟩ = some (.int .i64 k1) := fun B B2 => (cell_of_blk ((heap_alloc_old _ _ (by simp; omega)).trans ((heap_alloc_old _ _ (by omega)).trans hx1)) 0).trans rfl
    have r1 : ∀ B B2 : Obj, ((w1.alloc B).alloc B2).cell? ⟨rb, ro + i, none⟩ = some (.bool true) := fun B B2 => (((hBw1.alloc hBw1.size B).alloc (by have := hBw1.size; simp; omega) B2).cell (p := ⟨rb, ro + i, none⟩) hrb).trans r0
    clear hx0 hb1 HPu p0 p1 q0 q1 r0
    go_wp2_with fail
    obtain ⟨wA, hwA⟩ : ∃ wA, wA = ((w1.alloc (.cells #[.int .i64 (J1 : Int), .int .i64 (J2 : Int)] 60)).alloc (.cells #[.int .i64 (J2 : Int), .int .i64 (J3 : Int)] 60)).alloc (.cells #[.int .i64 k1, .int .i64 (p : Int), .int .i64 ((p : Int) + 1), .int .i64 (p : Int), .int .i64 0] 74) := ⟨_, rfl⟩
    have hsA : wA.heap.size = w1.heap.size + 1 + 1 + 1 := by rw [hwA]; simp
    have hBA : Below w.heap.size w wA := by rw [hwA]; exact ((hBw1.alloc hBw1.size _).alloc (by have := hBw1.size; simp; omega) _).alloc (by have := hBw1.size; simp; omega) _
    have y10 : wA.heap[w1.heap.size]? = some (.cells #[.int .i64 (J1 : Int), .int .i64 (J2 : Int)] 60 (0, 0)) := by rw [hwA, heap_alloc_old _ _ (by simp; omega), heap_alloc_old _ _ (by simp)]; exact heap_alloc_new w1 _
    have y11 : wA.heap[w1.heap.size + 1]? = some (.cells #[.int .i64 (J2 : Int), .int .i64 (J3 : Int)] 60 (0, 0)) := by rw [hwA, heap_alloc_old _ _ (by simp)]; have := heap_alloc_new (w1.alloc (.cells #[.int .i64 (J1 : Int), .int .i64 (J2 : Int)] 60)) (.cells #[.int .i64 (J2 : Int), .int .i64 (J3 : Int)] 60); simpa using this
    have y12 : wA.heap[w1.heap.size + 1 + 1]? = some (.cells #[.int .i64 k1, .int .i64 (p : Int), .int .i64 ((p : Int) + 1), .int .i64 (p : Int), .int .i64 0] 74 (0, 0)) := by rw [hwA]; have := heap_alloc_new ((w1.alloc (.cells #[.int .i64 (J1 : Int), .int .i64 (J2 : Int)] 60)).alloc (.cells #[.int .i64 (J2 : Int), .int .i64 (J3 : Int)] 60)) (.cells #[.int .i64 k1, .int .i64 (p : Int), .int .i64 ((p : Int) + 1), .int .i64 (p : Int), .int .i64 0] 74); simpa using this
    rw [← hwA]
    clear hwA x0 r1 hx1
    have HAll : Hid (∀ W1 : World, Below wA.heap.size wA W1 → W1.cell? ⟨w1.heap.size + 1, 0, none⟩ = some (.int .i64 (J2 : Int)) ∧ W1.cell? ⟨w1.heap.size, 0, none⟩ = some (.int .i64 (J1 : Int)) ∧ W1.cell? ⟨w1.heap.size + 1 + 1, 0, none⟩ = some (.int .i64 k1) ∧ W1.cell? ⟨w1.heap.size + 1 + 1, 1, none⟩ = some (.int .i64 (p : Int)) ∧ W1.cell? ⟨w1.heap.size + 1 + 1, 2, none⟩ = some (.int .i64 ((p : Int) + 1)) ∧ W1.cell? ⟨w1.heap.size + 1 + 1, 3, none⟩ = some (.int .i64 (p : Int)) ∧ W1.cell? ⟨w1.heap.size + 1 + 1, 4, none⟩ = some (.int .i64 0)) := hide (fun W1 hw => ⟨(cell_of_blk ((hw.block (w1.heap.size + 1) (by omega)).trans y11) 0).trans rfl, (cell_of_blk ((hw.block (w1.heap.size) (by omega)).trans y10) 0).trans rfl, (cell_of_blk ((hw.block (w1.heap.size + 1 + 1) (by omega)).trans y12) 0).trans rfl, (cell_of_blk ((hw.block (w1.heap.size + 1 + 1) (by omega)).trans y12) 1).trans rfl, (cell_of_blk ((hw.block (w1.heap.size + 1 + 1) (by omega)).trans y12) 2).trans rfl, (cell_of_blk ((hw.block (w1.heap.size + 1 + 1) (by omega)).trans y12) 3).trans rfl, (cell_of_blk ((hw.block (w1.heap.size + 1 + 1) (by omega)).trans y12) 4).trans rfl⟩)
    have HB : Hid (Below wA.heap.size wA wA.drew) := hide ⟨rfl, rfl, rfl, Nat.le_refl _, fun _ _ => rfl⟩
    have HBA := hide hBA
    clear y10 y11 y12 hBw1 hsA
    refine wp_region_noPanic ?_
    refine wp_region_held_drew (S := fun W1 => W1.cell? ⟨w1.heap.size + 1, 0, none⟩ = some (.int .i64 (J2 : Int)) ∧ W1.cell? ⟨w1.heap.size, 0, none⟩ = some (.int .i64 (J1 : Int)) ∧ W1.cell? ⟨w1.heap.size + 1 + 1, 0, none⟩ = some (.int .i64 k1) ∧ W1.cell? ⟨w1.heap.size + 1 + 1, 1, none⟩ = some (.int .i64 (p : Int)) ∧ W1.cell? ⟨w1.heap.size + 1 + 1, 2, none⟩ = some (.int .i64 ((p : Int) + 1)) ∧ W1.cell? ⟨w1.heap.size + 1 + 1, 3, none⟩ = some (.int .i64 (p : Int)) ∧ W1.cell? ⟨w1.heap.size + 1 + 1, 4, none⟩ = some (.int .i64 0)) (by kernel_rfl) (HAll.out _ HB.out) (fun hHeld => ?_)
    refine wpAnyH_take (i := 0) (oi := _) (v := ?_) rfl (by kernel_rfl) (by kernel_rfl) (by kernel_rfl) (fun _ _ _ h => h) (Or.inl ⟨by rfl, ?_⟩) (by assumption) ?_
    rotate_left 1
    · (intro w hSw; (try dsimp only at hSw); (first | (go_simp; done) | (go_simp; with_reducible rfl)))
    try simp only [Act.put, List.getElem_toArray, List.getElem_cons_zero, List.getElem_cons_succ, List.setIfInBounds_toArray, List.set_cons_zero, List.set_cons_succ]
    refine wpAnyH_take (i := 1) (oi := _) (v := ?_) rfl (by kernel_rfl) (by kernel_rfl) (by kernel_rfl) (fun _ _ _ h => h) (Or.inl ⟨by rfl, ?_⟩) (by assumption) ?_
    rotate_left 1
    · (intro w hSw; (try dsimp only at hSw); (first | (go_simp; done) | (go_simp; with_reducible rfl)))
    try simp only [Act.put, List.getElem_toArray, List.getElem_cons_zero, List.getElem_cons_succ, List.setIfInBounds_toArray, List.set_cons_zero, List.set_cons_succ]
    refine wpAnyH_take (i := 2) (oi := _) (v := ?_) rfl (by kernel_rfl) (by kernel_rfl) (by kernel_rfl) (fun _ _ _ h => h) (Or.inl ⟨by rfl, ?_⟩) (by assumption) ?_
    rotate_left 1
    · (intro w hSw; (try dsimp only at hSw); (first | (go_simp; done) | (go_simp; with_reducible rfl)))
    try simp only [Act.put, List.getElem_toArray, List.getElem_cons_zero, List.getElem_cons_succ, List.setIfInBounds_toArray, List.set_cons_zero, List.set_cons_succ]
    refine wpAnyH_take (i := 3) (oi := _) (v := ?_) rfl (by kernel_rfl) (by kernel_rfl) (by kernel_rfl) (fun _ _ _ h => h) (Or.inl ⟨by rfl, ?_⟩) (by assumption) ?_
    rotate_left 1
    · (intro w hSw; (try dsimp only at hSw); (first | (go_simp; done) | (go_simp; with_reducible rfl)))
    try simp only [Act.put, List.getElem_toArray, List.getElem_cons_zero, List.getElem_cons_succ, List.setIfInBounds_toArray, List.set_cons_zero, List.set_cons_succ]
    refine wpAnyH_take (i := 4) (oi := _) (v := ?_) rfl (by kernel_rfl) (by kernel_rfl) (by kernel_rfl) (fun _ _ _ h => h) (Or.inl ⟨by rfl, ?_⟩) (by assumption) ?_
    rotate_left 1
    · (intro w hSw; (try dsimp only at hSw); (first | (go_simp; done) | (go_simp; with_reducible rfl)))
    try simp only [Act.put, List.getElem_toArray, List.getElem_cons_zero, List.getElem_cons_succ, List.setIfInBounds_toArray, List.set_cons_zero, List.set_cons_succ]
    refine wpAnyH_take (i := 6) (oi := _) (v := ?_) rfl (by kernel_rfl) (by kernel_rfl) (by kernel_rfl) (fun _ _ _ h => h) (Or.inl ⟨by rfl, ?_⟩) (by assumption) ?_
    rotate_left 1
    · (intro w hSw; (try dsimp only at hSw); (first | (go_simp; done) | (go_simp; with_reducible rfl)))
    try simp only [Act.put, List.getElem_toArray, List.getElem_cons_zero, List.getElem_cons_succ, List.setIfInBounds_toArray, List.set_cons_zero, List.set_cons_succ]
    refine wpAnyH_take (i := 7) (oi := _) (v := ?_) rfl (by kernel_rfl) (by kernel_rfl) (by kernel_rfl) (fun _ _ _ h => h) (Or.inl ⟨by rfl, ?_⟩) (by assumption) ?_
    rotate_left 1
    · (intro w hSw; (try dsimp only at hSw); (first | (go_simp; done) | (go_simp; with_reducible rfl)))
    try simp only [Act.put, List.getElem_toArray, List.getElem_cons_zero, List.getElem_cons_succ, List.setIfInBounds_toArray, List.set_cons_zero, List.set_cons_succ]
    refine wpAnyH_take (i := 8) (oi := _) (v := ?_) rfl (by kernel_rfl) (by kernel_rfl) (by kernel_rfl) (fun _ _ _ h => h) (Or.inl ⟨by rfl, ?_⟩) (by assumption) ?_
    rotate_left 1
    · (intro w hSw; (try dsimp only at hSw); (first | (go_simp; done) | (go_simp; with_reducible rfl)))
    try simp only [Act.put, List.getElem_toArray, List.getElem_cons_zero, List.getElem_cons_succ, List.setIfInBounds_toArray, List.set_cons_zero, List.set_cons_succ]
    refine wpAnyH_take (i := 9) (oi := _) (v := ?_) rfl (by kernel_rfl) (by kernel_rfl) (by kernel_rfl) (fun _ _ _ h => h) (Or.inl ⟨by rfl, ?_⟩) (by assumption) ?_
    rotate_left 1
    · (intro w hSw; (try dsimp only at hSw); (first | (go_simp; done) | (go_simp; with_reducible rfl)))
    try simp only [Act.put, List.getElem_toArray, List.getElem_cons_zero, List.getElem_cons_succ, List.setIfInBounds_toArray, List.set_cons_zero, List.set_cons_succ]
    refine wpAnyH_take (i := 10) (oi := _) (v := ?_) rfl (by kernel_rfl) (by kernel_rfl) (by kernel_rfl) (fun _ _ _ h => h) (Or.inl ⟨by rfl, ?_⟩) (by assumption) ?_
    rotate_left 1
    · (intro w hSw; (try dsimp only at hSw); (first | (go_simp; done) | (go_simp; with_reducible rfl)))
    try simp only [Act.put, List.getElem_toArray, List.getElem_cons_zero, List.getElem_cons_succ, List.setIfInBounds_toArray, List.set_cons_zero, List.set_cons_succ]
    refine wpAnyH_take (i := 11) (oi := _) (v := ?_) rfl (by kernel_rfl) (by kernel_rfl) (by kernel_rfl) (fun _ _ _ h => h) (Or.inl ⟨by rfl, ?_⟩) (by assumption) ?_
    rotate_left 1
    · (intro w hSw; (try dsimp only at hSw); (first | (go_simp; done) | (go_simp; with_reducible rfl)))
    try simp only [Act.put, List.getElem_toArray, List.getElem_cons_zero, List.getElem_cons_succ, List.setIfInBounds_toArray, List.set_cons_zero, List.set_cons_succ]
    refine wpAnyH_take (i := 13) (oi := _) (v := ?_) rfl (by kernel_rfl) (by kernel_rfl) (by kernel_rfl) (fun _ _ _ h => h) (Or.inl ⟨by rfl, ?_⟩) (by assumption) ?_
    rotate_left 1
    · (intro w hSw; (try dsimp only at hSw); (first | (go_simp; done) | (go_simp; with_reducible rfl)))
    try simp only [Act.put, List.getElem_toArray, List.getElem_cons_zero, List.getElem_cons_succ, List.setIfInBounds_toArray, List.set_cons_zero, List.set_cons_succ]
    refine wpAnyH_ready (rs := [5, 14]) (by kernel_rfl) (by simp) ?_
    refine AllReadyH.cons (o := _) rfl (fun K hK => ?_) (AllReadyH.cons (o := _) rfl (fun K hK => ?_) (AllReadyH.nil))
    · go_simp
      (with_reducible refine Calls.mono (HIb0.out _ (HBA.out.trans (HB.out.mono HBA.out.size))) ?_)
      rintro r W1 ⟨v, rfl, ho, hb⟩
      obtain ⟨g1, c1, rfl, -, -⟩ := tOwn_some ho (by omega)
      have H1 := hide (RRow.ofOwn ho rfl)
      have HB := hide (HB.out.trans (hb.mono HB.out.size))
      clear ho hb
      (try go_wp2_with fail)
      refine hK.out _ _ (HAll.out _ HB.out) (fun hHeld => ?_)
      clear hK K
      try simp only [Act.put, List.getElem_toArray, List.getElem_cons_zero, List.getElem_cons_succ, List.setIfInBounds_toArray, List.set_cons_zero, List.set_cons_succ]
      refine wpAnyH_ready (rs := [12, 14]) (by kernel_rfl) (by simp) ?_
      refine AllReadyH.cons (o := _) rfl (fun K hK => ?_) (AllReadyH.cons (o := _) rfl (fun K hK => ?_) (AllReadyH.nil))
      · go_simp
        (with_reducible refine Calls.mono (HIa1.out _ (HBA.out.trans (HB.out.mono HBA.out.size))) ?_)
        rintro r W2 ⟨v, rfl, ho, hb⟩
        obtain ⟨g2, c2, rfl, -, -⟩ := tOwn_some ho (by omega)
        have H2 := hide (RRow.ofOwn ho rfl)
        have H1 := hide (RRow.below H1.out hb)
        have HB := hide (HB.out.trans (hb.mono HB.out.size))
        clear ho hb
        (try go_wp2_with fail)
        refine hK.out _ _ (HAll.out _ HB.out) (fun hHeld => ?_)
        clear hK K
        try simp only [Act.put, List.getElem_toArray, List.getElem_cons_zero, List.getElem_cons_succ, List.setIfInBounds_toArray, List.set_cons_zero, List.set_cons_succ]
        refine wpAnyH_ready (rs := [14]) (by kernel_rfl) (by simp) ?_
        refine AllReadyH.cons (o := _) rfl (fun K hK => ?_) (AllReadyH.nil)
        go_simp
        have hnw := heap_alloc_new (W2) (.cells #[.int .i64 k1, .int .i64 (p : Int), .int .i64 ((p : Int) + 1), .int .i64 (p : Int), .int .i64 0] 74)
        have HXs : Hid (CdRow ((W2).alloc (.cells #[.int .i64 k1, .int .i64 (p : Int), .int .i64 ((p : Int) + 1), .int .i64 (p : Int), .int .i64 0] 74)) (some ⟨W2.heap.size, 0, none⟩) [⟨k1, (p : Int), ((p : Int) + 1), (p : Int), 0⟩]) := hide (.inr ⟨_, 0, rfl, one_blk hnw⟩)
        have hb : Below (W2).heap.size (W2) ((W2).alloc (.cells #[.int .i64 k1, .int .i64 (p : Int), .int .i64 ((p : Int) + 1), .int .i64 (p : Int), .int .i64 0] 74)) := (Below.refl _ _).alloc (Nat.le_refl _) _
        have H1 := hide (RRow.below H1.out hb)
        have H2 := hide (RRow.below H2.out hb)
        have HB := hide (HB.out.trans (hb.mono HB.out.size))
        clear hnw hb
        refine hK.out _ _ (HAll.out _ HB.out) (fun hHeld => ?_)
        clear hK K
        try simp only [Act.put, List.getElem_toArray, List.getElem_cons_zero, List.getElem_cons_succ, List.setIfInBounds_toArray, List.set_cons_zero, List.set_cons_succ]
        refine wpAnyH_ready (rs := [15]) (by kernel_rfl) (by simp) ?_
        refine AllReadyH.cons (o := _) rfl (fun K hK => ?_) AllReadyH.nil
        go_simp
        have hn3 : (((W2).alloc (.cells #[.int .i64 k1, .int .i64 (p : Int), .int .i64 ((p : Int) + 1), .int .i64 (p : Int), .int .i64 0] 74)).alloc (.cells #[.slice (some ⟨g1, 0, none⟩) B0.length c1, .slice (some ⟨g2, 0, none⟩) A1.length c2, .slice (some ⟨W2.heap.size, 0, none⟩) 1 1] 31)).heap[W2.heap.size + 1]? = some (.cells #[.slice (some ⟨g1, 0, none⟩) B0.length c1, .slice (some ⟨g2, 0, none⟩) A1.length c2, .slice (some ⟨W2.heap.size, 0, none⟩) 1 1] 31 (0, 0)) := by have := heap_alloc_new ((W2).alloc (.cells #[.int .i64 k1, .int .i64 (p : Int), .int .i64 ((p : Int) + 1), .int .i64 (p : Int), .int .i64 0] 74)) (.cells #[.slice (some ⟨g1, 0, none⟩) B0.length c1, .slice (some ⟨g2, 0, none⟩) A1.length c2, .slice (some ⟨W2.heap.size, 0, none⟩) 1 1] 31); simpa using this
        have hb : Below ((W2).alloc (.cells #[.int .i64 k1, .int .i64 (p : Int), .int .i64 ((p : Int) + 1), .int .i64 (p : Int), .int .i64 0] 74)).heap.size ((W2).alloc (.cells #[.int .i64 k1, .int .i64 (p : Int), .int .i64 ((p : Int) + 1), .int .i64 (p : Int), .int .i64 0] 74)) (((W2).alloc (.cells #[.int .i64 k1, .int .i64 (p : Int), .int .i64 ((p : Int) + 1), .int .i64 (p : Int), .int .i64 0] 74)).alloc (.cells #[.slice (some ⟨g1, 0, none⟩) B0.length c1, .slice (some ⟨g2, 0, none⟩) A1.length c2, .slice (some ⟨W2.heap.size, 0, none⟩) 1 1] 31)) := (Below.refl _ _).alloc (Nat.le_refl _) _
        have H1 := hide (RRow.below H1.out hb)
        have H2 := hide (RRow.below H2.out hb)
        have HXs := hide (RRow.below HXs.out hb)
        have HB := hide (HB.out.trans (hb.mono HB.out.size))
        have HN3 := hide hn3
        clear hn3 hb
        refine hK.out _ _ (HAll.out _ HB.out) (fun hHeld => ?_)
        clear hK K
        try simp only [Act.put, List.getElem_toArray, List.getElem_cons_zero, List.getElem_cons_succ, List.setIfInBounds_toArray, List.set_cons_zero, List.set_cons_succ]
        refine wpAnyH_ready (rs := [16]) (by kernel_rfl) (by simp) ?_
        refine AllReadyH.cons (o := _) rfl (fun K hK => ?_) AllReadyH.nil
        go_simp
        (with_reducible refine Calls.mono (concatD_any (W2.heap.size + 1) g1 0 c1 g2 0 c2 (W2.heap.size) 0 1 B0 A1 [⟨k1, (p : Int), ((p : Int) + 1), (p : Int), 0⟩] _ (by simp) (by simp; omega) (Array.getElem?_eq_some_iff.1 HN3.out).1 ((cell_of_blk HN3.out 0).trans rfl) ((cell_of_blk HN3.out 1).trans rfl) ((cell_of_blk HN3.out 2).trans rfl) H1.out H2.out HXs.out) ?_)
        rintro r W3 ⟨v, rfl, ho, hb⟩
        obtain ⟨g3, c3, rfl, -, -⟩ := tOwn_some ho (by simp)
        have HO := hide ho
        have HBs := hide HB.out.size
        have HB := hide (HB.out.trans (hb.mono HB.out.size))
        clear ho hb
        (try go_wp2_with fail)
        refine hK.out _ _ (HAll.out _ HB.out) (fun hHeld => ?_)
        clear hK K
        try simp only [Act.put, List.getElem_toArray, List.getElem_cons_zero, List.getElem_cons_succ, List.setIfInBounds_toArray, List.set_cons_zero, List.set_cons_succ]
        refine wpAnyH_take (i := 17) (oi := _) (v := ?_) rfl (by kernel_rfl) (by kernel_rfl) (by kernel_rfl) (fun _ _ _ h => h) (Or.inl ⟨by rfl, ?_⟩) (by assumption) ?_
        rotate_left 1
        · (intro w hSw; (try dsimp only at hSw); (first | (go_simp; done) | (go_simp; with_reducible rfl)))
        try simp only [Act.put, List.getElem_toArray, List.getElem_cons_zero, List.getElem_cons_succ, List.setIfInBounds_toArray, List.set_cons_zero, List.set_cons_succ]
        refine wpAnyH_done (by kernel_rfl) ?_ _
        refine NoPanic.normal ?_
        clear hHeld
        go_wp2_with fail
        go_ret
        have e : (B0 ++ A1 ++ ([⟨k1, (p : Int), ((p : Int) + 1), (p : Int), 0⟩] : List Cd)).length = B0.length + A1.length + ([⟨k1, (p : Int), ((p : Int) + 1), (p : Int), 0⟩] : List Cd).length := by simp only [List.length_append]
        rw [e]
        exact ⟨_, rfl, iOwn_lower HO.out (Nat.le_trans HBA.out.size HBs.out), HBA.out.trans (HB.out.mono HBA.out.size)⟩
      · go_simp
        have hnw := heap_alloc_new (W1) (.cells #[.int .i64 k1, .int .i64 (p : Int), .int .i64 ((p : Int) + 1), .int .i64 (p : Int), .int .i64 0] 74)
        have HXs : Hid (CdRow ((W1).alloc (.cells #[.int .i64 k1, .int .i64 (p : Int), .int .i64 ((p : Int) + 1), .int .i64 (p : Int), .int .i64 0] 74)) (some ⟨W1.heap.size, 0, none⟩) [⟨k1, (p : Int), ((p : Int) + 1), (p : Int), 0⟩]) := hide (.inr ⟨_, 0, rfl, one_blk hnw⟩)
        have hb : Below (W1).heap.size (W1) ((W1).alloc (.cells #[.int .i64 k1, .int .i64 (p : Int), .int .i64 ((p : Int) + 1), .int .i64 (p : Int), .int .i64 0] 74)) := (Below.refl _ _).alloc (Nat.le_refl _) _
        have H1 := hide (RRow.below H1.out hb)
        have HB := hide (HB.out.trans (hb.mono HB.out.size))
        clear hnw hb
        refine hK.out _ _ (HAll.out _ HB.out) (fun hHeld => ?_)
        clear hK K
        try simp only [Act.put, List.getElem_toArray, List.getElem_cons_zero, List.getElem_cons_succ, List.setIfInBounds_toArray, List.set_cons_zero, List.set_cons_succ]
        refine wpAnyH_ready (rs := [12]) (by kernel_rfl) (by simp) ?_
        refine AllReadyH.cons (o := _) rfl (fun K hK => ?_) (AllReadyH.nil)
        go_simp
        (with_reducible refine Calls.mono (HIa1.out _ (HBA.out.trans (HB.out.mono HBA.out.size))) ?_)
        rintro r W2 ⟨v, rfl, ho, hb⟩
        obtain ⟨g2, c2, rfl, -, -⟩ := tOwn_some ho (by omega)
        have H2 := hide (RRow.ofOwn ho rfl)
        have H1 := hide (RRow.below H1.out hb)
        have HXs := hide (RRow.below HXs.out hb)
        have HB := hide (HB.out.trans (hb.mono HB.out.size))
        clear ho hb
        (try go_wp2_with fail)
        refine hK.out _ _ (HAll.out _ HB.out) (fun hHeld => ?_)
        clear hK K
        try simp only [Act.put, List.getElem_toArray, List.getElem_cons_zero, List.getElem_cons_succ, List.setIfInBounds_toArray, List.set_cons_zero, List.set_cons_succ]
        refine wpAnyH_ready (rs := [15]) (by kernel_rfl) (by simp) ?_
        refine AllReadyH.cons (o := _) rfl (fun K hK => ?_) AllReadyH.nil
        go_simp
        have hn3 : ((W2).alloc (.cells #[.slice (some ⟨g1, 0, none⟩) B0.length c1, .slice (some ⟨g2, 0, none⟩) A1.length c2, .slice (some ⟨W1.heap.size, 0, none⟩) 1 1] 31)).heap[W2.heap.size]? = some (.cells #[.slice (some ⟨g1, 0, none⟩) B0.length c1, .slice (some ⟨g2, 0, none⟩) A1.length c2, .slice (some ⟨W1.heap.size, 0, none⟩) 1 1] 31 (0, 0)) := by have := heap_alloc_new (W2) (.cells #[.slice (some ⟨g1, 0, none⟩) B0.length c1, .slice (some ⟨g2, 0, none⟩) A1.length c2, .slice (some ⟨W1.heap.size, 0, none⟩) 1 1] 31); simpa using this
        have hb : Below (W2).heap.size (W2) ((W2).alloc (.cells #[.slice (some ⟨g1, 0, none⟩) B0.length c1, .slice (some ⟨g2, 0, none⟩) A1.length c2, .slice (some ⟨W1.heap.size, 0, none⟩) 1 1] 31)) := (Below.refl _ _).alloc (Nat.le_refl _) _
        have H1 := hide (RRow.below H1.out hb)
        have H2 := hide (RRow.below H2.out hb)
        have HXs := hide (RRow.below HXs.out hb)
        have HB := hide (HB.out.trans (hb.mono HB.out.size))
        have HN3 := hide hn3
        clear hn3 hb
        refine hK.out _ _ (HAll.out _ HB.out) (fun hHeld => ?_)
        clear hK K
        try simp only [Act.put, List.getElem_toArray, List.getElem_cons_zero, List.getElem_cons_succ, List.setIfInBounds_toArray, List.set_cons_zero, List.set_cons_succ]
        refine wpAnyH_ready (rs := [16]) (by kernel_rfl) (by simp) ?_
        refine AllReadyH.cons (o := _) rfl (fun K hK => ?_) AllReadyH.nil
        go_simp
        (with_reducible refine Calls.mono (concatD_any (W2.heap.size) g1 0 c1 g2 0 c2 (W1.heap.size) 0 1 B0 A1 [⟨k1, (p : Int), ((p : Int) + 1), (p : Int), 0⟩] _ (by simp) (by simp; omega) (Array.getElem?_eq_some_iff.1 HN3.out).1 ((cell_of_blk HN3.out 0).trans rfl) ((cell_of_blk HN3.out 1).trans rfl) ((cell_of_blk HN3.out 2).trans rfl) H1.out H2.out HXs.out) ?_)
        rintro r W3 ⟨v, rfl, ho, hb⟩
        obtain ⟨g3, c3, rfl, -, -⟩ := tOwn_some ho (by simp)
        have HO := hide ho
        have HBs := hide HB.out.size
        have HB := hide (HB.out.trans (hb.mono HB.out.size))
        clear ho hb
        (try go_wp2_with fail)
        refine hK.out _ _ (HAll.out _ HB.out) (fun hHeld => ?_)
        clear hK K
        try simp only [Act.put, List.getElem_toArray, List.getElem_cons_zero, List.getElem_cons_succ, List.setIfInBounds_toArray, List.set_cons_zero, List.set_cons_succ]
        refine wpAnyH_take (i := 17) (oi := _) (v := ?_) rfl (by kernel_rfl) (by kernel_rfl) (by kernel_rfl) (fun _ _ _ h => h) (Or.inl ⟨by rfl, ?_⟩) (by assumption) ?_
        rotate_left 1
        · (intro w hSw; (try dsimp only at hSw); (first | (go_simp; done) | (go_simp; with_reducible rfl)))
        try simp only [Act.put, List.getElem_toArray, List.getElem_cons_zero, List.getElem_cons_succ, List.setIfInBounds_toArray, List.set_cons_zero, List.set_cons_succ]
        refine wpAnyH_done (by kernel_rfl) ?_ _
        refine NoPanic.normal ?_
        clear hHeld
        go_wp2_with fail
        go_ret
        have e : (B0 ++ A1 ++ ([⟨k1, (p : Int), ((p : Int) + 1), (p : Int), 0⟩] : List Cd)).length = B0.length + A1.length + ([⟨k1, (p : Int), ((p : Int) + 1), (p : Int), 0⟩] : List Cd).length := by simp only [List.length_append]
        rw [e]
        exact ⟨_, rfl, iOwn_lower HO.out (Nat.le_trans HBA.out.size HBs.out), HBA.out.trans (HB.out.mono HBA.out.size)⟩
    · go_simp
      have hnw := heap_alloc_new wA (.cells #[.int .i64 k1, .int .i64 (p : Int), .int .i64 ((p : Int) + 1), .int .i64 (p : Int), .int .i64 0] 74)
      have HXs : Hid (CdRow ((wA.alloc (.cells #[.int .i64 k1, .int .i64 (p : Int), .int .i64 ((p : Int) + 1), .int .i64 (p : Int), .int .i64 0] 74)).drew) (some ⟨wA.heap.size, 0, none⟩) [⟨k1, (p : Int), ((p : Int) + 1), (p : Int), 0⟩]) := hide (.inr ⟨_, 0, rfl, one_blk (w := (wA.alloc (.cells #[.int .i64 k1, .int .i64 (p : Int), .int .i64 ((p : Int) + 1), .int .i64 (p : Int), .int .i64 0] 74)).drew) hnw⟩)
      have hb0 := (Below.refl wA.heap.size wA).alloc (Nat.le_refl _) (.cells #[.int .i64 k1, .int .i64 (p : Int), .int .i64 ((p : Int) + 1), .int .i64 (p : Int), .int .i64 0] 74)
      have hb : Below wA.drew.heap.size wA.drew ((wA.alloc (.cells #[.int .i64 k1, .int .i64 (p : Int), .int .i64 ((p : Int) + 1), .int .i64 (p : Int), .int .i64 0] 74)).drew) := ⟨hb0.os, hb0.tape, hb0.output, hb0.size, hb0.block⟩
      have HB := hide (HB.out.trans (hb.mono HB.out.size))
      clear hnw hb hb0
      refine hK.out _ _ (HAll.out _ HB.out) (fun hHeld => ?_)
      clear hK K
      try simp only [Act.put, List.getElem_toArray, List.getElem_cons_zero, List.getElem_cons_succ, List.setIfInBounds_toArray, List.set_cons_zero, List.set_cons_succ]
      refine wpAnyH_ready (rs := [5]) (by kernel_rfl) (by simp) ?_
      refine AllReadyH.cons (o := _) rfl (fun K hK => ?_) (AllReadyH.nil)
      go_simp
      (with_reducible refine Calls.mono (HIb0.out _ (HBA.out.trans (HB.out.mono HBA.out.size))) ?_)
      rintro r W1 ⟨v, rfl, ho, hb⟩
      obtain ⟨g1, c1, rfl, -, -⟩ := tOwn_some ho (by omega)
      have H1 := hide (RRow.ofOwn ho rfl)
      have HXs := hide (RRow.below HXs.out hb)
      have HB := hide (HB.out.trans (hb.mono HB.out.size))
      clear ho hb
      (try go_wp2_with fail)
      refine hK.out _ _ (HAll.out _ HB.out) (fun hHeld => ?_)
      clear hK K
      try simp only [Act.put, List.getElem_toArray, List.getElem_cons_zero, List.getElem_cons_succ, List.setIfInBounds_toArray, List.set_cons_zero, List.set_cons_succ]
      refine wpAnyH_ready (rs := [12]) (by kernel_rfl) (by simp) ?_
      refine AllReadyH.cons (o := _) rfl (fun K hK => ?_) (AllReadyH.nil)
      go_simp
      (with_reducible refine Calls.mono (HIa1.out _ (HBA.out.trans (HB.out.mono HBA.out.size))) ?_)
      rintro r W2 ⟨v, rfl, ho, hb⟩
      obtain ⟨g2, c2, rfl, -, -⟩ := tOwn_some ho (by omega)
      have H2 := hide (RRow.ofOwn ho rfl)
      have HXs := hide (RRow.below HXs.out hb)
      have H1 := hide (RRow.below H1.out hb)
      have HB := hide (HB.out.trans (hb.mono HB.out.size))
      clear ho hb
      (try go_wp2_with fail)
      refine hK.out _ _ (HAll.out _ HB.out) (fun hHeld => ?_)
      clear hK K
      try simp only [Act.put, List.getElem_toArray, List.getElem_cons_zero, List.getElem_cons_succ, List.setIfInBounds_toArray, List.set_cons_zero, List.set_cons_succ]
      refine wpAnyH_ready (rs := [15]) (by kernel_rfl) (by simp) ?_
      refine AllReadyH.cons (o := _) rfl (fun K hK => ?_) AllReadyH.nil
      go_simp
      have hn3 : ((W2).alloc (.cells #[.slice (some ⟨g1, 0, none⟩) B0.length c1, .slice (some ⟨g2, 0, none⟩) A1.length c2, .slice (some ⟨wA.heap.size, 0, none⟩) 1 1] 31)).heap[W2.heap.size]? = some (.cells #[.slice (some ⟨g1, 0, none⟩) B0.length c1, .slice (some ⟨g2, 0, none⟩) A1.length c2, .slice (some ⟨wA.heap.size, 0, none⟩) 1 1] 31 (0, 0)) := by have := heap_alloc_new (W2) (.cells #[.slice (some ⟨g1, 0, none⟩) B0.length c1, .slice (some ⟨g2, 0, none⟩) A1.length c2, .slice (some ⟨wA.heap.size, 0, none⟩) 1 1] 31); simpa using this
      have hb : Below (W2).heap.size (W2) ((W2).alloc (.cells #[.slice (some ⟨g1, 0, none⟩) B0.length c1, .slice (some ⟨g2, 0, none⟩) A1.length c2, .slice (some ⟨wA.heap.size, 0, none⟩) 1 1] 31)) := (Below.refl _ _).alloc (Nat.le_refl _) _
      have H1 := hide (RRow.below H1.out hb)
      have H2 := hide (RRow.below H2.out hb)
      have HXs := hide (RRow.below HXs.out hb)
      have HB := hide (HB.out.trans (hb.mono HB.out.size))
      have HN3 := hide hn3
      clear hn3 hb
      refine hK.out _ _ (HAll.out _ HB.out) (fun hHeld => ?_)
      clear hK K
      try simp only [Act.put, List.getElem_toArray, List.getElem_cons_zero, List.getElem_cons_succ, List.setIfInBounds_toArray, List.set_cons_zero, List.set_cons_succ]
      refine wpAnyH_ready (rs := [16]) (by kernel_rfl) (by simp) ?_
      refine AllReadyH.cons (o := _) rfl (fun K hK => ?_) AllReadyH.nil
      go_simp
      (with_reducible refine Calls.mono (concatD_any (W2.heap.size) g1 0 c1 g2 0 c2 (wA.heap.size) 0 1 B0 A1 [⟨k1, (p : Int), ((p : Int) + 1), (p : Int), 0⟩] _ (by simp) (by simp; omega) (Array.getElem?_eq_some_iff.1 HN3.out).1 ((cell_of_blk HN3.out 0).trans rfl) ((cell_of_blk HN3.out 1).trans rfl) ((cell_of_blk HN3.out 2).trans rfl) H1.out H2.out HXs.out) ?_)
      rintro r W3 ⟨v, rfl, ho, hb⟩
      obtain ⟨g3, c3, rfl, -, -⟩ := tOwn_some ho (by simp)
      have HO := hide ho
      have HBs := hide HB.out.size
      have HB := hide (HB.out.trans (hb.mono HB.out.size))
      clear ho hb
      (try go_wp2_with fail)
      refine hK.out _ _ (HAll.out _ HB.out) (fun hHeld => ?_)
      clear hK K
      try simp only [Act.put, List.getElem_toArray, List.getElem_cons_zero, List.getElem_cons_succ, List.setIfInBounds_toArray, List.set_cons_zero, List.set_cons_succ]
      refine wpAnyH_take (i := 17) (oi := _) (v := ?_) rfl (by kernel_rfl) (by kernel_rfl) (by kernel_rfl) (fun _ _ _ h => h) (Or.inl ⟨by rfl, ?_⟩) (by assumption) ?_
      rotate_left 1
      · (intro w hSw; (try dsimp only at hSw); (first | (go_simp; done) | (go_simp; with_reducible rfl)))
      try simp only [Act.put, List.getElem_toArray, List.getElem_cons_zero, List.getElem_cons_succ, List.setIfInBounds_toArray, List.set_cons_zero, List.set_cons_succ]
      refine wpAnyH_done (by kernel_rfl) ?_ _
      refine NoPanic.normal ?_
      clear hHeld
      go_wp2_with fail
      go_ret
      have e : (B0 ++ A1 ++ ([⟨k1, (p : Int), ((p : Int) + 1), (p : Int), 0⟩] : List Cd)).length = B0.length + A1.length + ([⟨k1, (p : Int), ((p : Int) + 1), (p : Int), 0⟩] : List Cd).length := by simp only [List.length_append]
      rw [e]
      exact ⟨_, rfl, iOwn_lower HO.out (Nat.le_trans HBA.out.size HBs.out), HBA.out.trans (HB.out.mono HBA.out.size)⟩
  | false =>
    rw [hR] at r0
    rw [if_neg (by simp)]
    have q0 : ∀ B : Obj, (w.alloc B).cell? ⟨b, o + i * 2, none⟩ = some (.int .i64 k1) := fun B => by rw [((Below.refl w.heap.size w).alloc (Nat.le_refl _) _).cell hb]; exact p0
    have q1 : ∀ B : Obj, (w.alloc B).cell? ⟨b, o + i * 2 + 1, none⟩ = some (.int .i64 0) := fun B => by rw [((Below.refl w.heap.size w).alloc (Nat.le_refl _) _).cell hb]; exact p1
    go_enter Try.func45, Try.ntmps45
    go_wp2_with fail
    have hx0 := heap_alloc_new w (.cells #[.int .i64 k1, .int .i64 0] 55)
    refine (HPu.out _ ((Below.refl _ _).alloc (Nat.le_refl _) _)).mono ?_
    rintro e w1 ⟨rfl, hb1⟩
    have hs1 := hb1.size
    have hBw1 : Below w.heap.size w w1 := ((Below.refl _ _).alloc (Nat.le_refl _) _).trans (hb1.mono (by simp))
    have hx1 := (hb1.block w.heap.size (by simp)).trans hx0
    simp only [World.size_alloc] at hs1
    have x0 : ∀ B B2 : Obj, ((w1.alloc B).alloc B2).cell? ⟨w.heap.size, 0, none⟩ = some (.int .i64 k1) := fun B B2 => (cell_of_blk ((heap_alloc_old _ _ (by simp; omega)).trans ((heap_alloc_old _ _ (by omega)).trans hx1)) 0).trans rfl
    have r1 : ∀ B B2 : Obj, ((w1.alloc B).alloc B2).cell? ⟨rb, ro + i, none⟩ = some (.bool false) := fun B B2 => (((hBw1.alloc hBw1.size B).alloc (by have := hBw1.size; simp; omega) B2).cell (p := ⟨rb, ro + i, none⟩) hrb).trans r0
    clear hx0 hb1 HPu p0 p1 q0 q1 r0
    go_wp2_with fail
    obtain ⟨wA, hwA⟩ : ∃ wA, wA = ((w1.alloc (.cells #[.int .i64 (J1 : Int), .int .i64 (J2 : Int)] 60)).alloc (.cells #[.int .i64 (J2 : Int), .int .i64 (J3 : Int)] 60)).alloc (.cells #[.int .i64 k1, .int .i64 (p : Int), .int .i64 (p : Int), .int .i64 ((p : Int) + 1), .int .i64 0] 74) := ⟨_, rfl⟩
    have hsA : wA.heap.size = w1.heap.size + 1 + 1 + 1 := by rw [hwA]; simp
    have hBA : Below w.heap.size w wA := by rw [hwA]; exact ((hBw1.alloc hBw1.size _).alloc (by have := hBw1.size; simp; omega) _).alloc (by have := hBw1.size; simp; omega) _
    have y10 : wA.heap[w1.heap.size]? = some (.cells #[.int .i64 (J1 : Int), .int .i64 (J2 : Int)] 60 (0, 0)) := by rw [hwA, heap_alloc_old _ _ (by simp; omega), heap_alloc_old _ _ (by simp)]; exact heap_alloc_new w1 _
    have y11 : wA.heap[w1.heap.size + 1]? = some (.cells #[.int .i64 (J2 : Int), .int .i64 (J3 : Int)] 60 (0, 0)) := by rw [hwA, heap_alloc_old _ _ (by simp)]; have := heap_alloc_new (w1.alloc (.cells #[.int .i64 (J1 : Int), .int .i64 (J2 : Int)] 60)) (.cells #[.int .i64 (J2 : Int), .int .i64 (J3 : Int)] 60); simpa using this
    have y12 : wA.heap[w1.heap.size + 1 + 1]? = some (.cells #[.int .i64 k1, .int .i64 (p : Int), .int .i64 (p : Int), .int .i64 ((p : Int) + 1), .int .i64 0] 74 (0, 0)) := by rw [hwA]; have := heap_alloc_new ((w1.alloc (.cells #[.int .i64 (J1 : Int), .int .i64 (J2 : Int)] 60)).alloc (.cells #[.int .i64 (J2 : Int), .int .i64 (J3 : Int)] 60)) (.cells #[.int .i64 k1, .int .i64 (p : Int), .int .i64 (p : Int), .int .i64 ((p : Int) + 1), .int .i64 0] 74); simpa using this
    rw [← hwA]
    clear hwA x0 r1 hx1
    have HAll : Hid (∀ W1 : World, Below wA.heap.size wA W1 → W1.cell? ⟨w1.heap.size, 0, none⟩ = some (.int .i64 (J1 : Int)) ∧ W1.cell? ⟨w1.heap.size + 1, 0, none⟩ = some (.int .i64 (J2 : Int)) ∧ W1.cell? ⟨w1.heap.size + 1 + 1, 0, none⟩ = some (.int .i64 k1) ∧ W1.cell? ⟨w1.heap.size + 1 + 1, 1, none⟩ = some (.int .i64 (p : Int)) ∧ W1.cell? ⟨w1.heap.size + 1 + 1, 2, none⟩ = some (.int .i64 (p : Int)) ∧ W1.cell? ⟨w1.heap.size + 1 + 1, 3, none⟩ = some (.int .i64 ((p : Int) + 1)) ∧ W1.cell? ⟨w1.heap.size + 1 + 1, 4, none⟩ = some (.int .i64 0)) := hide (fun W1 hw => ⟨(cell_of_blk ((hw.block (w1.heap.size) (by omega)).trans y10) 0).trans rfl, (cell_of_blk ((hw.block (w1.heap.size + 1) (by omega)).trans y11) 0).trans rfl, (cell_of_blk ((hw.block (w1.heap.size + 1 + 1) (by omega)).trans y12) 0).trans rfl, (cell_of_blk ((hw.block (w1.heap.size + 1 + 1) (by omega)).trans y12) 1).trans rfl, (cell_of_blk ((hw.block (w1.heap.size + 1 + 1) (by omega)).trans y12) 2).trans rfl, (cell_of_blk ((hw.block (w1.heap.size + 1 + 1) (by omega)).trans y12) 3).trans rfl, (cell_of_blk ((hw.block (w1.heap.size + 1 + 1) (by omega)).trans y12) 4).trans rfl⟩)
    have HB : Hid (Below wA.heap.size wA wA.drew) := hide ⟨rfl, rfl, rfl, Nat.le_refl _, fun _ _ => rfl⟩
    have HBA := hide hBA
    clear y10 y11 y12 hBw1 hsA
    refine wp_region_noPanic ?_
    refine wp_region_held_drew (S := fun W1 => W1.cell? ⟨w1.heap.size, 0, none⟩ = some (.int .i64 (J1 : Int)) ∧ W1.cell? ⟨w1.heap.size + 1, 0, none⟩ = some (.int .i64 (J2 : Int)) ∧ W1.cell? ⟨w1.heap.size + 1 + 1, 0, none⟩ = some (.int .i64 k1) ∧ W1.cell? ⟨w1.heap.size + 1 + 1, 1, none⟩ = some (.int .i64 (p : Int)) ∧ W1.cell? ⟨w1.heap.size + 1 + 1, 2, none⟩ = some (.int .i64 (p : Int)) ∧ W1.cell? ⟨w1.heap.size + 1 + 1, 3, none⟩ = some (.int .i64 ((p : Int) + 1)) ∧ W1.cell? ⟨w1.heap.size + 1 + 1, 4, none⟩ = some (.int .i64 0)) (by kernel_rfl) (HAll.out _ HB.out) (fun hHeld => ?_)
    refine wpAnyH_take (i := 0) (oi := _) (v := ?_) rfl (by kernel_rfl) (by kernel_rfl) (by kernel_rfl) (fun _ _ _ h => h) (Or.inl ⟨by rfl, ?_⟩) (by assumption) ?_
    rotate_left 1
    · (intro w hSw; (try dsimp only at hSw); (first | (go_simp; done) | (go_simp; with_reducible rfl)))
    try simp only [Act.put, List.getElem_toArray, List.getElem_cons_zero, List.getElem_cons_succ, List.setIfInBounds_toArray, List.set_cons_zero, List.set_cons_succ]
    refine wpAnyH_take (i := 1) (oi := _) (v := ?_) rfl (by kernel_rfl) (by kernel_rfl) (by kernel_rfl) (fun _ _ _ h => h) (Or.inl ⟨by rfl, ?_⟩) (by assumption) ?_
    rotate_left 1
    · (intro w hSw; (try dsimp only at hSw); (first | (go_simp; done) | (go_simp; with_reducible rfl)))
    try simp only [Act.put, List.getElem_toArray, List.getElem_cons_zero, List.getElem_cons_succ, List.setIfInBounds_toArray, List.set_cons_zero, List.set_cons_succ]
    refine wpAnyH_take (i := 2) (oi := _) (v := ?_) rfl (by kernel_rfl) (by kernel_rfl) (by kernel_rfl) (fun _ _ _ h => h) (Or.inl ⟨by rfl, ?_⟩) (by assumption) ?_
    rotate_left 1
    · (intro w hSw; (try dsimp only at hSw); (first | (go_simp; done) | (go_simp; with_reducible rfl)))
    try simp only [Act.put, List.getElem_toArray, List.getElem_cons_zero, List.getElem_cons_succ, List.setIfInBounds_toArray, List.set_cons_zero, List.set_cons_succ]
    refine wpAnyH_take (i := 3) (oi := _) (v := ?_) rfl (by kernel_rfl) (by kernel_rfl) (by kernel_rfl) (fun _ _ _ h => h) (Or.inl ⟨by rfl, ?_⟩) (by assumption) ?_
    rotate_left 1
    · (intro w hSw; (try dsimp only at hSw); (first | (go_simp; done) | (go_simp; with_reducible rfl)))
    try simp only [Act.put, List.getElem_toArray, List.getElem_cons_zero, List.getElem_cons_succ, List.setIfInBounds_toArray, List.set_cons_zero, List.set_cons_succ]
    refine wpAnyH_take (i := 4) (oi := _) (v := ?_) rfl (by kernel_rfl) (by kernel_rfl) (by kernel_rfl) (fun _ _ _ h => h) (Or.inl ⟨by rfl, ?_⟩) (by assumption) ?_
    rotate_left 1
    · (intro w hSw; (try dsimp only at hSw); (first | (go_simp; done) | (go_simp; with_reducible rfl)))
    try simp only [Act.put, List.getElem_toArray, List.getElem_cons_zero, List.getElem_cons_succ, List.setIfInBounds_toArray, List.set_cons_zero, List.set_cons_succ]
    refine wpAnyH_take (i := 6) (oi := _) (v := ?_) rfl (by kernel_rfl) (by kernel_rfl) (by kernel_rfl) (fun _ _ _ h => h) (Or.inl ⟨by rfl, ?_⟩) (by assumption) ?_
    rotate_left 1
    · (intro w hSw; (try dsimp only at hSw); (first | (go_simp; done) | (go_simp; with_reducible rfl)))
    try simp only [Act.put, List.getElem_toArray, List.getElem_cons_zero, List.getElem_cons_succ, List.setIfInBounds_toArray, List.set_cons_zero, List.set_cons_succ]
    refine wpAnyH_take (i := 7) (oi := _) (v := ?_) rfl (by kernel_rfl) (by kernel_rfl) (by kernel_rfl) (fun _ _ _ h => h) (Or.inl ⟨by rfl, ?_⟩) (by assumption) ?_
    rotate_left 1
    · (intro w hSw; (try dsimp only at hSw); (first | (go_simp; done) | (go_simp; with_reducible rfl)))
    try simp only [Act.put, List.getElem_toArray, List.getElem_cons_zero, List.getElem_cons_succ, List.setIfInBounds_toArray, List.set_cons_zero, List.set_cons_succ]
    refine wpAnyH_take (i := 8) (oi := _) (v := ?_) rfl (by kernel_rfl) (by kernel_rfl) (by kernel_rfl) (fun _ _ _ h => h) (Or.inl ⟨by rfl, ?_⟩) (by assumption) ?_
    rotate_left 1
    · (intro w hSw; (try dsimp only at hSw); (first | (go_simp; done) | (go_simp; with_reducible rfl)))
    try simp only [Act.put, List.getElem_toArray, List.getElem_cons_zero, List.getElem_cons_succ, List.setIfInBounds_toArray, List.set_cons_zero, List.set_cons_succ]
    refine wpAnyH_take (i := 9) (oi := _) (v := ?_) rfl (by kernel_rfl) (by kernel_rfl) (by kernel_rfl) (fun _ _ _ h => h) (Or.inl ⟨by rfl, ?_⟩) (by assumption) ?_
    rotate_left 1
    · (intro w hSw; (try dsimp only at hSw); (first | (go_simp; done) | (go_simp; with_reducible rfl)))
    try simp only [Act.put, List.getElem_toArray, List.getElem_cons_zero, List.getElem_cons_succ, List.setIfInBounds_toArray, List.set_cons_zero, List.set_cons_succ]
    refine wpAnyH_take (i := 10) (oi := _) (v := ?_) rfl (by kernel_rfl) (by kernel_rfl) (by kernel_rfl) (fun _ _ _ h => h) (Or.inl ⟨by rfl, ?_⟩) (by assumption) ?_
    rotate_left 1
    · (intro w hSw; (try dsimp only at hSw); (first | (go_simp; done) | (go_simp; with_reducible rfl)))
    try simp only [Act.put, List.getElem_toArray, List.getElem_cons_zero, List.getElem_cons_succ, List.setIfInBounds_toArray, List.set_cons_zero, List.set_cons_succ]
    refine wpAnyH_take (i := 11) (oi := _) (v := ?_) rfl (by kernel_rfl) (by kernel_rfl) (by kernel_rfl) (fun _ _ _ h => h) (Or.inl ⟨by rfl, ?_⟩) (by assumption) ?_
    rotate_left 1
    · (intro w hSw; (try dsimp only at hSw); (first | (go_simp; done) | (go_simp; with_reducible rfl)))
    try simp only [Act.put, List.getElem_toArray, List.getElem_cons_zero, List.getElem_cons_succ, List.setIfInBounds_toArray, List.set_cons_zero, List.set_cons_succ]
    refine wpAnyH_take (i := 13) (oi := _) (v := ?_) rfl (by kernel_rfl) (by kernel_rfl) (by kernel_rfl) (fun _ _ _ h => h) (Or.inl ⟨by rfl, ?_⟩) (by assumption) ?_
    rotate_left 1
    · (intro w hSw; (try dsimp only at hSw); (first | (go_simp; done) | (go_simp; with_reducible rfl)))
    try simp only [Act.put, List.getElem_toArray, List.getElem_cons_zero, List.getElem_cons_succ, List.setIfInBounds_toArray, List.set_cons_zero, List.set_cons_succ]
    refine wpAnyH_ready (rs := [5, 14]) (by kernel_rfl) (by simp) ?_
    refine AllReadyH.cons (o := _) rfl (fun K hK => ?_) (AllReadyH.cons (o := _) rfl (fun K hK => ?_) (AllReadyH.nil))
    · go_simp
      (with_reducible refine Calls.mono (HIa0.out _ (HBA.out.trans (HB.out.mono HBA.out.size))) ?_)
      rintro r W1 ⟨v, rfl, ho, hb⟩
      obtain ⟨g1, c1, rfl, -, -⟩ := tOwn_some ho (by omega)
      have H1 := hide (RRow.ofOwn ho rfl)
      have HB := hide (HB.out.trans (hb.mono HB.out.size))
      clear ho hb
      (try go_wp2_with fail)
      refine hK.out _ _ (HAll.out _ HB.out) (fun hHeld => ?_)
      clear hK K
      try simp only [Act.put, List.getElem_toArray, List.getElem_cons_zero, List.getElem_cons_succ, List.setIfInBounds_toArray, List.set_cons_zero, List.set_cons_succ]
      refine wpAnyH_ready (rs := [12, 14]) (by kernel_rfl) (by simp) ?_
      refine AllReadyH.cons (o := _) rfl (fun K hK => ?_) (AllReadyH.cons (o := _) rfl (fun K hK => ?_) (AllReadyH.nil))
      · go_simp
        (with_reducible refine Calls.mono (HIb1.out _ (HBA.out.trans (HB.out.mono HBA.out.size))) ?_)
        rintro r W2 ⟨v, rfl, ho, hb⟩
        obtain ⟨g2, c2, rfl, -, -⟩ := tOwn_some ho (by omega)
        have H2 := hide (RRow.ofOwn ho rfl)
        have H1 := hide (RRow.below H1.out hb)
        have HB := hide (HB.out.trans (hb.mono HB.out.size))
        clear ho hb
        (try go_wp2_with fail)
        refine hK.out _ _ (HAll.out _ HB.out) (fun hHeld => ?_)
        clear hK K
        try simp only [Act.put, List.getElem_toArray, List.getElem_cons_zero, List.getElem_cons_succ, List.setIfInBounds_toArray, List.set_cons_zero, List.set_cons_succ]
        refine wpAnyH_ready (rs := [14]) (by kernel_rfl) (by simp) ?_
        refine AllReadyH.cons (o := _) rfl (fun K hK => ?_) (AllReadyH.nil)
        go_simp
        have hnw := heap_alloc_new (W2) (.cells #[.int .i64 k1, .int .i64 (p : Int), .int .i64 (p : Int), .int .i64 ((p : Int) + 1), .int .i64 0] 74)
        have HXs : Hid (CdRow ((W2).alloc (.cells #[.int .i64 k1, .int .i64 (p : Int), .int .i64 (p : Int), .int .i64 ((p : Int) + 1), .int .i64 0] 74)) (some ⟨W2.heap.size, 0, none⟩) [⟨k1, (p : Int), (p : Int), ((p : Int) + 1), 0⟩]) := hide (.inr ⟨_, 0, rfl, one_blk hnw⟩)
        have hb : Below (W2).heap.size (W2) ((W2).alloc (.cells #[.int .i64 k1, .int .i64 (p : Int), .int .i64 (p : Int), .int .i64 ((p : Int) + 1), .int .i64 0] 74)) := (Below.refl _ _).alloc (Nat.le_refl _) _
        have H1 := hide (RRow.below H1.out hb)
        have H2 := hide (RRow.below H2.out hb)
        have HB := hide (HB.out.trans (hb.mono HB.out.size))
        clear hnw hb
        refine hK.out _ _ (HAll.out _ HB.out) (fun hHeld => ?_)
        clear hK K
        try simp only [Act.put, List.getElem_toArray, List.getElem_cons_zero, List.getElem_cons_succ, List.setIfInBounds_toArray, List.set_cons_zero, List.set_cons_succ]
        refine wpAnyH_ready (rs := [15]) (by kernel_rfl) (by simp) ?_
        refine AllReadyH.cons (o := _) rfl (fun K hK => ?_) AllReadyH.nil
        go_simp
        have hn3 : (((W2).alloc (.cells #[.int .i64 k1, .int .i64 (p : Int), .int .i64 (p : Int), .int .i64 ((p : Int) + 1), .int .i64 0] 74)).alloc (.cells #[.slice (some ⟨g1, 0, none⟩) A0.length c1, .slice (some ⟨g2, 0, none⟩) B1.length c2, .slice (some ⟨W2.heap.size, 0, none⟩) 1 1] 31)).heap[W2.heap.size + 1]? = some (.cells #[.slice (some ⟨g1, 0, none⟩) A0.length c1, .slice (some ⟨g2, 0, none⟩) B1.length c2, .slice (some ⟨W2.heap.size, 0, none⟩) 1 1] 31 (0, 0)) := by have := heap_alloc_new ((W2).alloc (.cells #[.int .i64 k1, .int .i64 (p : Int), .int .i64 (p : Int), .int .i64 ((p : Int) + 1), .int .i64 0] 74)) (.cells #[.slice (some ⟨g1, 0, none⟩) A0.length c1, .slice (some ⟨g2, 0, none⟩) B1.length c2, .slice (some ⟨W2.heap.size, 0, none⟩) 1 1] 31); simpa using this
        have hb : Below ((W2).alloc (.cells #[.int .i64 k1, .int .i64 (p : Int), .int .i64 (p : Int), .int .i64 ((p : Int) + 1), .int .i64 0] 74)).heap.size ((W2).alloc (.cells #[.int .i64 k1, .int .i64 (p : Int), .int .i64 (p : Int), .int .i64 ((p : Int) + 1), .int .i64 0] 74)) (((W2).alloc (.cells #[.int .i64 k1, .int .i64 (p : Int), .int .i64 (p : Int), .int .i64 ((p : Int) + 1), .int .i64 0] 74)).alloc (.cells #[.slice (some ⟨g1, 0, none⟩) A0.length c1, .slice (some ⟨g2, 0, none⟩) B1.length c2, .slice (some ⟨W2.heap.size, 0, none⟩) 1 1] 31)) := (Below.refl _ _).alloc (Nat.le_refl _) _
        have H1 := hide (RRow.below H1.out hb)
        have H2 := hide (RRow.below H2.out hb)
        have HXs := hide (RRow.below HXs.out hb)
        have HB := hide (HB.out.trans (hb.mono HB.out.size))
        have HN3 := hide hn3
        clear hn3 hb
        refine hK.out _ _ (HAll.out _ HB.out) (fun hHeld => ?_)
        clear hK K
        try simp only [Act.put, List.getElem_toArray, List.getElem_cons_zero, List.getElem_cons_succ, List.setIfInBounds_toArray, List.set_cons_zero, List.set_cons_succ]
        refine wpAnyH_ready (rs := [16]) (by kernel_rfl) (by simp) ?_
        refine AllReadyH.cons (o := _) rfl (fun K hK => ?_) AllReadyH.nil
        go_simp
        (with_reducible refine Calls.mono (concatD_any (W2.heap.size + 1) g1 0 c1 g2 0 c2 (W2.heap.size) 0 1 A0 B1 [⟨k1, (p : Int), (p : Int), ((p : Int) + 1), 0⟩] _ (by simp) (by simp; omega) (Array.getElem?_eq_some_iff.1 HN3.out).1 ((cell_of_blk HN3.out 0).trans rfl) ((cell_of_blk HN3.out 1).trans rfl) ((cell_of_blk HN3.out 2).trans rfl) H1.out H2.out HXs.out) ?_)
        rintro r W3 ⟨v, rfl, ho, hb⟩
        obtain ⟨g3, c3, rfl, -, -⟩ := tOwn_some ho (by simp)
        have HO := hide ho
        have HBs := hide HB.out.size
        have HB := hide (HB.out.trans (hb.mono HB.out.size))
        clear ho hb
        (try go_wp2_with fail)
        refine hK.out _ _ (HAll.out _ HB.out) (fun hHeld => ?_)
        clear hK K
        try simp only [Act.put, List.getElem_toArray, List.getElem_cons_zero, List.getElem_cons_succ, List.setIfInBounds_toArray, List.set_cons_zero, List.set_cons_succ]
        refine wpAnyH_take (i := 17) (oi := _) (v := ?_) rfl (by kernel_rfl) (by kernel_rfl) (by kernel_rfl) (fun _ _ _ h => h) (Or.inl ⟨by rfl, ?_⟩) (by assumption) ?_
        rotate_left 1
        · (intro w hSw; (try dsimp only at hSw); (first | (go_simp; done) | (go_simp; with_reducible rfl)))
        try simp only [Act.put, List.getElem_toArray, List.getElem_cons_zero, List.getElem_cons_succ, List.setIfInBounds_toArray, List.set_cons_zero, List.set_cons_succ]
        refine wpAnyH_done (by kernel_rfl) ?_ _
        refine NoPanic.normal ?_
        clear hHeld
        go_wp2_with fail
        go_ret
        have e : (A0 ++ B1 ++ ([⟨k1, (p : Int), (p : Int), ((p : Int) + 1), 0⟩] : List Cd)).length = A0.length + B1.length + ([⟨k1, (p : Int), (p : Int), ((p : Int) + 1), 0⟩] : List Cd).length := by simp only [List.length_append]
        rw [e]
        exact ⟨_, rfl, iOwn_lower HO.out (Nat.le_trans HBA.out.size HBs.out), HBA.out.trans (HB.out.mono HBA.out.size)⟩
      · go_simp
        have hnw := heap_alloc_new (W1) (.cells #[.int .i64 k1, .int .i64 (p : Int), .int .i64 (p : Int), .int .i64 ((p : Int) + 1), .int .i64 0] 74)
        have HXs : Hid (CdRow ((W1).alloc (.cells #[.int .i64 k1, .int .i64 (p : Int), .int .i64 (p : Int), .int .i64 ((p : Int) + 1), .int .i64 0] 74)) (some ⟨W1.heap.size, 0, none⟩) [⟨k1, (p : Int), (p : Int), ((p : Int) + 1), 0⟩]) := hide (.inr ⟨_, 0, rfl, one_blk hnw⟩)
        have hb : Below (W1).heap.size (W1) ((W1).alloc (.cells #[.int .i64 k1, .int .i64 (p : Int), .int .i64 (p : Int), .int .i64 ((p : Int) + 1), .int .i64 0] 74)) := (Below.refl _ _).alloc (Nat.le_refl _) _
        have H1 := hide (RRow.below H1.out hb)
        have HB := hide (HB.out.trans (hb.mono HB.out.size))
        clear hnw hb
        refine hK.out _ _ (HAll.out _ HB.out) (fun hHeld => ?_)
        clear hK K
        try simp only [Act.put, List.getElem_toArray, List.getElem_cons_zero, List.getElem_cons_succ, List.setIfInBounds_toArray, List.set_cons_zero, List.set_cons_succ]
        refine wpAnyH_ready (rs := [12]) (by kernel_rfl) (by simp) ?_
        refine AllReadyH.cons (o := _) rfl (fun K hK => ?_) (AllReadyH.nil)
        go_simp
        (with_reducible refine Calls.mono (HIb1.out _ (HBA.out.trans (HB.out.mono HBA.out.size))) ?_)
        rintro r W2 ⟨v, rfl, ho, hb⟩
        obtain ⟨g2, c2, rfl, -, -⟩ := tOwn_some ho (by omega)
        have H2 := hide (RRow.ofOwn ho rfl)
        have H1 := hide (RRow.below H1.out hb)
        have HXs := hide (RRow.below HXs.out hb)
        have HB := hide (HB.out.trans (hb.mono HB.out.size))
        clear ho hb
        (try go_wp2_with fail)
        refine hK.out _ _ (HAll.out _ HB.out) (fun hHeld => ?_)
        clear hK K
        try simp only [Act.put, List.getElem_toArray, List.getElem_cons_zero, List.getElem_cons_succ, List.setIfInBounds_toArray, List.set_cons_zero, List.set_cons_succ]
        refine wpAnyH_ready (rs := [15]) (by kernel_rfl) (by simp) ?_
        refine AllReadyH.cons (o := _) rfl (fun K hK => ?_) AllReadyH.nil
        go_simp
        have hn3 : ((W2).alloc (.cells #[.slice (some ⟨g1, 0, none⟩) A0.length c1, .slice (some ⟨g2, 0, none⟩) B1.length c2, .slice (some ⟨W1.heap.size, 0, none⟩) 1 1] 31)).heap[W2.heap.size]? = some (.cells #[.slice (some ⟨g1, 0, none⟩) A0.length c1, .slice (some ⟨g2, 0, none⟩) B1.length c2, .slice (some ⟨W1.heap.size, 0, none⟩) 1 1] 31 (0, 0)) := by have := heap_alloc_new (W2) (.cells #[.slice (some ⟨g1, 0, none⟩) A0.length c1, .slice (some ⟨g2, 0, none⟩) B1.length c2, .slice (some ⟨W1.heap.size, 0, none⟩) 1 1] 31); simpa using this
        have hb : Below (W2).heap.size (W2) ((W2).alloc (.cells #[.slice (some ⟨g1, 0, none⟩) A0.length c1, .slice (some ⟨g2, 0, none⟩) B1.length c2, .slice (some ⟨W1.heap.size, 0, none⟩) 1 1] 31)) := (Below.refl _ _).alloc (Nat.le_refl _) _
        have H1 := hide (RRow.below H1.out hb)
        have H2 := hide (RRow.below H2.out hb)
        have HXs := hide (RRow.below HXs.out hb)
        have HB := hide (HB.out.trans (hb.mono HB.out.size))
        have HN3 := hide hn3
        clear hn3 hb
        refine hK.out _ _ (HAll.out _ HB.out) (fun hHeld => ?_)
        clear hK K
        try simp only [Act.put, List.getElem_toArray, List.getElem_cons_zero, List.getElem_cons_succ, List.setIfInBounds_toArray, List.set_cons_zero, List.set_cons_succ]
        refine wpAnyH_ready (rs := [16]) (by kernel_rfl) (by simp) ?_
        refine AllReadyH.cons (o := _) rfl (fun K hK => ?_) AllReadyH.nil
        go_simp
        (with_reducible refine Calls.mono (concatD_any (W2.heap.size) g1 0 c1 g2 0 c2 (W1.heap.size) 0 1 A0 B1 [⟨k1, (p : Int), (p : Int), ((p : Int) + 1), 0⟩] _ (by simp) (by simp; omega) (Array.getElem?_eq_some_iff.1 HN3.out).1 ((cell_of_blk HN3.out 0).trans rfl) ((cell_of_blk HN3.out 1).trans rfl) ((cell_of_blk HN3.out 2).trans rfl) H1.out H2.out HXs.out) ?_)
        rintro r W3 ⟨v, rfl, ho, hb⟩
        obtain ⟨g3, c3, rfl, -, -⟩ := tOwn_some ho (by simp)
        have HO := hide ho
        have HBs := hide HB.out.size
        have HB := hide (HB.out.trans (hb.mono HB.out.size))
        clear ho hb
        (try go_wp2_with fail)
        refine hK.out _ _ (HAll.out _ HB.out) (fun hHeld => ?_)
        clear hK K
        try simp only [Act.put, List.getElem_toArray, List.getElem_cons_zero, List.getElem_cons_succ, List.setIfInBounds_toArray, List.set_cons_zero, List.set_cons_succ]
        refine wpAnyH_take (i := 17) (oi := _) (v := ?_) rfl (by kernel_rfl) (by kernel_rfl) (by kernel_rfl) (fun _ _ _ h => h) (Or.inl ⟨by rfl, ?_⟩) (by assumption) ?_
        rotate_left 1
        · (intro w hSw; (try dsimp only at hSw); (first | (go_simp; done) | (go_simp; with_reducible rfl)))
        try simp only [Act.put, List.getElem_toArray, List.getElem_cons_zero, List.getElem_cons_succ, List.setIfInBounds_toArray, List.set_cons_zero, List.set_cons_succ]
        refine wpAnyH_done (by kernel_rfl) ?_ _
        refine NoPanic.normal ?_
        clear hHeld
        go_wp2_with fail
        go_ret
        have e : (A0 ++ B1 ++ ([⟨k1, (p : Int), (p : Int), ((p : Int) + 1), 0⟩] : List Cd)).length = A0.length + B1.length + ([⟨k1, (p : Int), (p : Int), ((p : Int) + 1), 0⟩] : List Cd).length := by simp only [List.length_append]
        rw [e]
        exact ⟨_, rfl, iOwn_lower HO.out (Nat.le_trans HBA.out.size HBs.out), HBA.out.trans (HB.out.mono HBA.out.size)⟩
    · go_simp
      have hnw := heap_alloc_new wA (.cells #[.int .i64 k1, .int .i64 (p : Int), .int .i64 (p : Int), .int .i64 ((p : Int) + 1), .int .i64 0] 74)
      have HXs : Hid (CdRow ((wA.alloc (.cells #[.int .i64 k1, .int .i64 (p : Int), .int .i64 (p : Int), .int .i64 ((p : Int) + 1), .int .i64 0] 74)).drew) (some ⟨wA.heap.size, 0, none⟩) [⟨k1, (p : Int), (p : Int), ((p : Int) + 1), 0⟩]) := hide (.inr ⟨_, 0, rfl, one_blk (w := (wA.alloc (.cells #[.int .i64 k1, .int .i64 (p : Int), .int .i64 (p : Int), .int .i64 ((p : Int) + 1), .int .i64 0] 74)).drew) hnw⟩)
      have hb0 := (Below.refl wA.heap.size wA).alloc (Nat.le_refl _) (.cells #[.int .i64 k1, .int .i64 (p : Int), .int .i64 (p : Int), .int .i64 ((p : Int) + 1), .int .i64 0] 74)
      have hb : Below wA.drew.heap.size wA.drew ((wA.alloc (.cells #[.int .i64 k1, .int .i64 (p : Int), .int .i64 (p : Int), .int .i64 ((p : Int) + 1), .int .i64 0] 74)).drew) := ⟨hb0.os, hb0.tape, hb0.output, hb0.size, hb0.block⟩
      have HB := hide (HB.out.trans (hb.mono HB.out.size))
      clear hnw hb hb0
      refine hK.out _ _ (HAll.out _ HB.out) (fun hHeld => ?_)
      clear hK K
      try simp only [Act.put, List.getElem_toArray, List.getElem_cons_zero, List.getElem_cons_succ, List.setIfInBounds_toArray, List.set_cons_zero, List.set_cons_succ]
      refine wpAnyH_ready (rs := [5]) (by kernel_rfl) (by simp) ?_
      refine AllReadyH.cons (o := _) rfl (fun K hK => ?_) (AllReadyH.nil)
      go_simp
      (with_reducible refine Calls.mono (HIa0.out _ (HBA.out.trans (HB.out.mono HBA.out.size))) ?_)
      rintro r W1 ⟨v, rfl, ho, hb⟩
      obtain ⟨g1, c1, rfl, -, -⟩ := tOwn_some ho (by omega)
      have H1 := hide (RRow.ofOwn ho rfl)
      have HXs := hide (RRow.below HXs.out hb)
      have HB := hide (HB.out.trans (hb.mono HB.out.size))
      clear ho hb
      (try go_wp2_with fail)
      refine hK.out _ _ (HAll.out _ HB.out) (fun hHeld => ?_)
      clear hK K
      try simp only [Act.put, List.getElem_toArray, List.getElem_cons_zero, List.getElem_cons_succ, List.setIfInBounds_toArray, List.set_cons_zero, List.set_cons_succ]
      refine wpAnyH_ready (rs := [12]) (by kernel_rfl) (by simp) ?_
      refine AllReadyH.cons (o := _) rfl (fun K hK => ?_) (AllReadyH.nil)
      go_simp
      (with_reducible refine Calls.mono (HIb1.out _ (HBA.out.trans (HB.out.mono HBA.out.size))) ?_)
      rintro r W2 ⟨v, rfl, ho, hb⟩
      obtain ⟨g2, c2, rfl, -, -⟩ := tOwn_some ho (by omega)
      have H2 := hide (RRow.ofOwn ho rfl)
      have HXs := hide (RRow.below HXs.out hb)
      have H1 := hide (RRow.below H1.out hb)
      have HB := hide (HB.out.trans (hb.mono HB.out.size))
      clear ho hb
      (try go_wp2_with fail)
      refine hK.out _ _ (HAll.out _ HB.out) (fun hHeld => ?_)
      clear hK K
      try simp only [Act.put, List.getElem_toArray, List.getElem_cons_zero, List.getElem_cons_succ, List.setIfInBounds_toArray, List.set_cons_zero, List.set_cons_succ]
      refine wpAnyH_ready (rs := [15]) (by kernel_rfl) (by simp) ?_
      refine AllReadyH.cons (o := _) rfl (fun K hK => ?_) AllReadyH.nil
      go_simp
      have hn3 : ((W2).alloc (.cells #[.slice (some ⟨g1, 0, none⟩) A0.length c1, .slice (some ⟨g2, 0, none⟩) B1.length c2, .slice (some ⟨wA.heap.size, 0, none⟩) 1 1] 31)).heap[W2.heap.size]? = some (.cells #[.slice (some ⟨g1, 0, none⟩) A0.length c1, .slice (some ⟨g2, 0, none⟩) B1.length c2, .slice (some ⟨wA.heap.size, 0, none⟩) 1 1] 31 (0, 0)) := by have := heap_alloc_new (W2) (.cells #[.slice (some ⟨g1, 0, none⟩) A0.length c1, .slice (some ⟨g2, 0, none⟩) B1.length c2, .slice (some ⟨wA.heap.size, 0, none⟩) 1 1] 31); simpa using this
      have hb : Below (W2).heap.size (W2) ((W2).alloc (.cells #[.slice (some ⟨g1, 0, none⟩) A0.length c1, .slice (some ⟨g2, 0, none⟩) B1.length c2, .slice (some ⟨wA.heap.size, 0, none⟩) 1 1] 31)) := (Below.refl _ _).alloc (Nat.le_refl _) _
      have H1 := hide (RRow.below H1.out hb)
      have H2 := hide (RRow.below H2.out hb)
      have HXs := hide (RRow.below HXs.out hb)
      have HB := hide (HB.out.trans (hb.mono HB.out.size))
      have HN3 := hide hn3
      clear hn3 hb
      refine hK.out _ _ (HAll.out _ HB.out) (fun hHeld => ?_)
      clear hK K
      try simp only [Act.put, List.getElem_toArray, List.getElem_cons_zero, List.getElem_cons_succ, List.setIfInBounds_toArray, List.set_cons_zero, List.set_cons_succ]
      refine wpAnyH_ready (rs := [16]) (by kernel_rfl) (by simp) ?_
      refine AllReadyH.cons (o := _) rfl (fun K hK => ?_) AllReadyH.nil
      go_simp
      (with_reducible refine Calls.mono (concatD_any (W2.heap.size) g1 0 c1 g2 0 c2 (wA.heap.size) 0 1 A0 B1 [⟨k1, (p : Int), (p : Int), ((p : Int) + 1), 0⟩] _ (by simp) (by simp; omega) (Array.getElem?_eq_some_iff.1 HN3.out).1 ((cell_of_blk HN3.out 0).trans rfl) ((cell_of_blk HN3.out 1).trans rfl) ((cell_of_blk HN3.out 2).trans rfl) H1.out H2.out HXs.out) ?_)
      rintro r W3 ⟨v, rfl, ho, hb⟩
      obtain ⟨g3, c3, rfl, -, -⟩ := tOwn_some ho (by simp)
      have HO := hide ho
      have HBs := hide HB.out.size
      have HB := hide (HB.out.trans (hb.mono HB.out.size))
      clear ho hb
      (try go_wp2_with fail)
      refine hK.out _ _ (HAll.out _ HB.out) (fun hHeld => ?_)
      clear hK K
      try simp only [Act.put, List.getElem_toArray, List.getElem_cons_zero, List.getElem_cons_succ, List.setIfInBounds_toArray, List.set_cons_zero, List.set_cons_succ]
      refine wpAnyH_take (i := 17) (oi := _) (v := ?_) rfl (by kernel_rfl) (by kernel_rfl) (by kernel_rfl) (fun _ _ _ h => h) (Or.inl ⟨by rfl, ?_⟩) (by assumption) ?_
      rotate_left 1
      · (intro w hSw; (try dsimp only at hSw); (first | (go_simp; done) | (go_simp; with_reducible rfl)))
      try simp only [Act.put, List.getElem_toArray, List.getElem_cons_zero, List.getElem_cons_succ, List.setIfInBounds_toArray, List.set_cons_zero, List.set_cons_succ]
      refine wpAnyH_done (by kernel_rfl) ?_ _
      refine NoPanic.normal ?_
      clear hHeld
      go_wp2_with fail
      go_ret
      have e : (A0 ++ B1 ++ ([⟨k1, (p : Int), (p : Int), ((p : Int) + 1), 0⟩] : List Cd)).length = A0.length + B1.length + ([⟨k1, (p : Int), (p : Int), ((p : Int) + 1), 0⟩] : List Cd).length := by simp only [List.length_append]
      rw [e]
      exact ⟨_, rfl, iOwn_lower HO.out (Nat.le_trans HBA.out.size HBs.out), HBA.out.trans (HB.out.mono HBA.out.size)⟩
end Go.Proofs.Ytiphcjbmoekkkaa.L

/-
  Twelve sets as an array, and sets shared with others: (blockSet).sharedWith. Conditions: none.
-/
import Derived.Test.YtgmablmkjngkkaaGrZ
import Derived.Deep.MidRow
namespace Go.Proofs.Ytgmablmkjngkkaa.W
open Go.ChangeShapes Go.WideShapes Go.ChangeAt Go.RowKit Go.Joins
set_option linter.unusedVariables false
set_option maxRecDepth 20000

def sL (f : Nat → Bool) : List Value := (List.range 12).map fun i => Value.bool (f i)
theorem sA_eq (f : Nat → Bool) : sA f = (sL f).toArray := rfl
theorem sL_len (f : Nat → Bool) : (sL f).length = 12 := by simp [sL]
theorem sL_at (f : Nat → Bool) {i : Nat} (h : i < 12) : (sL f)[i]? = some (.bool (f i)) := by simp [sL, h]
/-- Twelve times twelve truths as cells. -/
def dA (F : Nat → Nat → Bool) : Array Value := ((List.range 144).map fun i => Value.bool (F (i / 12) (i % 12))).toArray
theorem dA_size (F : Nat → Nat → Bool) : (dA F).size = 144 := by simp [dA]
theorem dA_at (F : Nat → Nat → Bool) {i : Nat} (h : i < 144) : (dA F)[i]? = some (.bool (F (i / 12) (i % 12))) := by simp [dA, h]
theorem dA_cell (F : Nat → Nat → Bool) {b d : Nat} (hb : b < 12) (hd : d < 12) : (dA F)[b * 12 + d]? = some (.bool (F b d)) := by
  rw [dA_at F (by omega), show (b * 12 + d) / 12 = b by omega, show (b * 12 + d) % 12 = d by omega]
theorem dA_congr {F G : Nat → Nat → Bool} (h : ∀ b d, b < 12 → d < 12 → F b d = G b d) : dA F = dA G := by
  unfold dA
  congr 1
  refine List.map_congr_left (fun i hi => ?_)
  have := List.mem_range.1 hi
  rw [h (i / 12) (i % 12) (by omega) (by omega)]
theorem dA_rng {w : World} {B : Nat} {F : Nat → Nat → Bool} {T : TypeId} (h : Bx w B (dA F) T) {b : Nat} (hb : b < 12) : w.rangeAt B (b * 12) (sL (F b)) := by
  intro j v hv
  have hj : j < 12 := by have := (List.getElem?_eq_some_iff.1 hv).1; rwa [sL_len] at this
  rw [h.c, dA_cell F hb hj, ← hv, sL_at _ hj]
def updR (F : Nat → Nat → Bool) (b : Nat) (f : Nat → Bool) : Nat → Nat → Bool := fun x => if x = b then f else F x
theorem updR_same (F : Nat → Nat → Bool) (b : Nat) (f : Nat → Bool) : updR F b f b = f := by simp [updR]
theorem updR_other (F : Nat → Nat → Bool) (b : Nat) (f : Nat → Bool) {x : Nat} (h : x ≠ b) : updR F b f x = F x := by simp [updR, h]
theorem dA_there {w : World} {B : Nat} {F : Nat → Nat → Bool} {T : TypeId} (h : Bx w B (dA F) T) {b : Nat} (hb : b < 12) (f : Nat → Bool) : w.there B (b * 12) (sA f).size := by
  intro j hj
  rw [sA_size] at hj
  exact ⟨by rw [h.c, dA_cell F hb hj]; rfl, h.f _⟩
theorem setCells_blk (B : Nat) {T : TypeId} {fr : Nat × Nat} : ∀ (vs : List Value) (o : Nat) (w : World) (cur : Array Value), w.heap[B]? = some (.cells cur T fr) →
    ∃ cur', (w.setCells B o vs).heap[B]? = some (.cells cur' T fr) ∧ cur'.size = cur.size ∧ (∀ k, k < o → cur'[k]? = cur[k]?) ∧ (∀ k, o + vs.length ≤ k → cur'[k]? = cur[k]?) ∧ ∀ j, j < vs.length → o + j < cur.size → cur'[o + j]? = vs[j]?
  | [], o, w, cur, h => ⟨cur, h, rfl, fun _ _ => rfl, fun _ _ => rfl, fun j hj => by simp at hj⟩
  | v :: vs, o, w, cur, h => by
    obtain ⟨c2, h1, h2, h3, h4, h5⟩ := setCells_blk B vs (o + 1) (w.setCell ⟨B, o, none⟩ v) _ (blk_setCell h v)
    refine ⟨c2, h1, by rw [h2]; simp, fun k hk => ?_, fun k hk => ?_, fun j hj hs => ?_⟩
    · rw [h3 k (by omega), Array.getElem?_setIfInBounds, if_neg (by omega)]
    · simp only [List.length_cons] at hk
      rw [h4 k (by omega), Array.getElem?_setIfInBounds, if_neg (by omega)]
    · cases j with
      | zero =>
        rw [h3 (o + 0) (by omega), Array.getElem?_setIfInBounds, if_pos (by omega), if_pos (by omega)]
        rfl
      | succ j =>
        simp only [List.length_cons] at hj
        rw [show o + (j + 1) = o + 1 + j by omega, h5 j (by omega) (by rw [Array.size_setIfInBounds]; omega)]
        rfl
theorem setCells_ne (B : Nat) : ∀ (vs : List Value) (o : Nat) (w : World) {k : Nat}, k ≠ B → (w.setCells B o vs).heap[k]? = w.heap[k]?
  | [], o, w, k, h => rfl
  | v :: vs, o, w, k, h => (setCells_ne B vs (o + 1) (w.setCell ⟨B, o, none⟩ v) h).trans (Below.heap_setCell _ _ _ _ h)
theorem setCells_size (B : Nat) : ∀ (vs : List Value) (o : Nat) (w : World), (w.setCells B o vs).heap.size = w.heap.size
  | [], o, w => rfl
  | v :: vs, o, w => (setCells_size B vs (o + 1) (w.setCell ⟨B, o, none⟩ v)).trans (by simp [World.setCell])
theorem setCells_same (B : Nat) : ∀ (vs : List Value) (o : Nat) (w : World), (w.setCells B o vs).os = w.os ∧ (w.setCells B o vs).tape = w.tape ∧ (w.setCells B o vs).output = w.output
  | [], o, w => ⟨rfl, rfl, rfl⟩
  | v :: vs, o, w => setCells_same B vs (o + 1) (w.setCell ⟨B, o, none⟩ v)
theorem setCells_below {A B : Nat} {x w : World} (vs : List Value) (o : Nat) (h : Below A x w) (hB : A ≤ B) : Below A x (w.setCells B o vs) := by
  obtain ⟨h1, h2, h3⟩ := setCells_same B vs o w
  exact ⟨h1.trans h.os, h2.trans h.tape, h3.trans h.output, by rw [setCells_size]; exact h.size, fun k hk => by
    have hk2 : k ≠ B := by omega
    rw [setCells_ne B vs o w hk2]
    exact h.block k hk⟩
theorem dA_store {w : World} {B : Nat} {F : Nat → Nat → Bool} {T : TypeId} (h : Bx w B (dA F) T) {b : Nat} (hb : b < 12) (f : Nat → Bool) : Bx (w.setCells B (b * 12) (sA f).toList) B (dA (updR F b f)) T := by
  obtain ⟨c, h1, h2, h3, h4, h5⟩ := setCells_blk B (sA f).toList (b * 12) w (dA F) h
  have hl : (sA f).toList.length = 12 := by rw [Array.length_toList, sA_size]
  rw [hl] at h4 h5
  rw [dA_size] at h2 h5
  suffices e : c = dA (updR F b f) by
    unfold Bx
    rw [h1, e]
  apply Array.ext_getElem?
  intro k
  by_cases hk : k < 144
  · rw [dA_at _ hk]
    by_cases e : k / 12 = b
    · subst e
      rw [updR_same]
      have := h5 (k % 12) (by omega) (by omega)
      rw [show k / 12 * 12 + k % 12 = k by omega] at this
      rw [this, Array.getElem?_toList, sA_at f (by omega)]
    · rw [updR_other _ _ _ e]
      by_cases e2 : k < b * 12
      · rw [h3 k e2, dA_at _ hk]
      · rw [h4 k (by omega), dA_at _ hk]
  · rw [Array.getElem?_eq_none (by omega), Array.getElem?_eq_none (by rw [dA_size]; omega)]
theorem dA_one (F : Nat → Nat → Bool) : (dA F).all (·.oneCell') = true := by
  rw [Array.all_eq_true_iff_forall_mem]
  intro x hx
  simp [dA] at hx
  obtain ⟨a, -, rfl⟩ := hx
  rfl
theorem sA_rng {w : World} {B : Nat} {f : Nat → Bool} {T : TypeId} (h : Bx w B (sA f) T) : w.rangeAt B 0 (sL f) := by
  intro j v hv
  have hj : j < 12 := by have := (List.getElem?_eq_some_iff.1 hv).1; rwa [sL_len] at this
  rw [Nat.zero_add, h.c, sA_at f hj, ← hv, sL_at _ hj]
theorem dInfo : (Try.prog.info? 62).map (fun i => (i.zero, i.size)) = some (some (.agg (dA fun _ _ => false)), 144) := by kernel_rfl
theorem dSize : (Try.prog.info? 62).map (·.size) = some 144 := by kernel_rfl
theorem bsInfo' (f : Nat → Bool) : (Try.prog.info? 60).map (·.size) = some (sL f).length := by rw [sL_len]; exact bsInfo

theorem Bx.oth {w w' : World} {B b : Nat} {cs : Array Value} {T : TypeId} (h : Bx w b cs T) (ho : Oth B w w') (hn : b ≠ B) : Bx w' b cs T := (ho.block b h.lt hn).trans h
theorem wpList_store_set {w : World} {ops : Array Oper} {rest : List Oper} {o : Oper} {a : Act} {Q : Exit → Act → World → Prop} (hgd : o.guard = none) (x y : Operand) (ho : o.op = .store 60 x y)
    (B b : Nat) (F : Nat → Nat → Bool) (f : Nat → Bool) (T : TypeId) (hX : Bx w B (dA F) T) (hb : b < 12) (hx : a.eval x = .pointer (some ⟨B, b * 12, none⟩)) (hy : a.eval y = .agg (sA f))
    (h : ∀ w', Bx w' B (dA (updR F b f)) T → Oth B w w' → wpList Try.prog ops Q rest (a.put o.dst undef) w') : wpList Try.prog ops Q (o :: rest) a w := by
  refine wpList_store_mid hgd 60 x y ho B (b * 12) (sA f) hx hy (dA_there hX hb f) (by rw [sA_size]; exact bsInfo) (sA_one f) (h _ (dA_store hX hb f) ?_)
  obtain ⟨h1, h2, h3⟩ := setCells_same B (sA f).toList (b * 12) w
  exact ⟨h1, h2, h3, by rw [setCells_size]; exact Nat.le_refl _, fun k _ hk => setCells_ne B _ _ _ hk⟩
theorem wpList_load_set {w : World} {ops : Array Oper} {rest : List Oper} {o : Oper} {a : Act} {Q : Exit → Act → World → Prop} (hgd : o.guard = none) (x : Operand) (ho : o.op = .load 60 x)
    (B b : Nat) (F : Nat → Nat → Bool) (T : TypeId) (hX : Bx w B (dA F) T) (hb : b < 12) (hx : a.eval x = .pointer (some ⟨B, b * 12, none⟩))
    (h : wpList Try.prog ops Q rest (a.put o.dst (.agg (sA (F b)))) w) : wpList Try.prog ops Q (o :: rest) a w :=
  wpList_load_mid hgd 60 x ho B (b * 12) hx (sL (F b)) _ (dA_rng hX hb) Try.underlying60 rfl (bsInfo' _) h

set_option maxHeartbeats 4000000 in
theorem shared_any (f g : Nat → Bool) (w : World) :
    Calls Try.prog 57 #[.agg (sA f), .agg (sA g)] w fun e w' => e = .returned (.agg (sA fun i => f i && g i)) ∧ Below w.heap.size w w' := by
  obtain ⟨W2, hW2⟩ : ∃ W2, W2 = ((w.alloc (.cells (sA f) 60)).alloc (.cells (sA g) 60)).alloc (.cells (sA fun _ => false) 60) := ⟨_, rfl⟩
  have hB2 : Below w.heap.size w W2 := by rw [hW2]; exact (((Below.refl _ _).alloc (Nat.le_refl _) _).alloc (by simp) _).alloc (by simp; omega) _
  have HX2 : Hid (Bx W2 w.heap.size (sA f) 60) := hide (by rw [hW2]; exact ((Bx.new w _ _).alloc _).alloc _)
  have HX3 : Hid (Bx W2 (w.heap.size + 1) (sA g) 60) := hide (by rw [hW2]; have := (Bx.new (w.alloc (.cells (sA f) 60)) (sA g) 60).alloc (.cells (sA fun _ => false) 60); simpa using this)
  have HX4 : Hid (Bx W2 (w.heap.size + 1 + 1) (sA fun _ => false) 60) := hide (by rw [hW2]; have := Bx.new ((w.alloc (.cells (sA f) 60)).alloc (.cells (sA g) 60)) (sA fun _ => false) 60; simpa using this)
  have HW2 := hide hW2
  clear hW2
  go_enter Try.func57, Try.ntmps57
  go_upto_region 1 with fail
  rw [show (((w.alloc (.cells (sA f) 60)).alloc (.cells (sA g) 60)).alloc (.cells #[.bool false, .bool false, .bool false, .bool false, .bool false, .bool false, .bool false, .bool false, .bool false, .bool false, .bool false, .bool false] 60)) = W2 from HW2.out.symm]
  obtain ⟨B3, hB3⟩ : ∃ B3, B3 = w.heap.size + 1 := ⟨_, rfl⟩
  obtain ⟨B4, hB4⟩ : ∃ B4, B4 = w.heap.size + 1 + 1 := ⟨_, rfl⟩
  obtain ⟨BB, hBB⟩ : ∃ BB, BB = w.heap.size := ⟨_, rfl⟩
  rw [← hB4] at HX4 ⊢
  rw [← hB3] at HX3 ⊢
  have h3 : w.heap.size < B3 := by omega
  have h4 : w.heap.size < B4 := by omega
  have h34 : B3 ≠ B4 := by omega
  clear hB3 hB4 HW2
  rw [← hBB] at HX2 ⊢
  have hBB2 : w.heap.size ≤ BB := by omega
  have h23 : BB ≠ B3 := by omega
  have h24 : BB ≠ B4 := by omega
  have h32 : B3 ≠ BB := by omega
  have h42 : B4 ≠ BB := by omega
  clear hBB
  go_wp2_with fail
  go_loopw [6] (fun i w' => ∃ j : Nat, j ≤ 12 ∧ i = .int .i64 j ∧ Bx w' BB (sA fun k => if k < j then f k && g k else f k) 60 ∧ Bx w' B3 (sA g) 60 ∧ Bx w' B4 (sA fun _ => false) 60 ∧ Below w.heap.size w w') (fun i _ => 12 - (intOf i).toNat)
  case atStart => exact ⟨0, by omega, rfl, by have := HX2.out; simpa using this, HX3.out, HX4.out, hB2⟩
  case round =>
    clear HX2 HX3 HX4 hB2
    obtain ⟨j, hj, rfl, hX2, hX3, hX4, hB⟩ := hrel
    have HX2 := hide hX2
    have HX3 := hide hX3
    have HX4 := hide hX4
    have HB := hide hB
    clear hX2 hX3 hX4 hB
    by_cases hlt : j < 12
    · have hlt' : (j : Int) < 12 := by omega
      have c2 : wr.cell? ⟨BB, j, none⟩ = some (.bool (f j)) := by rw [HX2.out.c, sA_at _ hlt]; simp
      have c3 : wr.cell? ⟨B3, j, none⟩ = some (.bool (g j)) := by rw [HX3.out.c]; exact sA_at _ hlt
      have f2 := HX2.out.f
      obtain ⟨p, hp⟩ : ∃ p, p = f j := ⟨_, rfl⟩
      obtain ⟨q, hq⟩ : ∃ q, q = g j := ⟨_, rfl⟩
      rw [← hp] at c2
      rw [← hq] at c3
      have HN2 : Hid (∀ w' : World, w' = wr.setCell ⟨BB, j, none⟩ (.bool (p && q)) → Bx w' BB (sA fun k => if k < j + 1 then f k && g k else f k) 60 ∧ Bx w' B3 (sA g) 60 ∧ Bx w' B4 (sA fun _ => false) 60 ∧ Below w.heap.size w w') := hide (fun w' e => by
        subst e
        refine ⟨?_, HX3.out.setne _ _ _ h32, HX4.out.setne _ _ _ h42, HB.out.setCell (p := ⟨BB, j, none⟩) hBB2 _⟩
        have := HX2.out.set j (.bool (p && q))
        rw [sA_set] at this
        rw [sA_congr (g := upd (fun k => if k < j then f k && g k else f k) j (p && q)) (fun i hi => ?_)]
        · exact this
        · by_cases e : i = j
          · subst e
            rw [upd_same, if_pos (by omega), hp, hq]
          · rw [upd_other _ _ _ e]
            by_cases e2 : i < j
            · rw [if_pos (by omega), if_pos e2]
            · rw [if_neg (by omega), if_neg e2])
      clear hp hq
      cases p with
      | true =>
        go_wp2_with fail
        obtain ⟨n1, n2, n3, n4⟩ := HN2.out _ (by rw [Bool.true_and])
        exact ⟨⟨j + 1, by omega, by go_num, n1, n2, n3, n4⟩, by simp [intOf]; omega⟩
      | false =>
        clear c3
        go_wp2_with fail
        obtain ⟨n1, n2, n3, n4⟩ := HN2.out _ (by rw [Bool.false_and])
        exact ⟨⟨j + 1, by omega, by go_num, n1, n2, n3, n4⟩, by simp [intOf]; omega⟩
    · have HE : Hid (sA (fun k => if k < j then f k && g k else f k) = sA fun i => f i && g i) := hide (sA_congr (fun i hi => by rw [if_pos (by omega)]))
      rw [HE.out] at HX2
      go_wp2_with (first | (refine wpList_load_row rfl 60 _ rfl BB rfl 60 _ (0, 0) _ HX2.out Try.underlying60 rfl bsInfo ?_) | (refine wpList_store_row rfl 60 _ _ rfl B4 _ rfl rfl 60 _ HX4.out bsInfo rfl (sA_one _) ?_))
      refine bodyPost_ret (v := .agg (sA fun i => f i && g i)) (results_cell_row (p := 4) rfl _ _ B4 60 _ (0, 0) _ rfl (setRow_same HX4.out _) Try.underlying60 rfl bsInfo) rfl ⟨rfl, setRow_below _ HB.out (by omega)⟩
end Go.Proofs.Ytgmablmkjngkkaa.W

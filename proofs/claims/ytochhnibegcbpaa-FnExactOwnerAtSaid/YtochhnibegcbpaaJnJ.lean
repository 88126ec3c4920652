/-
  Joins of the program: around, joinsOf, withJoins. Conditions: at most 1000 numbers of blocks. Written by wip/build/mk_jnj.py.
-/
import Derived.Test.YtochhnibegcbpaaJnA
namespace Go.Proofs.Ytochhnibegcbpaa.W
open Go.ChangeShapes Go.WideShapes Go.ChangeAt Go.RowKit Go.Joins
set_option linter.unusedVariables false
set_option linter.unusedSimpArgs false

theorem wp_alloc_s {w : World} {o : Oper} {a : Act} {K : Act → World → Prop} {Q : Exit → Act → World → Prop} (ho : o.op = .alloc 52)
    (h : ∀ B w', w.heap.size ≤ B → Bx w' B (sA fun _ => false) 52 → Below w.heap.size w w' → K (a.put o.dst (.pointer (some ⟨B, 0, none⟩))) w') : o.wp Try.prog a w K Q := by
  unfold Oper.wp execOp
  simp only [ho]
  go_simp
  exact h _ _ (Nat.le_refl _) (Bx.new _ _ _) ((Below.refl _ _).alloc (Nat.le_refl _) _)
theorem wp_alloc_d {w : World} {o : Oper} {a : Act} {K : Act → World → Prop} {Q : Exit → Act → World → Prop} (ho : o.op = .alloc 65)
    (h : ∀ B w', w.heap.size ≤ B → Bx w' B (dA fun _ _ => false) 65 → Below w.heap.size w w' → K (a.put o.dst (.pointer (some ⟨B, 0, none⟩))) w') : o.wp Try.prog a w K Q := by
  have hz := (zero_of_info dInfo).1
  unfold Oper.wp execOp
  simp only [ho]
  go_simp
  exact h _ _ (Nat.le_refl _) (Bx.new _ _ _) ((Below.refl _ _).alloc (Nat.le_refl _) _)
theorem wp_slice1 {w : World} {o : Oper} {a : Act} {K : Act → World → Prop} {Q : Exit → Act → World → Prop} (x : Operand) (ho : o.op = .buildSlice 35 1 #[(0, x)]) (n : Int) (hx : a.eval x = .int .i64 n)
    (h : ∀ B w', w.heap.size ≤ B → Bx w' B #[.int .i64 n] 3 → Below w.heap.size w w' → K (a.put o.dst (.slice (some ⟨B, 0, none⟩) 1 1)) w') : o.wp Try.prog a w K Q := by
  unfold Oper.wp execOp
  simp only [ho, List.map_toArray, List.map_cons, List.map_nil, hx]
  go_simp
  exact h _ _ (Nat.le_refl _) (Bx.new _ _ _) ((Below.refl _ _).alloc (Nat.le_refl _) _)
theorem wp_store_s {w : World} {o : Oper} {a : Act} {K : Act → World → Prop} {Q : Exit → Act → World → Prop} (x y : Operand) (ho : o.op = .store 52 x y) (B : Nat) (f g : Nat → Bool) (hX : Bx w B (sA g) 52) (hx : a.eval x = .pointer (some ⟨B, 0, none⟩)) (hy : a.eval y = .agg (sA f))
    (h : ∀ w', Bx w' B (sA f) 52 → Oth B w w' → K (a.put o.dst undef) w') : o.wp Try.prog a w K Q := by
  refine wp_store_row 52 x y ho B (sA f) hx hy 52 _ hX bsInfo (by rw [sA_size, sA_size]) (sA_one _) (h _ (setRow_same hX _) ?_)
  exact ⟨rfl, rfl, rfl, by simp [World.setRow], fun k _ hk => setRow_ne _ hk⟩
theorem wp_store_d {w : World} {o : Oper} {a : Act} {K : Act → World → Prop} {Q : Exit → Act → World → Prop} (x y : Operand) (ho : o.op = .store 65 x y) (B : Nat) (f g : Nat → Nat → Bool) (hX : Bx w B (dA g) 65) (hx : a.eval x = .pointer (some ⟨B, 0, none⟩)) (hy : a.eval y = .agg (dA f))
    (h : ∀ w', Bx w' B (dA f) 65 → Oth B w w' → K (a.put o.dst undef) w') : o.wp Try.prog a w K Q := by
  refine wp_store_row 65 x y ho B (dA f) hx hy 65 _ hX (by rw [dA_size]; exact dSize) (by rw [dA_size, dA_size]) (dA_one _) (h _ (setRow_same hX _) ?_)
  exact ⟨rfl, rfl, rfl, by simp [World.setRow], fun k _ hk => setRow_ne _ hk⟩
/-- Twelve times twelve truths as a row of values. -/
def dL (F : Nat → Nat → Bool) : List Value := (List.range 144).map fun i => Value.bool (F (i / 12) (i % 12))
theorem dL_len (F : Nat → Nat → Bool) : (dL F).length = 144 := by simp [dL]
theorem dA_all {w : World} {B : Nat} {F : Nat → Nat → Bool} {T : TypeId} (h : Bx w B (dA F) T) : w.rangeAt B 0 (dL F) := by
  intro j v hv
  have hj : j < 144 := by have := (List.getElem?_eq_some_iff.1 hv).1; rwa [dL_len] at this
  rw [Nat.zero_add, h.c, dA_at F hj, ← hv]
  simp [dL, hj]
theorem fInfo' (F : Nat → Nat → Bool) : (Try.prog.info? 54).map (·.size) = some (dL F).length := by rw [dL_len]; exact fSize
theorem aro_take {F : Nat → Nat → Bool} {xs : List Int} {m X : Nat} (hm : m < xs.length) (hX : xs[m] = (X : Int)) (y : Nat) : aro F (xs.take (m + 1)) y = (aro F (xs.take m) y || F X y) := by
  rw [Bool.eq_iff_iff, Bool.or_eq_true, aro_iff, aro_iff]
  constructor
  · rintro ⟨x, hx, h⟩
    rcases (take_mem hm x).1 hx with h1 | h1
    · exact .inl ⟨x, h1, h⟩
    · rw [h1, hX] at h; exact .inr (by simpa using h)
  · rintro (⟨x, hx, h⟩ | h)
    · exact ⟨x, (take_mem hm x).2 (.inl hx), h⟩
    · exact ⟨(X : Int), (take_mem hm _).2 (.inr hX.symm), by simpa using h⟩

set_option maxHeartbeats 8000000 in
theorem around_any (F : Nat → Nat → Bool) (v : Value) (l : List Int) (w : World) (h : NV w v l) (hl : l.length ≤ 1048576) (hb : BlS l) :
    Calls Try.prog 59 #[.agg (dA F), v] w fun e w' => e = .returned (.agg (sA (aro F l))) ∧ Below w.heap.size w w' := by
  obtain ⟨ad, c, rfl, -⟩ := h.form
  have HN := hide h
  have HBl := hide hb
  obtain ⟨W2, hW2⟩ : ∃ W2, W2 = ((w.alloc (.cells (dA F) 54)).alloc (.cells (sA fun _ => false) 52)).alloc (.cells (sA fun _ => false) 52) := ⟨_, rfl⟩
  have hB2 : Below w.heap.size w W2 := by rw [hW2]; exact (((Below.refl _ _).alloc (Nat.le_refl _) _).alloc (by simp) _).alloc (by simp; omega) _
  have HX1 : Hid (Bx W2 w.heap.size (dA F) 54) := hide (by rw [hW2]; exact ((Bx.new w _ _).alloc _).alloc _)
  have HX2 : Hid (Bx W2 (w.heap.size + 1) (sA fun _ => false) 52) := hide (by rw [hW2]; have := (Bx.new (w.alloc (.cells (dA F) 54)) (sA fun _ => false) 52).alloc (.cells (sA fun _ => false) 52); simpa using this)
  have HX3 : Hid (Bx W2 (w.heap.size + 1 + 1) (sA (aro F (l.take 0))) 52) := hide (by
    rw [hW2, show sA (aro F (l.take 0)) = sA (fun _ => false) from sA_congr (fun y _ => by simp [aro])]
    have := Bx.new ((w.alloc (.cells (dA F) 54)).alloc (.cells (sA fun _ => false) 52)) (sA fun _ => false) 52
    simpa using this)
  have HW2 := hide hW2
  clear h hb hW2
  go_enter Try.func59, Try.ntmps59
  go_upto_region 2 with fail
  rw [show (((w.alloc (.cells (dA F) 54)).alloc (.cells #[.bool false, .bool false, .bool false, .bool false, .bool false, .bool false, .bool false, .bool false, .bool false, .bool false, .bool false, .bool false] 52)).alloc (.cells #[.bool false, .bool false, .bool false, .bool false, .bool false, .bool false, .bool false, .bool false, .bool false, .bool false, .bool false, .bool false] 52)) = W2 from HW2.out.symm]
  obtain ⟨B3, hB3⟩ : ∃ B3, B3 = w.heap.size + 1 + 1 := ⟨_, rfl⟩
  obtain ⟨B2, hB2'⟩ : ∃ B2, B2 = w.heap.size + 1 := ⟨_, rfl⟩
  obtain ⟨B1, hB1'⟩ : ∃ B1, B1 = w.heap.size := ⟨_, rfl⟩
  rw [← hB3] at HX3 ⊢
  rw [← hB2'] at HX2 ⊢
  rw [← hB1'] at HX1 ⊢
  have h2 : w.heap.size ≤ B2 := by omega
  have h3 : w.heap.size ≤ B3 := by omega
  have h23 : B2 ≠ B3 := by omega
  have h13 : B1 ≠ B3 := by omega
  clear hB3 hB2' hB1' HW2
  go_wp2_with fail
  go_loopw [12] (fun i w' => ∃ j : Nat, j ≤ l.length ∧ i = .int .i64 j ∧ Bx w' B3 (sA (aro F (l.take j))) 52 ∧ Bx w' B2 (sA fun _ => false) 52 ∧ Bx w' B1 (dA F) 54 ∧ Below w.heap.size w w') (fun i _ => l.length - (intOf i).toNat)
  case atStart => exact ⟨0, by omega, rfl, HX3.out, HX2.out, HX1.out, hB2⟩
  case round =>
    clear HX2 HX3 HX1 hB2
    obtain ⟨j, hj, rfl, hX3, hX2, hX1, hB⟩ := hrel
    have HX3 := hide hX3
    have HX2 := hide hX2
    have HX1 := hide hX1
    have HB := hide hB
    clear hX3 hX2 hX1 hB
    by_cases hlt : j < l.length
    · have hlt' : (j : Int) < (l.length : Int) := by omega
      obtain ⟨b1, o1, rfl, p0⟩ := NV.at HN.out HB.out hlt
      have hbd := HBl.out _ (List.getElem_mem hlt)
      obtain ⟨X, hX⟩ : ∃ X : Nat, l[j] = (X : Int) := ⟨l[j].toNat, by omega⟩
      rw [hX] at p0 hbd
      have HXx := hide hX
      have hX12 : X < 12 := by omega
      have hX12' : (X : Int) < 12 := by omega
      obtain ⟨g, hg⟩ : ∃ g, g = aro F (l.take j) := ⟨_, rfl⟩
      rw [← hg] at HX3
      have HGe := hide hg
      have HX3s : Hid (Bx wr B3 (sA fun y => if y < 0 then g y || F X y else g y) 52) := hide (by have := HX3.out; simpa using this)
      clear hX hbd hg HX3
      go_wp2_with (refine wpList_load_set rfl _ rfl B1 X _ _ HX1.out hX12 rfl ?_)
      clear p0
      go_loopw [19] (fun i w' => ∃ k : Nat, k ≤ 12 ∧ i = .int .i64 k ∧ Bx w' B3 (sA fun y => if y < k then g y || F X y else g y) 52 ∧ Bx w' B2 (sA fun _ => false) 52 ∧ Bx w' B1 (dA F) 54 ∧ Below w.heap.size w w') (fun i _ => 12 - (intOf i).toNat)
      case atStart => exact ⟨0, by omega, rfl, HX3s.out, HX2.out, HX1.out, HB.out⟩
      case round =>
        clear HX3s HX2 HX1 HB
        obtain ⟨k, hk, rfl, hX3, hX2, hX1, hB⟩ := hrel
        have HX3 := hide hX3
        have HX2 := hide hX2
        have HX1 := hide hX1
        have HB := hide hB
        clear hX3 hX2 hX1 hB
        by_cases hlk : k < 12
        · have hlk' : (k : Int) < 12 := by omega
          have HI := hide (sIdx (F X) wr k hlk)
          have c3 : wr.cell? ⟨B3, k, none⟩ = some (.bool (g k)) := by rw [HX3.out.c, sA_at _ hlk]; simp
          have f3 := HX3.out.f
          obtain ⟨p, hp⟩ : ∃ p, p = g k := ⟨_, rfl⟩
          obtain ⟨q, hq⟩ : ∃ q, q = F X k := ⟨_, rfl⟩
          rw [← hp] at c3
          rw [← hq] at HI
          have HN2 : Hid (∀ w' : World, w' = wr.setCell ⟨B3, k, none⟩ (.bool (p || q)) → Bx w' B3 (sA fun y => if y < k + 1 then g y || F X y else g y) 52 ∧ Bx w' B2 (sA fun _ => false) 52 ∧ Bx w' B1 (dA F) 54 ∧ Below w.heap.size w w') := hide (fun w' e => by
            subst e
            refine ⟨?_, HX2.out.setne _ _ _ h23, HX1.out.setne _ _ _ h13, HB.out.setCell (p := ⟨B3, k, none⟩) h3 _⟩
            have := HX3.out.set k (.bool (p || q))
            rw [sA_set] at this
            rw [sA_congr (g := upd (fun y => if y < k then g y || F X y else g y) k (p || q)) (fun i hi => ?_)]
            · exact this
            · by_cases e : i = k
              · subst e
                rw [upd_same, if_pos (by omega), hp, hq]
              · rw [upd_other _ _ _ e]
                by_cases e2 : i < k
                · rw [if_pos (by omega), if_pos e2]
                · rw [if_neg (by omega), if_neg e2])
          clear hp hq
          cases p with
          | true =>
            go_wp2_with (refine wpList_indexA rfl 52 _ _ rfl _ _ _ rfl rfl HI.out ?_)
            obtain ⟨n1, n2, n3, n4⟩ := HN2.out _ (by rw [Bool.true_or])
            exact ⟨⟨k + 1, by omega, by go_num, n1, n2, n3, n4⟩, by simp [intOf]; omega⟩
          | false =>
            go_wp2_with (refine wpList_indexA rfl 52 _ _ rfl _ _ _ rfl rfl HI.out ?_)
            obtain ⟨n1, n2, n3, n4⟩ := HN2.out _ (by rw [Bool.false_or])
            exact ⟨⟨k + 1, by omega, by go_num, n1, n2, n3, n4⟩, by simp [intOf]; omega⟩
        · have HE : Hid (sA (fun y => if y < k then g y || F X y else g y) = sA (aro F (l.take (j + 1)))) := hide (sA_congr (fun y hy => by rw [if_pos (by omega), aro_take hlt HXx.out, HGe.out]))
          rw [HE.out] at HX3
          go_wp2_with fail
          exact ⟨⟨j + 1, by omega, by go_num, HX3.out, HX2.out, HX1.out, HB.out⟩, by simp [intOf]; omega⟩
    · have HE : Hid (sA (aro F (l.take j)) = sA (aro F l)) := hide (by rw [List.take_of_length_le (by omega)])
      rw [HE.out] at HX3
      go_wp2_with (first | (refine wpList_load_row rfl 52 _ rfl B3 rfl 52 _ (0, 0) _ HX3.out Try.underlying52 rfl bsInfo ?_) | (refine wpList_store_row rfl 52 _ _ rfl B2 _ rfl rfl 52 _ HX2.out bsInfo rfl (sA_one _) ?_))
      refine bodyPost_ret (v := .agg (sA (aro F l))) (results_cell_row (p := 4) rfl _ _ B2 52 _ (0, 0) _ rfl (setRow_same HX2.out _) Try.underlying52 rfl bsInfo) rfl ⟨rfl, setRow_below _ HB.out (by omega)⟩

theorem Bx.grown {w w' : World} {b : Nat} {cs : Array Value} {T : TypeId} {row : Option Nat} (h : Bx w b cs T) (hg : w.grownBy w' row) (hne : row ≠ some b) : Bx w' b cs T := (hg.block b h.lt (fun e => hne e.symm)).trans h
theorem Bx.own_ne {w : World} {b base n : Nat} {cs : Array Value} {T T' : TypeId} {v : Value} {xs : List Value} (h : Bx w b cs T) (ho : w.ownsRow base T' 1 v n xs) (hT : T ≠ T') : v.ownBlock ≠ some b := by
  intro e
  rcases ho.2 with ⟨h1, -⟩ | ⟨g, cap, cur, h1, hg, hh, -⟩
  · rw [h1] at e; cases e
  · rw [h1] at e
    cases e
    unfold Bx at h
    rw [hh] at h
    simp only [Option.some.injEq, Obj.cells.injEq] at h
    exact hT h.2.1.symm
theorem BlS.app {g : Nat → Bool} {l : List Int} (h : BlS l) : BlS (lst g 12 ++ l) := fun x hx => by
  rcases List.mem_append.1 hx with hx | hx
  · obtain ⟨k, rfl, h1, -⟩ := lst_mem.1 hx; omega
  · exact h x hx
theorem NV.pt {w : World} {v : Value} {l : List Int} (h : NV w v l) : PtI w v l.length (ic l) := by
  rcases h with ⟨rfl, rfl⟩ | ⟨g, o, c, h1, h2, h3, h4⟩
  · exact .inl ⟨rfl, rfl, rfl⟩
  · refine .inr ⟨_, c, h1, by rw [ic_len, Nat.mul_one], fun q x hx => ?_, ic_one _⟩
    have hq : q < l.length := by have := (List.getElem?_eq_some_iff.1 hx).1; rwa [ic_len] at this
    rw [ic_at l q hq] at hx
    rw [Addr.add_lit, h4 q hq, hx]

set_option maxHeartbeats 16000000 in
theorem joinsOf_any (F : Nat → Nat → Bool) (hF : ∀ x y, F x y = true → y < 12) (v : Value) (l : List Int) (w : World) (h : NV w v l) (hl : l.length ≤ 1000) (hb : BlS l) :
    Calls Try.prog 43 #[.agg (dA F), v] w fun e w' => e = .returned (.agg (sA (js F l))) ∧ Below w.heap.size w w' := by
  obtain ⟨ad, c, rfl, -⟩ := h.form
  have HN : Hid (∀ w', Below w.heap.size w w' → NV w' (.slice ad l.length c) l) := hide (fun w' hb => h.below hb)
  have HBl := hide hb
  have HFl := hide hF
  obtain ⟨W2, hW2⟩ : ∃ W2, W2 = (w.alloc (.cells (dA F) 54)).alloc (.cells (sA fun _ => false) 52) := ⟨_, rfl⟩
  have hB2 : Below w.heap.size w W2 := by rw [hW2]; exact ((Below.refl _ _).alloc (Nat.le_refl _) _).alloc (by simp) _
  have HX1 : Hid (Bx W2 w.heap.size (dA F) 54) := hide (by rw [hW2]; exact (Bx.new w _ _).alloc _)
  have HX2 : Hid (Bx W2 (w.heap.size + 1) (sA fun _ => false) 52) := hide (by rw [hW2]; have := Bx.new (w.alloc (.cells (dA F) 54)) (sA fun _ => false) 52; simpa using this)
  have HW2 := hide hW2
  clear h hb hW2 hF
  go_enter Try.func43, Try.ntmps43
  go_upto_region 1 with fail
  rw [show ((w.alloc (.cells (dA F) 54)).alloc (.cells #[.bool false, .bool false, .bool false, .bool false, .bool false, .bool false, .bool false, .bool false, .bool false, .bool false, .bool false, .bool false] 52)) = W2 from HW2.out.symm]
  go_wp2_with (refine wpList_load_row rfl 54 _ rfl w.heap.size rfl 54 _ (0, 0) _ HX1.out Try.underlying54 rfl (by rw [dA_size]; exact fSize) ?_)
  refine Calls.mono (around_any F _ l _ (HN.out _ hB2) (by omega) HBl.out) ?_
  rintro e w3 ⟨rfl, hb⟩
  have hB3 := hB2.trans (hb.mono hB2.size)
  have HX13 := hide (HX1.out.below hb HX1.out.lt)
  have HX23 := hide (HX2.out.below hb HX2.out.lt)
  have hl2 : w.heap.size + 1 < w3.heap.size := HX23.out.lt
  clear hb HX1 HX2 HW2 hB2
  have HX5 : Hid ((w3.alloc (.cells #[.bool false, .bool false, .bool false, .bool false, .bool false, .bool false, .bool false, .bool false, .bool false, .bool false, .bool false, .bool false] 52)).heap[w3.heap.size]? = some (.cells #[.bool false, .bool false, .bool false, .bool false, .bool false, .bool false, .bool false, .bool false, .bool false, .bool false, .bool false, .bool false] 52 (0, 0))) := hide (heap_alloc_new w3 _)
  go_wp2_with (refine wpList_store_row rfl 52 _ _ rfl w3.heap.size _ rfl rfl 52 _ HX5.out bsInfo rfl (sA_one _) ?_)
  rw [World.setRow_alloc_new]
  clear HX5
  obtain ⟨w4, hw4⟩ : ∃ w4, w4 = w3.alloc (.cells (sA (aro F l)) 52) := ⟨_, rfl⟩
  rw [← hw4]
  have hB4 : Below w.heap.size w w4 := by rw [hw4]; exact hB3.alloc hB3.size _
  have HX5 : Hid (Bx w4 w3.heap.size (sA (aro F l)) 52) := hide (by rw [hw4]; exact Bx.new w3 _ _)
  have HX1 : Hid (Bx w4 w.heap.size (dA F) 54) := hide (by rw [hw4]; exact HX13.out.alloc _)
  have HX2 : Hid (Bx w4 (w.heap.size + 1) (sA fun _ => false) 52) := hide (by rw [hw4]; exact HX23.out.alloc _)
  obtain ⟨B5, hB5⟩ : ∃ B5, B5 = w3.heap.size := ⟨_, rfl⟩
  obtain ⟨B2, hB2'⟩ : ∃ B2, B2 = w.heap.size + 1 := ⟨_, rfl⟩
  obtain ⟨B1, hB1'⟩ : ∃ B1, B1 = w.heap.size := ⟨_, rfl⟩
  rw [← hB5] at HX5 ⊢
  rw [← hB2'] at HX2 ⊢
  rw [← hB1'] at HX1 ⊢
  have h2 : w.heap.size ≤ B2 := by omega
  have h5 : w.heap.size ≤ B5 := by omega
  have h25 : B2 ≠ B5 := by omega
  have h15 : B1 ≠ B5 := by omega
  clear hw4 hB5 hB2' hB1' HX13 HX23 hB3 hl2
  simp only [Act.put]
  go_loopw [6] (fun _ w' => ∃ g : Nat → Bool, Bx w' B5 (sA g) 52 ∧ JI F l g ∧ Bx w' B2 (sA fun _ => false) 52 ∧ Bx w' B1 (dA F) 54 ∧ Below w.heap.size w w') (fun _ w' => cntF w' B5)
  case atStart => exact ⟨_, HX5.out, JI.start HBl.out, HX2.out, HX1.out, hB4⟩
  case round =>
    clear HX5 HX2 HX1 hB4
    obtain ⟨g, hX5, hJ, hX2, hX1, hB⟩ := hrel
    have HX5 := hide hX5
    have HJ := hide hJ
    have HX2 := hide hX2
    have HX1 := hide hX1
    have HB := hide hB
    have HCt := hide (cntF_bx hX5)
    clear hX5 hJ hX2 hX1 hB
    have HNs : Hid (∀ W, Below wr.heap.size wr W → NV W (.slice ad l.length c) l) := hide (fun W hb => HN.out W (HB.out.trans (hb.mono HB.out.size)))
    have hgl := lst_len g 12
    have HLi := hide (fun W => list_any g W)
    have HAr : Hid (∀ v W, NV W v (lst g 12 ++ l) → Calls Try.prog 59 #[.agg (dA F), v] W fun e w' => e = .returned (.agg (sA (aro F (lst g 12 ++ l)))) ∧ Below W.heap.size W w') := hide (fun v W h => around_any F v _ W h (by rw [List.length_append]; omega) HBl.out.app)
    obtain ⟨gl, hgle⟩ : ∃ gl, gl = lst g 12 := ⟨_, rfl⟩
    rw [← hgle] at HLi HAr hgl
    obtain ⟨mo, hmo⟩ : ∃ mo, mo = aro F (gl ++ l) := ⟨_, rfl⟩
    rw [← hmo] at HAr
    have Hmo : Hid (mo = aro F (lst g 12 ++ l)) := hide (by rw [hmo, hgle])
    have hlen : (gl ++ l).length = gl.length + l.length := List.length_append
    have Hlen := hide hlen
    clear hgle hmo hlen
    obtain ⟨nl, hnl⟩ : ∃ nl, nl = l.length := ⟨_, rfl⟩
    rw [← hnl] at HNs hl Hlen ⊢
    have Hnl := hide hnl
    have Hgl := hide hgl
    have HPtl : Hid (∀ W, Below wr.heap.size wr W → PtI W (.slice ad nl c) nl (ic l)) := hide (fun W hb => by have := HNs.out W hb; rw [hnl] at this ⊢; exact this.pt)
    clear hnl hgl
    go_upto_region 2 with fail
    go_cut [6] from 10 to 15 (fun v wx => ∃ B : Nat, v = .pointer (some ⟨B, 0, none⟩) ∧ wr.heap.size ≤ B ∧ Bx wx B (sA mo) 52 ∧ Below wr.heap.size wr wx)
    case first =>
      have k0 : Bx wr.drew B1 (dA F) 54 := HX1.out
      have k1 : Bx wr.drew B5 (sA g) 52 := HX5.out
      have l0 := HX1.out.lt
      have l1 := HX5.out.lt
      have hB : Below wr.heap.size wr wr.drew := belowDrew8 (Below.refl _ _)
      refine wp_region_noPanic ?_
      refine wp_region_held_drew (S := fun w' => Bx w' B1 (dA F) 54 ∧ Bx w' B5 (sA g) 52) (by kernel_rfl) ⟨k0, k1⟩ (fun hHeld => ?_)
      refine wpAnyH_take (i := 0) (oi := _) (v := .agg (dA F)) rfl (by kernel_rfl) (by kernel_rfl) (by kernel_rfl) (fun _ _ _ h => h) (yieldsIf_load_mid (by rfl) 54 _ rfl B1 0 rfl (dL F) _ (fun w h => dA_all h.1) Try.underlying54 rfl (fInfo' _)) (by assumption) ?_
      try simp only [Act.put, List.getElem_toArray, List.getElem_cons_zero, List.getElem_cons_succ, List.setIfInBounds_toArray, List.set_cons_zero, List.set_cons_succ]
      refine wpAnyH_take (i := 1) (oi := _) (v := .agg (sA (g))) rfl (by kernel_rfl) (by kernel_rfl) (by kernel_rfl) (fun _ _ _ h => h) (yieldsIf_load_mid (by rfl) 52 _ rfl B5 (0) rfl (sL (g)) _ (fun w h => sA_rng h.2) Try.underlying52 rfl (bsInfo' _)) (by assumption) ?_
      try simp only [Act.put, List.getElem_toArray, List.getElem_cons_zero, List.getElem_cons_succ, List.setIfInBounds_toArray, List.set_cons_zero, List.set_cons_succ]
      refine wpAnyH_take (i := 3) (oi := _) (v := ?_) rfl (by kernel_rfl) (by kernel_rfl) (by kernel_rfl) (fun _ _ _ h => h) (Or.inl ⟨by rfl, ?_⟩) (by assumption) ?_
      rotate_left 1
      · (intro w hSw; clear hSw; (first | (go_simp; done) | (go_simp; with_reducible rfl)))
      try simp only [Act.put, List.getElem_toArray, List.getElem_cons_zero, List.getElem_cons_succ, List.setIfInBounds_toArray, List.set_cons_zero, List.set_cons_succ]
      refine wpAnyH_ready (rs := [2, 6]) (by kernel_rfl) (by simp) ?_
      refine AllReadyH.cons (o := _) rfl (fun K hK => ?_) (AllReadyH.cons (o := _) rfl (fun K hK => ?_) (AllReadyH.nil))
      · go_simp
        (with_reducible refine Calls.mono (HLi.out _) ?_)
        rintro r W2 ⟨v12, rfl, hO, hbw⟩
        have HO := hide (own_lower hO hB.size)
        have hbc := hbw.mono hB.size
        replace k0 := k0.below hbc l0
        replace k1 := k1.below hbc l1
        replace hB := hB.trans hbc
        clear hO hbw hbc
        (try go_wp2_with fail)
        refine hK.out _ _ ⟨k0, k1⟩ (fun hHeld => ?_)
        clear hK K
        try simp only [Act.put, List.getElem_toArray, List.getElem_cons_zero, List.getElem_cons_succ, List.setIfInBounds_toArray, List.set_cons_zero, List.set_cons_succ]
        refine wpAnyH_ready (rs := [4, 6]) (by kernel_rfl) (by simp) ?_
        refine AllReadyH.cons (o := _) rfl (fun K hK => ?_) (AllReadyH.cons (o := _) rfl (fun K hK => ?_) (AllReadyH.nil))
        · refine wp_append_i _ _ rfl wr.heap.size _ gl.length _ rfl HO.out _ nl _ rfl (HPtl.out _ hB) (by have := Hgl.out; omega) hB.size (fun v14 W3 hO2 hg2 hap => ?_)
          have hbc := grown_below hg2 hB.size (own_ge HO.out)
          replace k0 := k0.below hbc l0
          replace k1 := k1.below hbc l1
          replace hB := hB.trans hbc
          replace HO : Hid (NV W3 v14 (gl ++ l)) := hide (NV.ofOwn (by rw [ic_app]; exact hO2) (by rw [Hlen.out]))
          clear hO2 hg2 hap hbc
          refine hK.out _ _ ⟨k0, k1⟩ (fun hHeld => ?_)
          clear hK K
          try simp only [Act.put, List.getElem_toArray, List.getElem_cons_zero, List.getElem_cons_succ, List.setIfInBounds_toArray, List.set_cons_zero, List.set_cons_succ]
          refine wpAnyH_ready (rs := [5, 6]) (by kernel_rfl) (by simp) ?_
          refine AllReadyH.cons (o := _) rfl (fun K hK => ?_) (AllReadyH.cons (o := _) rfl (fun K hK => ?_) (AllReadyH.nil))
          · go_simp
            (with_reducible refine Calls.mono (HAr.out _ _ HO.out) ?_)
            rintro r W4 ⟨rfl, hbw⟩
            have hbc := hbw.mono hB.size
            replace k0 := k0.below hbc l0
            replace k1 := k1.below hbc l1
            replace hB := hB.trans hbc
            clear hbw hbc HO
            (try go_wp2_with fail)
            refine hK.out _ _ ⟨k0, k1⟩ (fun hHeld => ?_)
            clear hK K
            try simp only [Act.put, List.getElem_toArray, List.getElem_cons_zero, List.getElem_cons_succ, List.setIfInBounds_toArray, List.set_cons_zero, List.set_cons_succ]
            refine wpAnyH_ready (rs := [6]) (by kernel_rfl) (by simp) ?_
            refine AllReadyH.cons (o := _) rfl (fun K hK => ?_) (AllReadyH.nil)
            refine wp_alloc_s rfl (fun B6 W5 hn6 m6 hbw => ?_)
            have hw6 : wr.heap.size ≤ B6 := Nat.le_trans hB.size hn6
            have hbc := hbw.mono hB.size
            replace k0 := k0.below hbc l0
            replace k1 := k1.below hbc l1
            replace hB := hB.trans hbc
            clear hbw hbc hn6
            refine hK.out _ _ ⟨k0, k1⟩ (fun hHeld => ?_)
            clear hK K
            try simp only [Act.put, List.getElem_toArray, List.getElem_cons_zero, List.getElem_cons_succ, List.setIfInBounds_toArray, List.set_cons_zero, List.set_cons_succ]
            refine wpAnyH_ready (rs := [7]) (by kernel_rfl) (by simp) ?_
            refine AllReadyH.cons (o := _) rfl (fun K hK => ?_) (AllReadyH.nil)
            refine wp_store_s _ _ rfl B6 _ _ m6 rfl rfl (fun W6 m7 hO => ?_)
            replace k0 := k0.oth hO (by omega)
            replace k1 := k1.oth hO (by omega)
            replace hB := hB.trans (hO.below hB.size hw6)
            clear m6 hO
            refine hK.out _ _ ⟨k0, k1⟩ (fun hHeld => ?_)
            clear hK K
            try simp only [Act.put, List.getElem_toArray, List.getElem_cons_zero, List.getElem_cons_succ, List.setIfInBounds_toArray, List.set_cons_zero, List.set_cons_succ]
            refine wpAnyH_done (by kernel_rfl) ?_ _
            refine NoPanic.normal ?_
            clear hHeld
            go_wp2_with fail
            go_meet
            exact ⟨B6, rfl, hw6, m7, hB⟩
          · refine wp_alloc_s rfl (fun B6 W5 hn6 m6 hbw => ?_)
            replace HO := hide (HO.out.below hbw)
            have hw6 : wr.heap.size ≤ B6 := Nat.le_trans hB.size hn6
            have hbc := hbw.mono hB.size
            replace k0 := k0.below hbc l0
            replace k1 := k1.below hbc l1
            replace hB := hB.trans hbc
            clear hbw hbc hn6
            refine hK.out _ _ ⟨k0, k1⟩ (fun hHeld => ?_)
            clear hK K
            try simp only [Act.put, List.getElem_toArray, List.getElem_cons_zero, List.getElem_cons_succ, List.setIfInBounds_toArray, List.set_cons_zero, List.set_cons_succ]
            refine wpAnyH_ready (rs := [5]) (by kernel_rfl) (by simp) ?_
            refine AllReadyH.cons (o := _) rfl (fun K hK => ?_) (AllReadyH.nil)
            go_simp
            (with_reducible refine Calls.mono (HAr.out _ _ HO.out) ?_)
            rintro r W4 ⟨rfl, hbw⟩
            replace m6 := m6.below hbw m6.lt
            have hbc := hbw.mono hB.size
            replace k0 := k0.below hbc l0
            replace k1 := k1.below hbc l1
            replace hB := hB.trans hbc
            clear hbw hbc HO
            (try go_wp2_with fail)
            refine hK.out _ _ ⟨k0, k1⟩ (fun hHeld => ?_)
            clear hK K
            try simp only [Act.put, List.getElem_toArray, List.getElem_cons_zero, List.getElem_cons_succ, List.setIfInBounds_toArray, List.set_cons_zero, List.set_cons_succ]
            refine wpAnyH_ready (rs := [7]) (by kernel_rfl) (by simp) ?_
            refine AllReadyH.cons (o := _) rfl (fun K hK => ?_) (AllReadyH.nil)
            refine wp_store_s _ _ rfl B6 _ _ m6 rfl rfl (fun W6 m7 hO => ?_)
            replace k0 := k0.oth hO (by omega)
            replace k1 := k1.oth hO (by omega)
            replace hB := hB.trans (hO.below hB.size hw6)
            clear m6 hO
            refine hK.out _ _ ⟨k0, k1⟩ (fun hHeld => ?_)
            clear hK K
            try simp only [Act.put, List.getElem_toArray, List.getElem_cons_zero, List.getElem_cons_succ, List.setIfInBounds_toArray, List.set_cons_zero, List.set_cons_succ]
            refine wpAnyH_done (by kernel_rfl) ?_ _
            refine NoPanic.normal ?_
            clear hHeld
            go_wp2_with fail
            go_meet
            exact ⟨B6, rfl, hw6, m7, hB⟩
        · refine wp_alloc_s rfl (fun B6 W5 hn6 m6 hbw => ?_)
          replace HO := hide (own_keep HO.out (fun k _ hk => hbw.block k hk))
          have hw6 : wr.heap.size ≤ B6 := Nat.le_trans hB.size hn6
          have hbc := hbw.mono hB.size
          replace k0 := k0.below hbc l0
          replace k1 := k1.below hbc l1
          replace hB := hB.trans hbc
          clear hbw hbc hn6
          refine hK.out _ _ ⟨k0, k1⟩ (fun hHeld => ?_)
          clear hK K
          try simp only [Act.put, List.getElem_toArray, List.getElem_cons_zero, List.getElem_cons_succ, List.setIfInBounds_toArray, List.set_cons_zero, List.set_cons_succ]
          refine wpAnyH_ready (rs := [4]) (by kernel_rfl) (by simp) ?_
          refine AllReadyH.cons (o := _) rfl (fun K hK => ?_) (AllReadyH.nil)
          refine wp_append_i _ _ rfl wr.heap.size _ gl.length _ rfl HO.out _ nl _ rfl (HPtl.out _ hB) (by have := Hgl.out; omega) hB.size (fun v14 W3 hO2 hg2 hap => ?_)
          have hbc := grown_below hg2 hB.size (own_ge HO.out)
          replace m6 := m6.grown hg2 (m6.own_ne HO.out (by decide))
          replace k0 := k0.below hbc l0
          replace k1 := k1.below hbc l1
          replace hB := hB.trans hbc
          replace HO : Hid (NV W3 v14 (gl ++ l)) := hide (NV.ofOwn (by rw [ic_app]; exact hO2) (by rw [Hlen.out]))
          clear hO2 hg2 hap hbc
          refine hK.out _ _ ⟨k0, k1⟩ (fun hHeld => ?_)
          clear hK K
          try simp only [Act.put, List.getElem_toArray, List.getElem_cons_zero, List.getElem_cons_succ, List.setIfInBounds_toArray, List.set_cons_zero, List.set_cons_succ]
          refine wpAnyH_ready (rs := [5]) (by kernel_rfl) (by simp) ?_
          refine AllReadyH.cons (o := _) rfl (fun K hK => ?_) (AllReadyH.nil)
          go_simp
          (with_reducible refine Calls.mono (HAr.out _ _ HO.out) ?_)
          rintro r W4 ⟨rfl, hbw⟩
          replace m6 := m6.below hbw m6.lt
          have hbc := hbw.mono hB.size
          replace k0 := k0.below hbc l0
          replace k1 := k1.below hbc l1
          replace hB := hB.trans hbc
          clear hbw hbc HO
          (try go_wp2_with fail)
          refine hK.out _ _ ⟨k0, k1⟩ (fun hHeld => ?_)
          clear hK K
          try simp only [Act.put, List.getElem_toArray, List.getElem_cons_zero, List.getElem_cons_succ, List.setIfInBounds_toArray, List.set_cons_zero, List.set_cons_succ]
          refine wpAnyH_ready (rs := [7]) (by kernel_rfl) (by simp) ?_
          refine AllReadyH.cons (o := _) rfl (fun K hK => ?_) (AllReadyH.nil)
          refine wp_store_s _ _ rfl B6 _ _ m6 rfl rfl (fun W6 m7 hO => ?_)
          replace k0 := k0.oth hO (by omega)
          replace k1 := k1.oth hO (by omega)
          replace hB := hB.trans (hO.below hB.size hw6)
          clear m6 hO
          refine hK.out _ _ ⟨k0, k1⟩ (fun hHeld => ?_)
          clear hK K
          try simp only [Act.put, List.getElem_toArray, List.getElem_cons_zero, List.getElem_cons_succ, List.setIfInBounds_toArray, List.set_cons_zero, List.set_cons_succ]
          refine wpAnyH_done (by kernel_rfl) ?_ _
          refine NoPanic.normal ?_
          clear hHeld
          go_wp2_with fail
          go_meet
          exact ⟨B6, rfl, hw6, m7, hB⟩
      · refine wp_alloc_s rfl (fun B6 W5 hn6 m6 hbw => ?_)
        have hw6 : wr.heap.size ≤ B6 := Nat.le_trans hB.size hn6
        have hbc := hbw.mono hB.size
        replace k0 := k0.below hbc l0
        replace k1 := k1.below hbc l1
        replace hB := hB.trans hbc
        clear hbw hbc hn6
        refine hK.out _ _ ⟨k0, k1⟩ (fun hHeld => ?_)
        clear hK K
        try simp only [Act.put, List.getElem_toArray, List.getElem_cons_zero, List.getElem_cons_succ, List.setIfInBounds_toArray, List.set_cons_zero, List.set_cons_succ]
        refine wpAnyH_ready (rs := [2]) (by kernel_rfl) (by simp) ?_
        refine AllReadyH.cons (o := _) rfl (fun K hK => ?_) (AllReadyH.nil)
        go_simp
        (with_reducible refine Calls.mono (HLi.out _) ?_)
        rintro r W2 ⟨v12, rfl, hO, hbw⟩
        have HO := hide (own_lower hO hB.size)
        replace m6 := m6.below hbw m6.lt
        have hbc := hbw.mono hB.size
        replace k0 := k0.below hbc l0
        replace k1 := k1.below hbc l1
        replace hB := hB.trans hbc
        clear hO hbw hbc
        (try go_wp2_with fail)
        refine hK.out _ _ ⟨k0, k1⟩ (fun hHeld => ?_)
        clear hK K
        try simp only [Act.put, List.getElem_toArray, List.getElem_cons_zero, List.getElem_cons_succ, List.setIfInBounds_toArray, List.set_cons_zero, List.set_cons_succ]
        refine wpAnyH_ready (rs := [4]) (by kernel_rfl) (by simp) ?_
        refine AllReadyH.cons (o := _) rfl (fun K hK => ?_) (AllReadyH.nil)
        refine wp_append_i _ _ rfl wr.heap.size _ gl.length _ rfl HO.out _ nl _ rfl (HPtl.out _ hB) (by have := Hgl.out; omega) hB.size (fun v14 W3 hO2 hg2 hap => ?_)
        have hbc := grown_below hg2 hB.size (own_ge HO.out)
        replace m6 := m6.grown hg2 (m6.own_ne HO.out (by decide))
        replace k0 := k0.below hbc l0
        replace k1 := k1.below hbc l1
        replace hB := hB.trans hbc
        replace HO : Hid (NV W3 v14 (gl ++ l)) := hide (NV.ofOwn (by rw [ic_app]; exact hO2) (by rw [Hlen.out]))
        clear hO2 hg2 hap hbc
        refine hK.out _ _ ⟨k0, k1⟩ (fun hHeld => ?_)
        clear hK K
        try simp only [Act.put, List.getElem_toArray, List.getElem_cons_zero, List.getElem_cons_succ, List.setIfInBounds_toArray, List.set_cons_zero, List.set_cons_succ]
        refine wpAnyH_ready (rs := [5]) (by kernel_rfl) (by simp) ?_
        refine AllReadyH.cons (o := _) rfl (fun K hK => ?_) (AllReadyH.nil)
        go_simp
        (with_reducible refine Calls.mono (HAr.out _ _ HO.out) ?_)
        rintro r W4 ⟨rfl, hbw⟩
        replace m6 := m6.below hbw m6.lt
        have hbc := hbw.mono hB.size
        replace k0 := k0.below hbc l0
        replace k1 := k1.below hbc l1
        replace hB := hB.trans hbc
        clear hbw hbc HO
        (try go_wp2_with fail)
        refine hK.out _ _ ⟨k0, k1⟩ (fun hHeld => ?_)
        clear hK K
        try simp only [Act.put, List.getElem_toArray, List.getElem_cons_zero, List.getElem_cons_succ, List.setIfInBounds_toArray, List.set_cons_zero, List.set_cons_succ]
        refine wpAnyH_ready (rs := [7]) (by kernel_rfl) (by simp) ?_
        refine AllReadyH.cons (o := _) rfl (fun K hK => ?_) (AllReadyH.nil)
        refine wp_store_s _ _ rfl B6 _ _ m6 rfl rfl (fun W6 m7 hO => ?_)
        replace k0 := k0.oth hO (by omega)
        replace k1 := k1.oth hO (by omega)
        replace hB := hB.trans (hO.below hB.size hw6)
        clear m6 hO
        refine hK.out _ _ ⟨k0, k1⟩ (fun hHeld => ?_)
        clear hK K
        try simp only [Act.put, List.getElem_toArray, List.getElem_cons_zero, List.getElem_cons_succ, List.setIfInBounds_toArray, List.set_cons_zero, List.set_cons_succ]
        refine wpAnyH_done (by kernel_rfl) ?_ _
        refine NoPanic.normal ?_
        clear hHeld
        go_wp2_with fail
        go_meet
        exact ⟨B6, rfl, hw6, m7, hB⟩
    case rest =>
      obtain ⟨B6, rfl, hB6, hX6, hBc⟩ := hcut
      have HX6 := hide hX6
      have HX5c := hide (HX5.out.below hBc HX5.out.lt)
      have HX2c := hide (HX2.out.below hBc HX2.out.lt)
      have HX1c := hide (HX1.out.below hBc HX1.out.lt)
      have HBc := hide (HB.out.trans (hBc.mono HB.out.size))
      have n5 : B5 ≠ B6 := by have := HX5.out.lt; omega
      clear hX6 hBc HX5 HX2 HX1 HB HNs HLi HAr
      have heq := run_eql_s mo g
      obtain ⟨q, hq⟩ : ∃ q, q = sEq mo g := ⟨_, rfl⟩
      rw [← hq] at heq
      have HQ := hide hq
      clear hq
      have hgu := fun w => run_eqGuard_agg (P := Try.prog) w .eql 52 (.tmp 16) (.tmp 17) (sA mo) (sA g) sGuard
      cases q with
      | true =>
        have HE : Hid (sA g = sA (js F l)) := hide (HJ.out.done HFl.out (by rw [← Hmo.out]; exact sEq_iff.1 HQ.out.symm))
        go_upto_region 4 with (first | (refine wpList_load_row rfl 52 _ rfl B6 rfl 52 _ (0, 0) _ HX6.out Try.underlying52 rfl bsInfo ?_) | (refine wpList_load_row rfl 52 _ rfl B5 rfl 52 _ (0, 0) _ HX5c.out Try.underlying52 rfl bsInfo ?_))
        rw [HE.out] at HX5c
        clear heq hgu
        go_wp2_with (first | (refine wpList_load_row rfl 52 _ rfl B5 rfl 52 _ (0, 0) _ HX5c.out Try.underlying52 rfl bsInfo ?_) | (refine wpList_store_row rfl 52 _ _ rfl B2 _ rfl rfl 52 _ HX2c.out bsInfo rfl (sA_one _) ?_))
        refine bodyPost_ret (v := .agg (sA (js F l))) (results_cell_row (p := 4) rfl _ _ B2 52 _ (0, 0) _ rfl (setRow_same HX2c.out _) Try.underlying52 rfl bsInfo) rfl ⟨rfl, setRow_below _ HBc.out (by omega)⟩
      | false =>
        have HJn : Hid (JI F l mo) := hide (by rw [Hmo.out]; exact HJ.out.next HBl.out)
        have HMs : Hid (nF mo 12 < nF g 12) := hide (nF_less (fun y hy h => by rw [Hmo.out]; exact HJ.out.2.2 y hy h) (fun e => by have := sEq_iff.2 e; rw [← HQ.out] at this; cases this))
        have HX5n : Hid (Bx (wc.setRow B5 (sA mo)) B5 (sA mo) 52) := hide (setRow_same HX5c.out _)
        have HX2n : Hid (Bx (wc.setRow B5 (sA mo)) B2 (sA fun _ => false) 52) := hide ((setRow_ne _ h25).trans HX2c.out)
        have HX1n : Hid (Bx (wc.setRow B5 (sA mo)) B1 (dA F) 54) := hide ((setRow_ne _ h15).trans HX1c.out)
        have HBn : Hid (Below w.heap.size w (wc.setRow B5 (sA mo))) := hide (setRow_below _ HBc.out h5)
        go_wp2_with (first | (refine wpList_load_row rfl 52 _ rfl B6 rfl 52 _ (0, 0) _ HX6.out Try.underlying52 rfl bsInfo ?_) | (refine wpList_load_row rfl 52 _ rfl B5 rfl 52 _ (0, 0) _ HX5c.out Try.underlying52 rfl bsInfo ?_) | (refine wpList_store_row rfl 52 _ _ rfl B5 _ rfl rfl 52 _ HX5c.out bsInfo rfl (sA_one _) ?_))
        exact ⟨⟨_, _, _, _, _, _, _, _, _, _, _, _, ⟨mo, HX5n.out, HJn.out, HX2n.out, HX1n.out, HBn.out⟩, rfl⟩, by rw [cntF_bx HX5n.out, HCt.out]; exact HMs.out⟩

set_option maxHeartbeats 8000000 in
theorem withJoins_any (F : Nat → Nat → Bool) (hF : ∀ x y, F x y = true → y < 12) (v : Value) (l : List Int) (w : World) (h : NV w v l) (hl : l.length ≤ 1000) (hb : BlS l) :
    Calls Try.prog 47 #[.agg (dA F), v] w fun e w' => e = .returned (.agg (sA fun y => js F l y || inS l y)) ∧ Below w.heap.size w w' := by
  obtain ⟨ad, c, rfl, -⟩ := h.form
  have HN : Hid (∀ w', Below w.heap.size w w' → NV w' (.slice ad l.length c) l) := hide (fun w' hb => h.below hb)
  have HBl := hide hb
  have HFl := hide hF
  obtain ⟨W2, hW2⟩ : ∃ W2, W2 = (w.alloc (.cells (dA F) 54)).alloc (.cells (sA fun _ => false) 52) := ⟨_, rfl⟩
  have hB2 : Below w.heap.size w W2 := by rw [hW2]; exact ((Below.refl _ _).alloc (Nat.le_refl _) _).alloc (by simp) _
  have HX1 : Hid (Bx W2 w.heap.size (dA F) 54) := hide (by rw [hW2]; exact (Bx.new w _ _).alloc _)
  have HX2 : Hid (Bx W2 (w.heap.size + 1) (sA fun _ => false) 52) := hide (by rw [hW2]; have := Bx.new (w.alloc (.cells (dA F) 54)) (sA fun _ => false) 52; simpa using this)
  have HW2 := hide hW2
  clear h hb hW2 hF
  go_enter Try.func47, Try.ntmps47
  go_upto_region 1 with fail
  rw [show ((w.alloc (.cells (dA F) 54)).alloc (.cells #[.bool false, .bool false, .bool false, .bool false, .bool false, .bool false, .bool false, .bool false, .bool false, .bool false, .bool false, .bool false] 52)) = W2 from HW2.out.symm]
  go_wp2_with (refine wpList_load_row rfl 54 _ rfl w.heap.size rfl 54 _ (0, 0) _ HX1.out Try.underlying54 rfl (by rw [dA_size]; exact fSize) ?_)
  refine Calls.mono (joinsOf_any F HFl.out _ l _ (HN.out _ hB2) hl HBl.out) ?_
  rintro e w3 ⟨rfl, hb⟩
  have hB3 := hB2.trans (hb.mono hB2.size)
  have HX3 := hide (HX2.out.below hb HX2.out.lt)
  have HX3l := HX3.out.lt
  clear hb HX1 HX2 HW2 hB2
  obtain ⟨J, hJ⟩ : ∃ J, J = js F l := ⟨_, rfl⟩
  rw [← hJ]
  have HJe := hide hJ
  clear hJ HFl
  go_wp2_with fail
  refine Calls.mono (list_any J _) ?_
  rintro e w4 ⟨v8, rfl, hO, hb⟩
  have hB4 := hB3.trans (hb.mono hB3.size)
  have HX4 := hide (HX3.out.below hb HX3.out.lt)
  have hn8 := lst_len J 12
  have HNl := HN.out _ hB4
  have HO := hide hO
  have h34 : w3.heap.size ≤ w4.heap.size := hb.size
  have hlen : (lst J 12).length + l.length = (lst J 12 ++ l).length := List.length_append.symm
  have hlb : (lst J 12 ++ l).length ≤ 1048576 := by omega
  clear hb HX3 hB3 hO
  obtain ⟨n8, hn8'⟩ : ∃ n8, n8 = (lst J 12).length := ⟨_, rfl⟩
  obtain ⟨a8, c8, e8⟩ := own_form HO.out
  rw [← hn8'] at HO hn8 hlen e8
  subst e8
  have Hlen := hide hlen
  obtain ⟨nl, hnl⟩ : ∃ nl, nl = l.length := ⟨_, rfl⟩
  have HPt := hide HNl.pt
  rw [← hnl] at HPt hl Hlen ⊢
  clear hn8' hlen hnl HNl
  go_wp2_with (at_builtin; refine wpList_append_i rfl _ _ rfl w3.heap.size _ n8 _ rfl HO.out _ nl _ rfl HPt.out (by omega) h34 ?_)
  intro v10 w5 hO2 hg2
  have hb5 := grown_below hg2 h34 (own_ge HO.out)
  have HNw : Hid (NV w5 v10 (lst J 12 ++ l)) := hide (NV.ofOwn (by rw [ic_app]; exact hO2) Hlen.out)
  have HX5 := hide (HX4.out.below hb5 HX3l)
  have hB5 := hB4.trans (hb5.mono (by omega))
  obtain ⟨a10, c10, e10⟩ := own_form hO2
  obtain ⟨n10, hn10⟩ : ∃ n10, n10 = n8 + nl := ⟨_, rfl⟩
  rw [← hn10] at e10
  subst e10
  clear hO2 hg2 hn10 HX4 HO HPt hB4 hb5
  go_wp2_with fail
  refine Calls.mono (marksOf_any _ (lst J 12 ++ l) _ HNw.out hlb HBl.out.app) ?_
  rintro e w6 ⟨rfl, hb⟩
  have hB6 := hB5.trans (hb.mono hB5.size)
  have HX6 := hide (HX5.out.below hb HX5.out.lt)
  have HE : Hid (sA (inS (lst J 12 ++ l)) = sA fun y => J y || inS l y) := hide (sA_congr (fun y hy => by
    rw [Bool.eq_iff_iff, Bool.or_eq_true, inS_iff, inS_iff, List.mem_append]
    constructor
    · rintro (h | h)
      · obtain ⟨k, e, -, h1⟩ := lst_mem.1 h
        obtain rfl : y = k := by omega
        exact .inl h1
      · exact .inr h
    · rintro (h | h)
      · exact .inl (lst_mem.2 ⟨y, rfl, hy, h⟩)
      · exact .inr h))
  rw [HE.out]
  clear hb HX5 hB5
  go_wp2_with (refine wpList_store_row rfl 52 _ _ rfl (w.heap.size + 1) _ rfl rfl 52 _ HX6.out bsInfo rfl (sA_one _) ?_)
  refine bodyPost_ret (v := .agg (sA fun y => J y || inS l y)) (results_cell_row (p := 4) rfl _ _ (w.heap.size + 1) 52 _ (0, 0) _ rfl (setRow_same HX6.out _) Try.underlying52 rfl bsInfo) rfl ⟨by rw [HJe.out], setRow_below _ hB6 (by omega)⟩
end Go.Proofs.Ytochhnibegcbpaa.W

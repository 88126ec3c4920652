/-
  Sets of blocks: marksOf, areReached, areSets of the program; l11Blocks of the specification. Conditions: a good graph; at most 1048576 numbers. Written by wip/build/mk_jna.py.
-/
import Derived.Test.YtochhnibegcbpaaJnG
namespace Go.Proofs.Ytochhnibegcbpaa.W
open Go.ChangeShapes Go.WideShapes Go.ChangeAt Go.RowKit Go.Joins
set_option linter.unusedVariables false
set_option linter.unusedSimpArgs false

theorem IBlk.nv {w : World} {g : Nat} {l : List Int} (h : IBlk w g l) : NV w (.slice (some ⟨g, 0, none⟩) l.length l.length) l := by
  have hl := h.lt
  obtain ⟨cur, hh, hF⟩ := h
  refine .inr ⟨g, 0, _, rfl, Nat.le_refl _, hl, fun i hi => ?_⟩
  rw [cell_of_blk hh]
  have := hF.2 i hi hi 0 (by omega)
  simpa using this
theorem NV.irow {w : World} {ad : Option Addr} {c : Nat} {l : List Int} (h : NV w (.slice ad l.length c) l) : IRow w ad l := by
  obtain ⟨ad', c', e, h2, -⟩ := h.pv
  simp only [Value.slice.injEq] at e
  obtain ⟨rfl, -, -⟩ := e
  exact h2
/-- Whether a number is one of these. -/
def inS (l : List Int) (y : Nat) : Bool := decide ((y : Int) ∈ l)
theorem inS_iff {l : List Int} {y : Nat} : inS l y = true ↔ (y : Int) ∈ l := by simp [inS]
theorem inS_take {l : List Int} {m X : Nat} (hm : m < l.length) (hX : l[m] = (X : Int)) : sA (inS (l.take (m + 1))) = sA (upd (inS (l.take m)) X true) := by
  refine sA_congr (fun y hy => ?_)
  by_cases e : y = X
  · subst e
    rw [upd_same, inS_iff, take_mem hm]
    exact .inr hX.symm
  · rw [upd_other _ _ _ e, Bool.eq_iff_iff, inS_iff, inS_iff, take_mem hm, hX]
    constructor
    · rintro (h | h)
      · exact h
      · omega
    · exact .inl
/-- Rising numbers of reached blocks. -/
def BG (L : List (List Int)) (l : List Int) : Prop := RisL l L.length ∧ ∀ x ∈ l, Rc L (-1) 0 x.toNat
open Classical in
noncomputable def bG (L : List (List Int)) (l : List Int) : Bool := decide (BG L l)
theorem bG_iff {L : List (List Int)} {l : List Int} : bG L l = true ↔ BG L l := by simp [bG]
theorem bG_no {L : List (List Int)} {l : List Int} (h : ¬ BG L l) : bG L l = false := by simp [bG, h]
noncomputable def sG (L : List (List Int)) (l : List Int) : Bool := bG L l && decide ((0 : Int) ∈ l)
theorem BG.blk {L : List (List Int)} (hg : GG L) {l : List Int} (h : BG L l) : BlS l := fun x hx => by
  have := h.1.mem hx
  have := hg.2.1
  omega

set_option maxHeartbeats 4000000 in
theorem marksOf_any (v : Value) (l : List Int) (w : World) (h : NV w v l) (hl : l.length ≤ 1048576) (hb : BlS l) :
    Calls Try.prog 54 #[v] w fun e w' => e = .returned (.agg (sA (inS l))) ∧ Below w.heap.size w w' := by
  obtain ⟨ad, c, rfl, -⟩ := h.form
  have HN := hide h
  have HBl := hide hb
  obtain ⟨W2, hW2⟩ : ∃ W2, W2 = (w.alloc (.cells (sA fun _ => false) 52)).alloc (.cells (sA fun _ => false) 52) := ⟨_, rfl⟩
  have hB2 : Below w.heap.size w W2 := by rw [hW2]; exact ((Below.refl _ _).alloc (Nat.le_refl _) _).alloc (by simp) _
  have HX2 : Hid (Bx W2 w.heap.size (sA fun _ => false) 52) := hide (by rw [hW2]; exact (Bx.new w _ _).alloc _)
  have HX3 : Hid (Bx W2 (w.heap.size + 1) (sA (inS (l.take 0))) 52) := hide (by
    rw [hW2, show sA (inS (l.take 0)) = sA (fun _ => false) from sA_congr (fun y _ => by simp [inS])]
    have := Bx.new (w.alloc (.cells (sA fun _ => false) 52)) (sA fun _ => false) 52
    simpa using this)
  have HW2 := hide hW2
  clear h hb hW2
  go_enter Try.func54, Try.ntmps54
  go_upto_region 2 with fail
  rw [show ((w.alloc (.cells #[.bool false, .bool false, .bool false, .bool false, .bool false, .bool false, .bool false, .bool false, .bool false, .bool false, .bool false, .bool false] 52)).alloc (.cells #[.bool false, .bool false, .bool false, .bool false, .bool false, .bool false, .bool false, .bool false, .bool false, .bool false, .bool false, .bool false] 52)) = W2 from HW2.out.symm]
  obtain ⟨B3, hB3⟩ : ∃ B3, B3 = w.heap.size + 1 := ⟨_, rfl⟩
  obtain ⟨B2, hB2'⟩ : ∃ B2, B2 = w.heap.size := ⟨_, rfl⟩
  rw [← hB3] at HX3 ⊢
  rw [← hB2'] at HX2 ⊢
  have h2 : w.heap.size ≤ B2 := by omega
  have h3 : w.heap.size ≤ B3 := by omega
  have h23 : B2 ≠ B3 := by omega
  clear hB3 hB2' HW2
  go_wp2_with fail
  go_loopw [8] (fun i w' => ∃ j : Nat, j ≤ l.length ∧ i = .int .i64 j ∧ Bx w' B3 (sA (inS (l.take j))) 52 ∧ Bx w' B2 (sA fun _ => false) 52 ∧ Below w.heap.size w w') (fun i _ => l.length - (intOf i).toNat)
  case atStart => exact ⟨0, by omega, rfl, HX3.out, HX2.out, hB2⟩
  case round =>
    clear HX2 HX3 hB2
    obtain ⟨j, hj, rfl, hX3, hX2, hB⟩ := hrel
    have HX3 := hide hX3
    have HX2 := hide hX2
    have HB := hide hB
    clear hX3 hX2 hB
    by_cases hlt : j < l.length
    · have hlt' : (j : Int) < (l.length : Int) := by omega
      obtain ⟨b1, o1, rfl, p0⟩ := NV.at HN.out HB.out hlt
      have hbd := HBl.out _ (List.getElem_mem hlt)
      obtain ⟨X, hX⟩ : ∃ X : Nat, l[j] = (X : Int) := ⟨l[j].toNat, by omega⟩
      rw [hX] at p0 hbd
      have hX12 : X < 12 := by omega
      have hX12' : (X : Int) < 12 := by omega
      have c3 : wr.cell? ⟨B3, X, none⟩ = some (.bool (inS (l.take j) X)) := by rw [HX3.out.c]; exact sA_at _ hX12
      have f3 := HX3.out.f
      have HX3n : Hid (Bx (wr.setCell ⟨B3, X, none⟩ (.bool true)) B3 (sA (inS (l.take (j + 1)))) 52) := hide (by
        have := HX3.out.set X (.bool true)
        rw [sA_set] at this
        rw [inS_take hlt hX]
        exact this)
      have HX2n := hide (HX2.out.setne B3 X (.bool true) h23)
      have HBn := hide (HB.out.setCell (p := ⟨B3, X, none⟩) h3 (.bool true))
      clear hX hbd
      go_wp2_with fail
      exact ⟨⟨j + 1, by omega, by go_num, HX3n.out, HX2n.out, HBn.out⟩, by simp [intOf]; omega⟩
    · have HE : Hid (sA (inS (l.take j)) = sA (inS l)) := hide (by rw [List.take_of_length_le (by omega)])
      rw [HE.out] at HX3
      go_wp2_with (first | (refine wpList_load_row rfl 52 _ rfl B3 rfl 52 _ (0, 0) _ HX3.out Try.underlying52 rfl bsInfo ?_) | (refine wpList_store_row rfl 52 _ _ rfl B2 _ rfl rfl 52 _ HX2.out bsInfo rfl (sA_one _) ?_))
      refine bodyPost_ret (v := .agg (sA (inS l))) (results_cell_row (p := 2) rfl _ _ B2 52 _ (0, 0) _ rfl (setRow_same HX2.out _) Try.underlying52 rfl bsInfo) rfl ⟨rfl, setRow_below _ HB.out (by omega)⟩

set_option maxHeartbeats 4000000 in
theorem areReached_any (v s : Value) (L : List (List Int)) (l : List Int) (w : World) (h : GRow w v L) (hg : GG L) (hs : NV w s l) (hl : l.length ≤ 1048576) :
    Calls Try.prog 46 #[v, s] w fun e w' => e = .returned (.bool (bG L l)) ∧ Below w.heap.size w w' := by
  obtain ⟨ad, c, rfl, hR, hsm, hlc⟩ := h
  obtain ⟨sa, sc, rfl, -⟩ := hs.form
  have hB0 : Below w.heap.size w (w.alloc (.cells #[.slice ad L.length c] 28)) := (Below.refl _ _).alloc (Nat.le_refl _) _
  have HX := hide (Bx.new w #[.slice ad L.length c] 28)
  have HV : Hid (∀ w', Below w.heap.size w w' → GRow w' (.agg #[.slice ad L.length c]) L) := hide (fun w' hb => ⟨ad, c, rfl, hR.below hb, hsm, hlc⟩)
  have HS : Hid (∀ w', Below w.heap.size w w' → NV w' (.slice sa l.length sc) l) := hide (fun w' hb => hs.below hb)
  have HG := hide hg
  have hl12 := hg.2.1
  obtain ⟨G, hG⟩ : ∃ G, G = bG L l := ⟨_, rfl⟩
  rw [← hG]
  have HGe := hide hG
  have cx := HX.out.c
  clear hR hsm hlc hg hs hG
  go_enter Try.func46, Try.ntmps46
  go_wp2_with fail
  refine Calls.mono (isRising_any sa sc L.length l _ (HS.out _ hB0).irow hl (by omega)) ?_
  rintro e w1 ⟨rfl, hw⟩
  obtain rfl := hw
  obtain ⟨w1, hw1⟩ : ∃ w1, w1 = w.alloc (.cells #[.slice ad L.length c] 28) := ⟨_, rfl⟩
  rw [← hw1] at hB0 HX cx ⊢
  clear hw1
  by_cases hr : risB l L.length = true
  · have hRis := risB_iff.1 hr
    have HRis := hide hRis
    rw [hr]
    have HBl : Hid (BlS l) := hide (fun x hx => by have := hRis.mem hx; omega)
    clear hr hRis cx
    go_wp2_with fail
    refine Calls.mono (marksOf_any _ l _ (HS.out _ hB0) hl HBl.out) ?_
    rintro e w2 ⟨rfl, hb⟩
    have hB2 := hB0.trans (hb.mono hB0.size)
    have HX2 := hide (HX.out.below hb HX.out.lt)
    clear hb hB0 HX
    have HX5 : Hid ((w2.alloc (.cells #[.bool false, .bool false, .bool false, .bool false, .bool false, .bool false, .bool false, .bool false, .bool false, .bool false, .bool false, .bool false] 52)).heap[w2.heap.size]? = some (.cells #[.bool false, .bool false, .bool false, .bool false, .bool false, .bool false, .bool false, .bool false, .bool false, .bool false, .bool false, .bool false] 52 (0, 0))) := hide (heap_alloc_new w2 _)
    go_upto_region 4 with (refine wpList_store_row rfl 52 _ _ rfl w2.heap.size _ rfl rfl 52 _ HX5.out bsInfo rfl (sA_one _) ?_)
    rw [World.setRow_alloc_new]
    clear HX5
    obtain ⟨w3, hw3⟩ : ∃ w3, w3 = w2.alloc (.cells (sA (inS l)) 52) := ⟨_, rfl⟩
    rw [← hw3]
    have hB3 : Below w.heap.size w w3.drew := belowDrew8 (by rw [hw3]; exact hB2.alloc hB2.size _)
    have y0 : Bx w3 w2.heap.size (sA (inS l)) 52 := by rw [hw3]; exact Bx.new w2 _ _
    have x0 : Bx w3 w.heap.size #[.slice ad L.length c] 28 := by rw [hw3]; exact HX2.out.alloc _
    obtain ⟨BN, hBN⟩ : ∃ BN, BN = w2.heap.size := ⟨_, rfl⟩
    rw [← hBN] at y0 ⊢
    have g0 := x0.c 0
    have lx := x0.lt
    have ly := y0.lt
    obtain ⟨r, hr⟩ : ∃ r, r = rc L (-1) 0 := ⟨_, rfl⟩
    obtain ⟨f, hf⟩ : ∃ f, f = inS l := ⟨_, rfl⟩
    have HGr : Hid (G = sEq (fun i => f i && r i) f) := hide (by
      rw [HGe.out, Bool.eq_iff_iff, bG_iff, sEq_iff, hr, hf]
      constructor
      · intro h
        refine sA_congr (fun i hi => ?_)
        rw [Bool.eq_iff_iff, Bool.and_eq_true, inS_iff, rc_iff]
        exact ⟨fun h1 => h1.1, fun h1 => ⟨h1, by simpa using h.2 _ h1⟩⟩
      · intro h
        refine ⟨HRis.out, fun x hx => ?_⟩
        have hb := HBl.out x hx
        have h1 := sA_inj h x.toNat (by omega)
        rw [Bool.eq_iff_iff, Bool.and_eq_true, inS_iff, rc_iff] at h1
        exact (h1.2 (by rw [show ((x.toNat : Nat) : Int) = x by omega]; exact hx)).2)
    have HRe : Hid (∀ (w' : World), Below w.heap.size w w' → Calls Try.prog 60 #[.agg #[.slice ad L.length c]] w' fun e w'' => e = .returned (.agg (sA r)) ∧ Below w'.heap.size w' w'') := hide (fun w' hb => by rw [hr]; exact reached_any _ L _ (HV.out _ hb) HG.out)
    rw [← hf] at y0 ⊢
    clear hw3 hBN hr hf hB2 HX2
    have heq := run_eql_s (fun i => f i && r i) f
    obtain ⟨q, hq⟩ : ∃ q, q = sEq (fun i => f i && r i) f := ⟨_, rfl⟩
    rw [← hq] at heq HGr
    clear hq
    have hgu := fun w => run_eqGuard_agg (P := Try.prog) w .eql 52 (.tmp 17) (.tmp 18) (sA fun i => f i && r i) (sA f) sGuard
    refine wp_region_noPanic ?_
    refine wp_region_held_drew (S := fun w' => Bx w' BN (sA f) 52 ∧ w'.cell? ⟨w.heap.size, 0, none⟩ = some (.slice ad L.length c)) (by kernel_rfl) ⟨y0, g0⟩ (fun hHeld => ?_)
    refine wpAnyH_take (i := 0) (oi := _) (v := .agg (sA (f))) rfl (by kernel_rfl) (by kernel_rfl) (by kernel_rfl) (fun _ _ _ h => h) (yieldsIf_load_mid (by rfl) 52 _ rfl BN (0) rfl (sL (f)) _ (fun w h => sA_rng h.1) Try.underlying52 rfl (bsInfo' _)) (by assumption) ?_
    try simp only [Act.put, List.getElem_toArray, List.getElem_cons_zero, List.getElem_cons_succ, List.setIfInBounds_toArray, List.set_cons_zero, List.set_cons_succ]
    refine wpAnyH_take (i := 1) (oi := _) (v := ?_) rfl (by kernel_rfl) (by kernel_rfl) (by kernel_rfl) (fun _ _ _ h => h) (Or.inl ⟨by rfl, ?_⟩) (by assumption) ?_
    rotate_left 1
    · (intro w hSw; (try dsimp only at hSw); replace hSw := hSw.2; (first | (go_simp; done) | (go_simp; with_reducible rfl)))
    try simp only [Act.put, List.getElem_toArray, List.getElem_cons_zero, List.getElem_cons_succ, List.setIfInBounds_toArray, List.set_cons_zero, List.set_cons_succ]
    refine wpAnyH_take (i := 4) (oi := _) (v := .agg (sA (f))) rfl (by kernel_rfl) (by kernel_rfl) (by kernel_rfl) (fun _ _ _ h => h) (yieldsIf_load_mid (by rfl) 52 _ rfl BN (0) rfl (sL (f)) _ (fun w h => sA_rng h.1) Try.underlying52 rfl (bsInfo' _)) (by assumption) ?_
    try simp only [Act.put, List.getElem_toArray, List.getElem_cons_zero, List.getElem_cons_succ, List.setIfInBounds_toArray, List.set_cons_zero, List.set_cons_succ]
    refine wpAnyH_ready (rs := [2]) (by kernel_rfl) (by simp) ?_
    refine AllReadyH.cons (o := _) rfl (fun K hK => ?_) AllReadyH.nil
    go_simp
    (with_reducible refine Calls.mono (HRe.out _ hB3) ?_)
    rintro r w4 ⟨rfl, hb⟩
    have y4 := y0.drew.below hb ly
    have g4 := (hb.cell (p := ⟨w.heap.size, 0, none⟩) lx).trans g0
    have lx4 := Nat.lt_of_lt_of_le lx hb.size
    have ly4 := y4.lt
    have hB4 := hB3.trans (hb.mono hB3.size)
    clear hb
    (try go_wp2_with fail)
    refine hK.out _ _ ⟨y4, g4⟩ (fun hHeld => ?_)
    clear hK K
    try simp only [Act.put, List.getElem_toArray, List.getElem_cons_zero, List.getElem_cons_succ, List.setIfInBounds_toArray, List.set_cons_zero, List.set_cons_succ]
    refine wpAnyH_ready (rs := [3]) (by kernel_rfl) (by simp) ?_
    refine AllReadyH.cons (o := _) rfl (fun K hK => ?_) AllReadyH.nil
    go_simp
    (with_reducible refine Calls.mono (shared_any f r _) ?_)
    rintro r w5 ⟨rfl, hb⟩
    have y5 := y4.below hb ly4
    have g5 := (hb.cell (p := ⟨w.heap.size, 0, none⟩) lx4).trans g4
    have hB5 := hB4.trans (hb.mono hB4.size)
    clear hb
    (try go_wp2_with fail)
    refine hK.out _ _ ⟨y5, g5⟩ (fun hHeld => ?_)
    clear hK K
    try simp only [Act.put, List.getElem_toArray, List.getElem_cons_zero, List.getElem_cons_succ, List.setIfInBounds_toArray, List.set_cons_zero, List.set_cons_succ]
    refine wpAnyH_take (i := 5) (oi := _) (v := .bool q) rfl (by kernel_rfl) (by kernel_rfl) (by kernel_rfl) (fun _ _ _ h => h) (Or.inl ⟨by rfl, ?_⟩) (by assumption) ?_
    · (intro w hSw; clear hSw; go_simp)
    try simp only [Act.put, List.getElem_toArray, List.getElem_cons_zero, List.getElem_cons_succ, List.setIfInBounds_toArray, List.set_cons_zero, List.set_cons_succ]
    refine wpAnyH_take (i := 6) (oi := _) (v := ?_) rfl (by kernel_rfl) (by kernel_rfl) (by kernel_rfl) (fun _ _ _ h => h) (Or.inl ⟨by rfl, ?_⟩) (by assumption) ?_
    rotate_left 1
    · (intro w hSw; (try dsimp only at hSw); (first | (go_simp; done) | (go_simp; with_reducible rfl)))
    try simp only [Act.put, List.getElem_toArray, List.getElem_cons_zero, List.getElem_cons_succ, List.setIfInBounds_toArray, List.set_cons_zero, List.set_cons_succ]
    refine wpAnyH_done (by kernel_rfl) ?_ _
    refine NoPanic.normal ?_
    clear hHeld
    clear heq hgu
    go_wp2_with fail
    go_ret
    exact ⟨ret_bool HGr.out.symm, hB5⟩
  · have HF : Hid (G = false) := hide (by rw [HGe.out]; exact bG_no (fun h => hr (risB_iff.2 h.1)))
    rw [Bool.not_eq_true] at hr
    rw [hr]
    go_wp2_with fail
    go_ret
    exact ⟨ret_bool HF.out.symm, hB0⟩

set_option maxHeartbeats 4000000 in
theorem areSets_any (v s : Value) (L : List (List Int)) (l : List Int) (w : World) (h : GRow w v L) (hg : GG L) (hs : NV w s l) (hl : l.length ≤ 1048576) :
    Calls Try.prog 42 #[v, s] w fun e w' => e = .returned (.bool (sG L l)) ∧ Below w.heap.size w w' := by
  obtain ⟨ad, c, rfl, hR, hsm, hlc⟩ := h
  obtain ⟨sa, sc, rfl, -⟩ := hs.form
  have hB0 : Below w.heap.size w (w.alloc (.cells #[.slice ad L.length c] 28)) := (Below.refl _ _).alloc (Nat.le_refl _) _
  have HV : Hid (∀ w', Below w.heap.size w w' → GRow w' (.agg #[.slice ad L.length c]) L) := hide (fun w' hb => ⟨ad, c, rfl, hR.below hb, hsm, hlc⟩)
  have HS := hide hs
  have HG := hide hg
  obtain ⟨G, hG⟩ : ∃ G, G = sG L l := ⟨_, rfl⟩
  rw [← hG]
  have HGe := hide hG
  clear hR hsm hlc hg hs hG
  go_enter Try.func42, Try.ntmps42
  go_wp2_with fail
  refine Calls.mono (areReached_any _ _ L l _ (HV.out _ hB0) HG.out (HS.out.below hB0) hl) ?_
  rintro e w1 ⟨rfl, hb⟩
  have HB1 := hide (hB0.trans (hb.mono hB0.size))
  clear hb hB0 HV
  by_cases hr : bG L l = true
  · have HBG := hide (bG_iff.1 hr)
    have HGs : Hid (G = decide ((0 : Int) ∈ l)) := hide (by rw [HGe.out, sG, hr]; rfl)
    rw [hr]
    clear hr
    by_cases h0 : 0 < l.length
    · have h0' : (0 : Int) < (l.length : Int) := by omega
      obtain ⟨b1, o1, rfl, p0⟩ := NV.at HS.out HB1.out h0
      obtain ⟨x, hx⟩ : ∃ x, x = l[0] := ⟨_, rfl⟩
      rw [← hx] at p0
      have HQ : Hid (G = (x == 0)) := hide (by
        rw [HGs.out, Bool.eq_iff_iff, decide_eq_true_eq, beq_iff_eq, hx]
        constructor
        · intro hm
          obtain ⟨q, hq, e⟩ := List.getElem_of_mem hm
          have h1 := HBG.out.1.le_len q hq
          obtain rfl : q = 0 := by omega
          exact e
        · intro e; rw [← e]; exact List.getElem_mem h0)
      clear hx
      obtain ⟨q, hq⟩ : ∃ q, q = (x == 0) := ⟨_, rfl⟩
      rw [← hq] at HQ
      have hq2 := hq.symm
      clear hq
      simp only [Nat.add_zero] at p0
      go_wp2_with fail
      go_ret
      exact ⟨ret_bool HQ.out.symm, HB1.out⟩
    · have hl0 : l.length = 0 := by omega
      have HQ : Hid (G = false) := hide (by
        rw [HGs.out, decide_eq_false_iff_not, List.eq_nil_of_length_eq_zero hl0]
        simp)
      have h0' : ¬ (0 : Int) < (l.length : Int) := by omega
      clear hl0
      go_wp2_with fail
      go_ret
      exact ⟨ret_bool HQ.out.symm, HB1.out⟩
  · have HF : Hid (G = false) := hide (by rw [HGe.out, sG]; rw [Bool.not_eq_true] at hr; rw [hr]; rfl)
    rw [Bool.not_eq_true] at hr
    rw [hr]
    go_wp2_with fail
    go_ret
    exact ⟨ret_bool HF.out.symm, HB1.out⟩

set_option maxHeartbeats 4000000 in
theorem l11Blocks_any (v s : Value) (L : List (List Int)) (l : List Int) (w : World) (h : GRow w v L) (hg : GG L) (hs : NV w s l) (hl : l.length ≤ 1048576) :
    Calls Try.prog 39 #[v, s] w fun e w' => e = .returned (.bool (bG L l)) ∧ Below w.heap.size w w' := by
  obtain ⟨ad, c, rfl, hR, hsm, hlc⟩ := h
  obtain ⟨sa, sc, rfl, -⟩ := hs.form
  have hB0 : Below w.heap.size w (w.alloc (.cells #[.slice ad L.length c] 28)) := (Below.refl _ _).alloc (Nat.le_refl _) _
  have HV : Hid (∀ w', Below w.heap.size w w' → GRow w' (.agg #[.slice ad L.length c]) L) := hide (fun w' hb => ⟨ad, c, rfl, hR.below hb, hsm, hlc⟩)
  have HS := hide hs
  have HG := hide hg
  obtain ⟨G, hG⟩ : ∃ G, G = bG L l := ⟨_, rfl⟩
  rw [← hG]
  have HGe := hide hG
  clear hR hsm hlc hg hs hG
  go_enter Try.func39, Try.ntmps39
  go_wp2_with fail
  refine Calls.mono (l10Reach_any _ L (-1) _ (HV.out _ hB0) HG.out) ?_
  rintro e W1 ⟨v3, rfl, hN3, hb⟩
  have HB1 := hide (hB0.trans (hb.mono hB0.size))
  clear hb hB0 HV
  obtain ⟨R, hRR⟩ : ∃ R, R = rl L (-1) 0 := ⟨_, rfl⟩
  rw [← hRR] at hN3
  have hR12 : R.length ≤ 12 := by rw [hRR]; exact lst_len _ _
  have HRm : Hid (∀ x : Int, x ∈ R ↔ 0 ≤ x ∧ x < L.length ∧ Rc L (-1) 0 x.toNat) := hide (fun x => by
    rw [hRR]
    constructor
    · intro hm
      obtain ⟨k, rfl, -, hk⟩ := lst_mem.1 hm
      have hk := rc_iff.1 hk
      have := hk.lt HG.out HG.out.1
      exact ⟨by omega, by omega, by simpa using hk⟩
    · rintro ⟨h1, h2, h3⟩
      refine lst_mem.2 ⟨x.toNat, by omega, ?_, rc_iff.2 h3⟩
      have := HG.out.2.1
      omega)
  clear hRR
  obtain ⟨a3, c3, rfl, -⟩ := hN3.form
  have HN3 := hide hN3
  have HSs := hide (HS.out.below HB1.out)
  clear hN3
  go_wp2_with fail
  go_loopw [12] (fun i w' => ∃ j : Nat, j ≤ l.length ∧ i = .int .i64 j ∧ (∀ q, q < j → RisAt l L.length q ∧ ∀ h : q < l.length, Rc L (-1) 0 l[q].toNat) ∧ w' = W1) (fun i _ => l.length - (intOf i).toNat)
  case atStart => exact ⟨0, by omega, rfl, by intros; omega, rfl⟩
  case round =>
    obtain ⟨j, hj, rfl, hall, rfl⟩ := hrel
    have HA := hide hall
    clear hall
    by_cases hlt : j < l.length
    · have hlt' : (j : Int) < (l.length : Int) := by omega
      obtain ⟨b, o, rfl, p0⟩ := NV.at HSs.out (Below.refl _ _) hlt
      obtain ⟨x, hx⟩ : ∃ x, x = l[j] := ⟨_, rfl⟩
      rw [← hx] at p0
      have HX := hide hx
      clear hx
      by_cases hm : x ∈ R
      · have hm2 := (HRm.out x).1 hm
        have HM2 := hide hm2
        clear hm2
        by_cases hj0 : 0 < j
        · have hj0' : (0 : Int) < (j : Int) := by omega
          obtain ⟨b', o', e', p1⟩ := NV.at HSs.out (Below.refl _ _) (show j - 1 < l.length by omega)
          simp only [Option.some.injEq, Addr.mk.injEq, and_true] at e'
          obtain ⟨rfl, rfl⟩ := e'
          obtain ⟨y, hy⟩ : ∃ y, y = l[j - 1] := ⟨_, rfl⟩
          rw [← hy] at p1
          have HY := hide hy
          clear hy
          obtain ⟨i, rfl⟩ : ∃ i, j = i + 1 := ⟨j - 1, by omega⟩
          simp only [Nat.add_sub_cancel] at p1
          by_cases hyx : y < x
          · have hyx' : ¬ x ≤ y := by omega
            have HA2 : Hid (∀ q, q < i + 1 + 1 → RisAt l L.length q ∧ ∀ h : q < l.length, Rc L (-1) 0 l[q].toNat) := hide (fun q hq => by
              by_cases e : q = i + 1
              · subst e
                exact ⟨fun hh => ⟨HX.out ▸ HM2.out.1, HX.out ▸ HM2.out.2.1, fun _ => by rw [← HY.out, ← HX.out]; exact hyx⟩, fun hh => HX.out ▸ HM2.out.2.2⟩
              · exact HA.out q (by omega))
            go_wp2_with fail
            refine Calls.mono (l1Has_v _ R x _ HN3.out (by omega)) ?_
            rintro e w1 ⟨rfl, hw⟩
            obtain rfl := hw.symm
            rw [decide_eq_true hm]
            clear hm
            go_wp2_with fail
            exact ⟨⟨i + 1 + 1, by omega, by go_num, HA2.out, trivial⟩, by simp [intOf]; omega⟩
          · have hyx' : x ≤ y := by omega
            have HF : Hid (G = false) := hide (by
              rw [HGe.out]
              refine bG_no (fun h => ?_)
              have := (h.1 (i + 1) hlt).2.2 (by omega)
              rw [← HX.out] at this
              have e := HY.out
              simp only [Nat.add_sub_cancel] at this e
              omega)
            go_wp2_with fail
            refine Calls.mono (l1Has_v _ R x _ HN3.out (by omega)) ?_
            rintro e w1 ⟨rfl, hw⟩
            obtain rfl := hw.symm
            rw [decide_eq_true hm]
            clear hm
            go_wp2_with fail
            go_ret
            exact ⟨ret_bool HF.out.symm, HB1.out⟩
        · have hj0' : ¬ (0 : Int) < (j : Int) := by omega
          have HA2 : Hid (∀ q, q < j + 1 → RisAt l L.length q ∧ ∀ h : q < l.length, Rc L (-1) 0 l[q].toNat) := hide (fun q hq => by
            obtain rfl : q = j := by omega
            exact ⟨fun hh => ⟨HX.out ▸ HM2.out.1, HX.out ▸ HM2.out.2.1, fun h0 => by omega⟩, fun hh => HX.out ▸ HM2.out.2.2⟩)
          go_wp2_with fail
          refine Calls.mono (l1Has_v _ R x _ HN3.out (by omega)) ?_
          rintro e w1 ⟨rfl, hw⟩
          obtain rfl := hw.symm
          rw [decide_eq_true hm]
          clear hm
          go_wp2_with fail
          exact ⟨⟨j + 1, by omega, by go_num, HA2.out, trivial⟩, by simp [intOf]; omega⟩
      · have HF : Hid (G = false) := hide (by
          rw [HGe.out]
          refine bG_no (fun h => hm ((HRm.out x).2 ?_))
          have h1 := h.1 j hlt
          have h2 := h.2 _ (List.getElem_mem hlt)
          rw [← HX.out] at h1 h2
          exact ⟨h1.1, h1.2.1, h2⟩)
        go_wp2_with fail
        refine Calls.mono (l1Has_v _ R x _ HN3.out (by omega)) ?_
        rintro e w1 ⟨rfl, hw⟩
        obtain rfl := hw.symm
        rw [decide_eq_false hm]
        clear hm
        go_wp2_with fail
        go_ret
        exact ⟨ret_bool HF.out.symm, HB1.out⟩
    · have HF : Hid (G = true) := hide (by
        rw [HGe.out]
        refine bG_iff.2 ⟨RisAt.all (fun i hi => (HA.out i (by omega)).1), fun x hx => ?_⟩
        obtain ⟨q, hq, rfl⟩ := List.getElem_of_mem hx
        exact (HA.out q (by omega)).2 hq)
      go_wp2_with fail
      go_ret
      exact ⟨ret_bool HF.out.symm, HB1.out⟩
end Go.Proofs.Ytochhnibegcbpaa.W

/-
  dominators, by the program. Conditions: a good graph.
-/
import Derived.Test.YtgmablmkjngkkaaGrA
import Derived.Test.YtgmablmkjngkkaaGrD
import Derived.Test.YtgmablmkjngkkaaGrI
import Derived.Deep.RegionHeld3
namespace Go.Proofs.Ytgmablmkjngkkaa.W
open Go.ChangeShapes Go.WideShapes Go.ChangeAt Go.RowKit Go.Joins
set_option linter.unusedVariables false
set_option maxRecDepth 20000
set_option linter.unusedSimpArgs false

/-- What holds of the marks while they are taken away. -/
def DI (L : List (List Int)) (F : Nat → Nat → Bool) : Prop :=
  (∀ b d, b < 12 → d < 12 → ¬ Rc L (-1) 0 b → F b d = false) ∧ (∀ b d, Dom L b d → F b d = true) ∧ ∀ d, d < 12 → F 0 d = true → d = 0
/-- What is left of y's marks where b goes on to y. -/
def lft (F : Nat → Nat → Bool) (y b : Nat) : Nat → Bool := upd (fun d => F y d && F b d) y true
theorem lft_sub {L : List (List Int)} {F : Nat → Nat → Bool} (h : DI L F) {y b d : Nat} (hy : Rc L (-1) 0 y) (hl : lft F y b d = true) : F y d = true := by
  unfold lft at hl
  by_cases e : d = y
  · subst e; exact h.2.1 _ _ (Dom.self hy)
  · rw [upd_other _ _ _ e] at hl
    simp only [Bool.and_eq_true] at hl
    exact hl.1
theorem DI.next {L : List (List Int)} {F : Nat → Nat → Bool} (hg : GG L) (h : DI L F) {y b : Nat} (hb : Rc L (-1) 0 b) (he : Edge L b y) : DI L (updR F y (lft F y b)) := by
  have hy : Rc L (-1) 0 y := hb.step he (by omega)
  refine ⟨fun x d hx hd hn => ?_, fun x d hd => ?_, fun d hd h0 => ?_⟩
  · by_cases e : x = y
    · subst e; exact absurd hy hn
    · rw [updR_other _ _ _ e]; exact h.1 x d hx hd hn
  · by_cases e : x = y
    · subst e
      rw [updR_same]
      unfold lft
      by_cases e2 : d = x
      · subst e2; exact upd_same _ _ _
      · rw [upd_other _ _ _ e2]
        rcases Dom.back hb he hd with e3 | e3
        · exact absurd e3 e2
        · simp [h.2.1 _ _ hd, h.2.1 _ _ e3]
    · rw [updR_other _ _ _ e]; exact h.2.1 x d hd
  · by_cases e : 0 = y
    · subst e
      rw [updR_same] at h0
      exact h.2.2 d hd (lft_sub h hy h0)
    · rw [updR_other _ _ _ e] at h0; exact h.2.2 d hd h0
theorem DI.done {L : List (List Int)} {F : Nat → Nat → Bool} (hg : GG L) (h : DI L F) (hc : ∀ b y, Rc L (-1) 0 b → Edge L b y → sA (lft F y b) = sA (F y)) : dA F = dA (dm L) := by
  refine dA_congr (fun b d hb hd => ?_)
  rw [Bool.eq_iff_iff, dm_iff]
  constructor
  · intro hF
    by_cases hr : Rc L (-1) 0 b
    · have := dom_of_fixed (L := L) (f := fun b d => decide (d < 12) && F b d) (fun d hd => by
        simp only [Bool.and_eq_true, decide_eq_true_eq] at hd
        exact h.2.2 d hd.1 hd.2) (fun x y hx he d hd => by
        simp only [Bool.and_eq_true, decide_eq_true_eq] at hd ⊢
        have := sA_inj (hc x y hx he) d hd.1
        rw [hd.2] at this
        unfold lft at this
        by_cases e : d = y
        · exact .inl e
        · rw [upd_other _ _ _ e] at this
          simp only [Bool.and_eq_true] at this
          exact .inr ⟨hd.1, this.2⟩) hr (d := d) (by simp [hd, hF])
      exact this
    · rw [h.1 b d hb hd hr] at hF; cases hF
  · exact h.2.1 b d
theorem countP_lt {α : Type} {p q : α → Bool} : ∀ l : List α, (∀ i ∈ l, p i = true → q i = true) → (∃ i ∈ l, q i = true ∧ p i = false) → l.countP p < l.countP q
  | [], _, h => by obtain ⟨i, hi, -⟩ := h; simp at hi
  | x :: l, h1, h2 => by
    have hle : l.countP p ≤ l.countP q := List.countP_mono_left (fun i hi hp => h1 i (by simp [hi]) hp)
    rw [List.countP_cons, List.countP_cons]
    obtain ⟨i, hi, h3, h4⟩ := h2
    rcases List.mem_cons.1 hi with e | e
    · subst e; simp [h3, h4]; omega
    · have := countP_lt l (fun i hi hp => h1 i (by simp [hi]) hp) ⟨i, e, h3, h4⟩
      have hx := h1 x (by simp)
      cases hp : p x with
      | true => simp [hx hp]; omega
      | false => simp; omega
/-- How many marks there are. -/
def nT (F : Nat → Nat → Bool) : Nat := (List.range 144).countP (fun i => F (i / 12) (i % 12))
def isT : Value → Bool
  | .bool b => b
  | _ => false
def cntT (w : World) (b : Nat) : Nat :=
  match w.heap[b]? with
  | some (.cells cs _ _) => cs.toList.countP isT
  | _ => 0
theorem cntT_bx {w : World} {b : Nat} {F : Nat → Nat → Bool} {T : TypeId} (h : Bx w b (dA F) T) : cntT w b = nT F := by
  unfold cntT nT
  rw [show w.heap[b]? = some (.cells (dA F) T (0, 0)) from h]
  simp only [dA, List.countP_map]
  rfl
theorem nT_less {F : Nat → Nat → Bool} {y : Nat} {f : Nat → Bool} (hy : y < 12) (h1 : ∀ d, f d = true → F y d = true) (h2 : sA f ≠ sA (F y)) : nT (updR F y f) < nT F := by
  obtain ⟨d, hd, h3⟩ : ∃ d, d < 12 ∧ f d ≠ F y d := Classical.byContradiction (fun hn => h2 (sA_congr (fun i hi => Classical.byContradiction (fun hh => hn ⟨i, hi, hh⟩))))
  have h4 : F y d = true ∧ f d = false := by
    cases e : f d with
    | true => exact absurd (by rw [e, h1 d e]) h3
    | false =>
      rw [e] at h3
      cases e2 : F y d with
      | true => exact ⟨rfl, rfl⟩
      | false => exact absurd e2.symm h3
  refine countP_lt _ (fun i hi hp => ?_) ⟨y * 12 + d, List.mem_range.2 (by omega), ?_, ?_⟩
  · by_cases e : i / 12 = y
    · rw [e, updR_same] at hp; rw [e]; exact h1 _ hp
    · rw [updR_other _ _ _ e] at hp; exact hp
  · rw [show (y * 12 + d) / 12 = y by omega, show (y * 12 + d) % 12 = d by omega]; exact h4.1
  · rw [show (y * 12 + d) / 12 = y by omega, show (y * 12 + d) % 12 = d by omega, updR_same]; exact h4.2

set_option maxHeartbeats 8000000 in
theorem dominators_any (v : Value) (L : List (List Int)) (w : World) (h : GRow w v L) (hg : GG L) :
    Calls Try.prog 33 #[v] w fun e w' => e = .returned (.agg (dA (dm L))) ∧ Below w.heap.size w w' := by
  obtain ⟨ad, c, rfl, hR, hsm, hlc⟩ := h
  have hz := (zero_of_info dInfo).1
  obtain ⟨W1, hW1⟩ : ∃ W1, W1 = (w.alloc (.cells #[.slice ad L.length c] 28)).alloc (.cells (dA fun _ _ => false) 62) := ⟨_, rfl⟩
  have hB1 : Below w.heap.size w W1 := by rw [hW1]; exact ((Below.refl _ _).alloc (Nat.le_refl _) _).alloc (by simp) _
  have HX : Hid (Bx W1 w.heap.size #[.slice ad L.length c] 28) := hide (by rw [hW1]; exact (Bx.new w _ _).alloc _)
  have HX2 : Hid (Bx W1 (w.heap.size + 1) (dA fun _ _ => false) 62) := hide (by rw [hW1]; have := Bx.new (w.alloc (.cells #[.slice ad L.length c] 28)) (dA fun _ _ => false) 62; simpa using this)
  have HV : Hid (∀ w', Below w.heap.size w w' → GRow w' (.agg #[.slice ad L.length c]) L) := hide (fun w' hb => ⟨ad, c, rfl, hR.below hb, hsm, hlc⟩)
  have hR0 := hR
  have HG := hide hg
  have HW1 := hide hW1
  have hl12 := hg.2.1
  clear hR hsm hlc hg hW1
  go_enter Try.func33, Try.ntmps33
  go_wp2_with fail
  refine wp_scope_straight ?_
  go_upto_region 1 with fail
  rw [← HW1.out]
  have cx := HX.out.c
  have lx := HX.out.lt
  go_wp2_with fail
  refine Calls.mono (reached_any _ L _ (HV.out _ hB1) HG.out) ?_
  rintro e W2 ⟨rfl, hb⟩
  have hB2 := hB1.trans (hb.mono hB1.size)
  have HXb := hide (HX.out.below hb HX.out.lt)
  have HX2b := hide (HX2.out.below hb HX2.out.lt)
  have hl2 : w.heap.size + 1 < W2.heap.size := HX2b.out.lt
  clear hb cx lx HX HX2 HW1 hB1
  obtain ⟨r, hr⟩ : ∃ r, r = rc L (-1) 0 := ⟨_, rfl⟩
  rw [← hr]
  have Hr := hide hr
  clear hr
  have HX3 : Hid ((W2.alloc (.cells #[.bool false, .bool false, .bool false, .bool false, .bool false, .bool false, .bool false, .bool false, .bool false, .bool false, .bool false, .bool false] 60)).heap[W2.heap.size]? = some (.cells #[.bool false, .bool false, .bool false, .bool false, .bool false, .bool false, .bool false, .bool false, .bool false, .bool false, .bool false, .bool false] 60 (0, 0))) := hide (heap_alloc_new W2 _)
  go_upto_region 3 with (refine wpList_store_row rfl 60 _ _ rfl W2.heap.size _ rfl rfl 60 _ HX3.out bsInfo rfl (sA_one _) ?_)
  rw [World.setRow_alloc_new]
  clear HX3
  obtain ⟨W3, hW3⟩ : ∃ W3, W3 = (W2.alloc (.cells (sA r) 60)).alloc (.cells (dA fun _ _ => false) 62) := ⟨_, rfl⟩
  rw [← hW3]
  have hB3 : Below w.heap.size w W3 := by rw [hW3]; exact (hB2.alloc hB2.size _).alloc (by have := hB2.size; simp; omega) _
  have HX3 : Hid (Bx W3 W2.heap.size (sA r) 60) := hide (by rw [hW3]; exact (Bx.new W2 _ _).alloc _)
  have HX4 : Hid (Bx W3 (W2.heap.size + 1) (dA fun _ _ => false) 62) := hide (by rw [hW3]; have := Bx.new (W2.alloc (.cells (sA r) 60)) (dA fun _ _ => false) 62; simpa using this)
  have HX1 : Hid (Bx W3 w.heap.size #[.slice ad L.length c] 28) := hide (by rw [hW3]; exact (HXb.out.alloc _).alloc _)
  have HX2 : Hid (Bx W3 (w.heap.size + 1) (dA fun _ _ => false) 62) := hide (by rw [hW3]; exact (HX2b.out.alloc _).alloc _)
  obtain ⟨B4, hB4⟩ : ∃ B4, B4 = W2.heap.size + 1 := ⟨_, rfl⟩
  obtain ⟨B3, hB3'⟩ : ∃ B3, B3 = W2.heap.size := ⟨_, rfl⟩
  obtain ⟨B2, hB2'⟩ : ∃ B2, B2 = w.heap.size + 1 := ⟨_, rfl⟩
  rw [← hB4] at HX4 ⊢
  rw [← hB3'] at HX3 ⊢
  rw [← hB2'] at HX2 ⊢
  have h2 : w.heap.size < B2 := by omega
  have h3 : w.heap.size < B3 := by omega
  have h4 : w.heap.size < B4 := by omega
  have h23 : B2 ≠ B3 := by omega
  have h24 : B2 ≠ B4 := by omega
  have h34 : B3 ≠ B4 := by omega
  clear hW3 hB4 hB3' hB2' HXb HX2b hB2 hl2 hz
  go_wp2_with (refine wpList_load_row rfl 60 _ rfl B3 rfl 60 _ (0, 0) _ HX3.out Try.underlying60 rfl bsInfo ?_)
  go_loopw [15] (fun i w' => ∃ j : Nat, j ≤ 12 ∧ i = .int .i64 j ∧ Bx w' B4 (dA fun b d => decide (b < j) && r b && r d) 62 ∧ Bx w' B3 (sA r) 60 ∧ Bx w' B2 (dA fun _ _ => false) 62 ∧ Bx w' w.heap.size #[.slice ad L.length c] 28 ∧ Below w.heap.size w w') (fun i _ => 12 - (intOf i).toNat)
  case atStart => exact ⟨0, by omega, rfl, by rw [dA_congr (G := fun _ _ => false) (fun b d _ _ => by simp)]; exact HX4.out, HX3.out, HX2.out, HX1.out, hB3⟩
  case round =>
    clear HX1 HX2 HX3 HX4 hB3
    obtain ⟨j, hj, rfl, hX4, hX3, hX2, hX1, hB⟩ := hrel
    have HX4 := hide hX4
    have HX3 := hide hX3
    have HX2 := hide hX2
    have HX1 := hide hX1
    have HB := hide hB
    clear hX4 hX3 hX2 hX1 hB
    by_cases hlt : j < 12
    · have hlt' : (j : Int) < 12 := by omega
      have HI := hide (sIdx r wr j hlt)
      obtain ⟨b, hb⟩ : ∃ b, b = r j := ⟨_, rfl⟩
      rw [← hb] at HI
      have Hb := hide hb
      clear hb
      cases b with
      | false =>
        have HE : Hid (dA (fun b d => decide (b < j) && r b && r d) = dA (fun b d => decide (b < j + 1) && r b && r d)) := hide (dA_congr (fun b d _ _ => by
          by_cases e : b = j
          · subst e; rw [← Hb.out]; simp
          · rw [show decide (b < j) = decide (b < j + 1) from by rw [Bool.eq_iff_iff]; simp; omega]))
        rw [HE.out] at HX4
        go_wp2_with (refine wpList_indexA rfl 60 _ _ rfl _ _ _ rfl rfl HI.out ?_)
        exact ⟨⟨j + 1, by omega, by go_num, HX4.out, HX3.out, HX2.out, HX1.out, HB.out⟩, by simp [intOf]; omega⟩
      | true =>
        have HE : Hid (dA (updR (fun b d => decide (b < j) && r b && r d) j r) = dA (fun b d => decide (b < j + 1) && r b && r d)) := hide (dA_congr (fun b d _ _ => by
          by_cases e : b = j
          · subst e; rw [updR_same, ← Hb.out]; simp
          · rw [updR_other _ _ _ e, show decide (b < j) = decide (b < j + 1) from by rw [Bool.eq_iff_iff]; simp; omega]))
        go_upto_region 7 with (refine wpList_indexA rfl 60 _ _ rfl _ _ _ rfl rfl HI.out ?_)
        go_wp2_with (first | (refine wpList_load_row rfl 60 _ rfl B3 rfl 60 _ (0, 0) _ HX3.out Try.underlying60 rfl bsInfo ?_) | (refine wpList_store_set rfl _ _ rfl B4 j _ r _ HX4.out hlt rfl rfl ?_))
        intro w5 hX5 hO5
        rw [HE.out] at hX5
        have HX5 := hide hX5
        have HN3 := hide (HX3.out.oth hO5 h34)
        have HN2 := hide (HX2.out.oth hO5 h24)
        have HN1 := hide (HX1.out.oth hO5 (by omega))
        have HN := hide (HB.out.trans (hO5.below HB.out.size (by omega)))
        clear hX5 hO5 HX1 HX2 HX3 HX4 HB
        go_wp2_with fail
        exact ⟨⟨j + 1, by omega, by go_num, HX5.out, HN3.out, HN2.out, HN1.out, HN.out⟩, by simp [intOf]; omega⟩
    · obtain rfl : j = 12 := by omega
      have HDI0 : Hid (DI L (updR (fun b d => decide (b < 12) && r b && r d) 0 (fun i => decide (i = 0)))) := hide (by
        refine ⟨fun b d hb hd hn => ?_, fun b d hd => ?_, fun d hd h0 => ?_⟩
        · have hb0 : b ≠ 0 := fun e => hn (by subst e; exact .start (by omega))
          rw [updR_other _ _ _ hb0, show r b = false from by rw [Hr.out, Bool.eq_false_iff]; exact fun h => hn (rc_iff.1 h)]
          simp
        · by_cases e : b = 0
          · subst e
            rw [updR_same, Dom.zero.1 hd]; rfl
          · rw [updR_other _ _ _ e]
            have := (hd.lt HG.out).1
            rw [show r b = true from by rw [Hr.out]; exact rc_iff.2 hd.1, show r d = true from by rw [Hr.out]; exact rc_iff.2 hd.reached]
            simp; omega
        · rw [updR_same] at h0; simpa using h0)
      go_upto_region 9 with fail
      go_wp2_with (refine wpList_store_set rfl _ _ rfl B4 0 _ (fun i => decide (i = 0)) _ HX4.out (by omega) rfl rfl ?_)
      intro w5 hX5 hO5
      have HX5 := hide hX5
      have HN3 := hide (HX3.out.oth hO5 h34)
      have HN2 := hide (HX2.out.oth hO5 h24)
      have HN1 := hide (HX1.out.oth hO5 (by omega))
      have HN := hide (HB.out.trans (hO5.below HB.out.size (by omega)))
      clear hX5 hO5 HX1 HX2 HX3 HX4 HB
      go_upto_region 10 with (refine wp_label ?_)
      go_loopw [26] (fun _ w' => ∃ F : Nat → Nat → Bool, Bx w' B4 (dA F) 62 ∧ DI L F ∧ Bx w' B3 (sA r) 60 ∧ Bx w' B2 (dA fun _ _ => false) 62 ∧ Bx w' w.heap.size #[.slice ad L.length c] 28 ∧ Below w.heap.size w w') (fun _ w' => cntT w' B4)
      case atStart => exact ⟨_, HX5.out, HDI0.out, HN3.out, HN2.out, HN1.out, HN.out⟩
      case round =>
        clear HX5 HN3 HN2 HN1 HN HDI0
        obtain ⟨F, hX4, hDI, hX3, hX2, hX1, hB⟩ := hrel
        have HX4 := hide hX4
        have HDI := hide hDI
        have HX3 := hide hX3
        have HX2 := hide hX2
        have HX1 := hide hX1
        have HB := hide hB
        have HCt := hide (cntT_bx hX4)
        obtain ⟨CT, hCT⟩ : ∃ CT, CT = cntT wr B4 := ⟨_, rfl⟩
        have HCT := hide hCT
        have cx := hX1.c
        have hbs : w.heap.size < wr.heap.size := hX1.lt
        clear hX4 hDI hX3 hX2 hX1 hB hCT
        go_wp2_with fail
        clear cx hbs
        go_loopw [29] (fun i w' => ∃ j : Nat, j ≤ L.length ∧ i = .int .i64 j ∧ (∀ b y, b < j → Rc L (-1) 0 b → Edge L b y → sA (lft F y b) = sA (F y)) ∧ Bx w' B4 (dA F) 62 ∧ Bx w' B3 (sA r) 60 ∧ Bx w' B2 (dA fun _ _ => false) 62 ∧ Bx w' w.heap.size #[.slice ad L.length c] 28 ∧ Below w.heap.size w w') (fun i _ => L.length - (intOf i).toNat)
        case atStart => exact ⟨0, by omega, rfl, by intros; omega, HX4.out, HX3.out, HX2.out, HX1.out, HB.out⟩
        case round =>
          clear HX4 HX3 HX2 HX1 HB
          obtain ⟨j, hj, rfl, hcl, hX4, hX3, hX2, hX1, hB⟩ := hrel
          have HC := hide hcl
          have HX4 := hide hX4
          have HX3 := hide hX3
          have HX2 := hide hX2
          have HX1 := hide hX1
          have HB := hide hB
          clear hcl hX4 hX3 hX2 hX1 hB
          by_cases hlt : j < L.length
          · have hlt' : (j : Int) < (L.length : Int) := by omega
            obtain ⟨b, oo, v, rfl, hb, p0w, pv⟩ := QRow.at hR0 (Below.refl _ _) hlt
            have p0 := (HB.out.cell (p := ⟨b, oo + j, none⟩) hb).trans p0w
            obtain ⟨ad1, c1, rfl, pr, -⟩ := pv
            obtain ⟨l, hl1⟩ : ∃ l, l = L[j] := ⟨_, rfl⟩
            rw [← hl1] at p0 pr
            have HL := hide hl1
            have HP := hide pr
            have hll : l.length ≤ 12 := by
              have := (HG.out.2.2 j hlt).len
              rw [← hl1] at this
              omega
            clear hl1 pr p0w
            go_wp2_with fail
            clear p0
            go_loopw [36] (fun i w' => ∃ m : Nat, m ≤ l.length ∧ i = .int .i64 m ∧ (∀ q (hq : q < l.length), q < m → Rc L (-1) 0 j → sA (lft F l[q].toNat j) = sA (F l[q].toNat)) ∧ Bx w' B4 (dA F) 62 ∧ Bx w' B3 (sA r) 60 ∧ Bx w' B2 (dA fun _ _ => false) 62 ∧ Bx w' w.heap.size #[.slice (some ⟨b, oo, none⟩) L.length c] 28 ∧ Below w.heap.size w w') (fun i _ => l.length - (intOf i).toNat)
            case atStart => exact ⟨0, by omega, rfl, by intros; omega, HX4.out, HX3.out, HX2.out, HX1.out, HB.out⟩
            case round =>
              clear HX4 HX3 HX2 HX1 HB
              obtain ⟨m, hm, rfl, hcl, hX4, hX3, hX2, hX1, hB⟩ := hrel
              have HC2 := hide hcl
              have HX4 := hide hX4
              have HX3 := hide hX3
              have HX2 := hide hX2
              have HX1 := hide hX1
              have HB := hide hB
              clear hcl hX4 hX3 hX2 hX1 hB
              by_cases hlm : m < l.length
              · have hlm' : (m : Int) < (l.length : Int) := by omega
                obtain ⟨b1, o1, rfl, hb1, p0⟩ := IRow.iat HP.out HB.out hlm
                have hmem : l[m] ∈ L[j] := by rw [← HL.out]; exact List.getElem_mem hlm
                have hbd := (HG.out.2.2 j hlt).mem hmem
                obtain ⟨X, hX⟩ : ∃ X : Nat, l[m] = (X : Int) := ⟨l[m].toNat, by omega⟩
                rw [hX] at p0 hbd
                have HXx := hide hX
                have HE : Hid (Edge L j X) := hide ⟨hlt, by rw [← hX]; exact hmem⟩
                clear hX hmem
                have hX12 : X < 12 := by omega
                have hX12' : (X : Int) < 12 := by omega
                have hj12 : (j : Int) < 12 := by omega
                have hj12n : j < 12 := by omega
                have c3 : wr.cell? ⟨B3, j, none⟩ = some (.bool (r j)) := by rw [HX3.out.c]; exact sA_at _ (by omega)
                obtain ⟨rj, hrj⟩ : ∃ rj, rj = r j := ⟨_, rfl⟩
                rw [← hrj] at c3
                have HRj := hide hrj
                clear hrj hbd
                have HNx : Hid ((Rc L (-1) 0 j → sA (lft F X j) = sA (F X)) → ∀ q (hq : q < l.length), q < m + 1 → Rc L (-1) 0 j → sA (lft F l[q].toNat j) = sA (F l[q].toNat)) := hide (fun hh q hq hqm hr => by
                  by_cases e : q = m
                  · subst e
                    rw [HXx.out, show ((X : Int)).toNat = X by omega]
                    exact hh hr
                  · exact HC2.out q hq (by omega) hr)
                cases rj with
                | false =>
                  have HN2 := hide (HNx.out (fun hr => by
                    have := rc_iff.2 hr
                    rw [← Hr.out, ← HRj.out] at this
                    cases this))
                  go_wp2_with fail
                  exact ⟨⟨m + 1, by omega, by go_num, HN2.out, HX4.out, HX3.out, HX2.out, HX1.out, HB.out⟩, by simp [intOf]; omega⟩
                | true =>
                  have HRc : Hid (Rc L (-1) 0 j) := hide (rc_iff.1 (by rw [← Hr.out, ← HRj.out]))
                  go_upto_region 17 with fail
                  clear c3 p0
                  have HSh := hide (fun w' => shared_any (F X) (F j) w')
                  have HWd : Hid (Below wr.heap.size wr wr.drew) := hide (belowDrew8 (Below.refl _ _))
                  go_cut [11] from 44 to 50 (fun v wx => ∃ B : Nat, v = .pointer (some ⟨B, 0, none⟩) ∧ wr.heap.size ≤ B ∧ Bx wx B (sA fun i => F X i && F j i) 60 ∧ Below wr.heap.size wr wx)
                  case first =>
                    have l4 := HX4.out.lt
                    refine wp_region_noPanic ?_
                    refine wp_region_held_drew (S := fun w' => Bx w' B4 (dA F) 62) (by kernel_rfl) HX4.out (fun hHeld => ?_)
                    refine wpAnyH_take (i := 0) (oi := _) (v := ?_) rfl (by kernel_rfl) (by kernel_rfl) (by kernel_rfl) (fun _ _ _ h => h) (Or.inl ⟨by rfl, ?_⟩) (by assumption) ?_
                    rotate_left 1
                    · (intro w hSw; clear hSw; (first | (go_simp; done) | (go_simp; with_reducible rfl)))
                    try simp only [Act.put, List.getElem_toArray, List.getElem_cons_zero, List.getElem_cons_succ, List.setIfInBounds_toArray, List.set_cons_zero, List.set_cons_succ]
                    refine wpAnyH_take (i := 1) (oi := _) (v := ?_) rfl (by kernel_rfl) (by kernel_rfl) (by kernel_rfl) (fun _ _ _ h => h) (Or.inl ⟨by rfl, ?_⟩) (by assumption) ?_
                    rotate_left 1
                    · (intro w hSw; clear hSw; (first | (go_simp; done) | (go_simp; with_reducible rfl)))
                    try simp only [Act.put, List.getElem_toArray, List.getElem_cons_zero, List.getElem_cons_succ, List.setIfInBounds_toArray, List.set_cons_zero, List.set_cons_succ]
                    refine wpAnyH_take (i := 2) (oi := _) (v := .agg (sA (F X))) rfl (by kernel_rfl) (by kernel_rfl) (by kernel_rfl) (fun _ _ _ h => h) (yieldsIf_load_mid (by rfl) 60 _ rfl B4 (X * 12) rfl (sL (F X)) _ (fun w h => dA_rng h hX12) Try.underlying60 rfl (bsInfo' _)) (by assumption) ?_
                    try simp only [Act.put, List.getElem_toArray, List.getElem_cons_zero, List.getElem_cons_succ, List.setIfInBounds_toArray, List.set_cons_zero, List.set_cons_succ]
                    refine wpAnyH_take (i := 3) (oi := _) (v := ?_) rfl (by kernel_rfl) (by kernel_rfl) (by kernel_rfl) (fun _ _ _ h => h) (Or.inl ⟨by rfl, ?_⟩) (by assumption) ?_
                    rotate_left 1
                    · (intro w hSw; clear hSw; (first | (go_simp; done) | (go_simp; with_reducible rfl)))
                    try simp only [Act.put, List.getElem_toArray, List.getElem_cons_zero, List.getElem_cons_succ, List.setIfInBounds_toArray, List.set_cons_zero, List.set_cons_succ]
                    refine wpAnyH_take (i := 4) (oi := _) (v := ?_) rfl (by kernel_rfl) (by kernel_rfl) (by kernel_rfl) (fun _ _ _ h => h) (Or.inl ⟨by rfl, ?_⟩) (by assumption) ?_
                    rotate_left 1
                    · (intro w hSw; clear hSw; (first | (go_simp; done) | (go_simp; with_reducible rfl)))
                    try simp only [Act.put, List.getElem_toArray, List.getElem_cons_zero, List.getElem_cons_succ, List.setIfInBounds_toArray, List.set_cons_zero, List.set_cons_succ]
                    refine wpAnyH_take (i := 5) (oi := _) (v := .agg (sA (F j))) rfl (by kernel_rfl) (by kernel_rfl) (by kernel_rfl) (fun _ _ _ h => h) (yieldsIf_load_mid (by rfl) 60 _ rfl B4 (j * 12) rfl (sL (F j)) _ (fun w h => dA_rng h hj12n) Try.underlying60 rfl (bsInfo' _)) (by assumption) ?_
                    try simp only [Act.put, List.getElem_toArray, List.getElem_cons_zero, List.getElem_cons_succ, List.setIfInBounds_toArray, List.set_cons_zero, List.set_cons_succ]
                    refine wpAnyH_ready (rs := [6, 7]) (by kernel_rfl) (by simp) ?_
                    refine AllReadyH.cons (o := _) rfl (fun K hK => ?_) (AllReadyH.cons (o := _) rfl (fun K hK => ?_) AllReadyH.nil)
                    · go_simp
                      (with_reducible refine Calls.mono (HSh.out _) ?_)
                      rintro e w6 ⟨rfl, hb6⟩
                      have e6 : Bx w6 B4 (dA F) 62 := Bx.below (w := wr.drew) HX4.out hb6 l4
                      have HB6 : Hid (Below wr.heap.size wr w6) := hide (HWd.out.trans hb6)
                      have l6 : wr.heap.size ≤ w6.heap.size := HB6.out.size
                      clear hb6
                      (try go_wp2_with fail)
                      refine hK.out _ _ e6 (fun hHeld => ?_)
                      clear hK K
                      try simp only [Act.put, List.getElem_toArray, List.getElem_cons_zero, List.getElem_cons_succ, List.setIfInBounds_toArray, List.set_cons_zero, List.set_cons_succ]
                      refine wpAnyH_ready (rs := [7]) (by kernel_rfl) (by simp) ?_
                      refine AllReadyH.cons (o := _) rfl (fun K hK => ?_) AllReadyH.nil
                      go_simp
                      refine hK.out _ _ (e6.alloc _) (fun hHeld => ?_)
                      clear hK K
                      try simp only [Act.put, List.getElem_toArray, List.getElem_cons_zero, List.getElem_cons_succ, List.setIfInBounds_toArray, List.set_cons_zero, List.set_cons_succ]
                      refine wpAnyH_ready (rs := [8]) (by kernel_rfl) (by simp) ?_
                      refine AllReadyH.cons (o := _) rfl (fun K hK => ?_) AllReadyH.nil
                      refine wp_store_row 60 _ _ rfl w6.heap.size _ rfl rfl 60 _ (heap_alloc_new w6 _) bsInfo rfl (sA_one _) ?_
                      rw [World.setRow_alloc_new]
                      refine hK.out _ _ (e6.alloc _) (fun hHeld => ?_)
                      clear hK K hHeld
                      try simp only [Act.put, List.getElem_toArray, List.getElem_cons_zero, List.getElem_cons_succ, List.setIfInBounds_toArray, List.set_cons_zero, List.set_cons_succ]
                      refine wpAnyH_done (by kernel_rfl) ?_ _
                      refine NoPanic.normal ?_
                      go_wp2_with fail
                      go_meet
                      exact ⟨w6.heap.size, rfl, l6, Bx.new _ _ _, HB6.out.alloc l6 _⟩
                    · go_simp
                      have e7 : Bx (wr.alloc (.cells #[.bool false, .bool false, .bool false, .bool false, .bool false, .bool false, .bool false, .bool false, .bool false, .bool false, .bool false, .bool false] 60)) B4 (dA F) 62 := HX4.out.alloc _
                      have x7 : Bx (wr.alloc (.cells #[.bool false, .bool false, .bool false, .bool false, .bool false, .bool false, .bool false, .bool false, .bool false, .bool false, .bool false, .bool false] 60)) wr.heap.size #[.bool false, .bool false, .bool false, .bool false, .bool false, .bool false, .bool false, .bool false, .bool false, .bool false, .bool false, .bool false] 60 := Bx.new _ _ _
                      refine hK.out _ _ e7 (fun hHeld => ?_)
                      clear hK K
                      try simp only [Act.put, List.getElem_toArray, List.getElem_cons_zero, List.getElem_cons_succ, List.setIfInBounds_toArray, List.set_cons_zero, List.set_cons_succ]
                      refine wpAnyH_ready (rs := [6]) (by kernel_rfl) (by simp) ?_
                      refine AllReadyH.cons (o := _) rfl (fun K hK => ?_) AllReadyH.nil
                      go_simp
                      (with_reducible refine Calls.mono (HSh.out _) ?_)
                      rintro e w6 ⟨rfl, hb6⟩
                      have hb7 : Below (wr.alloc (.cells #[.bool false, .bool false, .bool false, .bool false, .bool false, .bool false, .bool false, .bool false, .bool false, .bool false, .bool false, .bool false] 60)).heap.size (wr.alloc (.cells #[.bool false, .bool false, .bool false, .bool false, .bool false, .bool false, .bool false, .bool false, .bool false, .bool false, .bool false, .bool false] 60)) w6 := ⟨hb6.os, hb6.tape, hb6.output, hb6.size, hb6.block⟩
                      have e6 := e7.below hb7 e7.lt
                      have x6 := x7.below hb7 x7.lt
                      have HB6 : Hid (Below wr.heap.size wr w6) := hide (((Below.refl _ _).alloc (Nat.le_refl _) _).trans (hb7.mono (by simp)))
                      have hne : B4 ≠ wr.heap.size := by omega
                      clear hb6 hb7
                      (try go_wp2_with fail)
                      refine hK.out _ _ e6 (fun hHeld => ?_)
                      clear hK K
                      try simp only [Act.put, List.getElem_toArray, List.getElem_cons_zero, List.getElem_cons_succ, List.setIfInBounds_toArray, List.set_cons_zero, List.set_cons_succ]
                      refine wpAnyH_ready (rs := [8]) (by kernel_rfl) (by simp) ?_
                      refine AllReadyH.cons (o := _) rfl (fun K hK => ?_) AllReadyH.nil
                      refine wp_store_row 60 _ _ rfl wr.heap.size _ rfl rfl 60 _ x6 bsInfo rfl (sA_one _) ?_
                      refine hK.out _ _ ((setRow_ne _ hne).trans e6) (fun hHeld => ?_)
                      clear hK K hHeld
                      try simp only [Act.put, List.getElem_toArray, List.getElem_cons_zero, List.getElem_cons_succ, List.setIfInBounds_toArray, List.set_cons_zero, List.set_cons_succ]
                      refine wpAnyH_done (by kernel_rfl) ?_ _
                      refine NoPanic.normal ?_
                      go_wp2_with fail
                      go_meet
                      exact ⟨wr.heap.size, rfl, Nat.le_refl _, setRow_same x6 _, setRow_below _ HB6.out (Nat.le_refl _)⟩
                  case rest =>
                    obtain ⟨B, rfl, hB11, hX11, hBc⟩ := hcut
                    have HX4c := hide (HX4.out.below hBc HX4.out.lt)
                    have HX3c := hide (HX3.out.below hBc HX3.out.lt)
                    have HX2c := hide (HX2.out.below hBc HX2.out.lt)
                    have HX1c := hide (HX1.out.below hBc HX1.out.lt)
                    have n4 : B4 ≠ B := by have := HX4.out.lt; omega
                    have n3 : B3 ≠ B := by have := HX3.out.lt; omega
                    have n2 : B2 ≠ B := by have := HX2.out.lt; omega
                    have n1 : w.heap.size ≠ B := by have := HX1.out.lt; omega
                    have hwB : w.heap.size ≤ B := by have := HB.out.size; omega
                    have HBc := hide (HB.out.trans (hBc.mono HB.out.size))
                    have cB : wc.cell? ⟨B, X, none⟩ = some (.bool (F X X && F j X)) := by rw [hX11.c]; exact sA_at _ hX12
                    have fB := hX11.f
                    have HXn := hide (hX11.set X (.bool true))
                    rw [sA_set] at HXn
                    replace HXn : Hid (Bx _ B (sA (lft F X j)) _) := HXn
                    have HX4n := hide (HX4c.out.setne B X (.bool true) n4)
                    have HX3n := hide (HX3c.out.setne B X (.bool true) n3)
                    have HX2n := hide (HX2c.out.setne B X (.bool true) n2)
                    have HX1n := hide (HX1c.out.setne B X (.bool true) n1)
                    have HBn := hide (HBc.out.setCell (p := ⟨B, X, none⟩) hwB (.bool true))
                    clear hX11 hBc HX4c HX3c HX2c HX1c HBc HX4 HX3 HX2 HX1 HB HSh HWd
                    go_upto_region 19 with fail
                    clear cB fB
                    obtain ⟨W6, hW6⟩ : ∃ W6, W6 = wc.setCell ⟨B, X, none⟩ (.bool true) := ⟨_, rfl⟩
                    rw [← hW6] at HXn HX4n HX3n HX2n HX1n HBn ⊢
                    clear hW6
                    obtain ⟨lf, hlf⟩ : ∃ lf, lf = lft F X j := ⟨_, rfl⟩
                    rw [← hlf] at HXn
                    have HLf := hide hlf
                    clear hlf
                    have hneq := run_neq_s lf (F X)
                    obtain ⟨q, hq⟩ : ∃ q, q = sEq lf (F X) := ⟨_, rfl⟩
                    rw [← hq] at hneq
                    have HQ := hide hq
                    clear hq
                    have hgu := fun w => run_eqGuard_agg (P := Try.prog) w .neq 60 (.tmp 53) (.tmp 56) (sA lf) (sA (F X)) sGuard
                    refine wp_region_noPanic ?_
                    refine wp_region_held_drew (S := fun w' => Bx w' B (sA lf) 60 ∧ Bx w' B4 (dA F) 62) (by kernel_rfl) ⟨HXn.out, HX4n.out⟩ (fun hHeld => ?_)
                    refine wpAnyH_take (i := 0) (oi := _) (v := .agg (sA lf)) rfl (by kernel_rfl) (by kernel_rfl) (by kernel_rfl) (fun _ _ _ h => h) (yieldsIf_load_mid (by rfl) 60 _ rfl B 0 rfl (sL lf) _ (fun w h => sA_rng h.1) Try.underlying60 rfl (bsInfo' _)) (by assumption) ?_
                    try simp only [Act.put, List.getElem_toArray, List.getElem_cons_zero, List.getElem_cons_succ, List.setIfInBounds_toArray, List.set_cons_zero, List.set_cons_succ]
                    refine wpAnyH_take (i := 1) (oi := _) (v := ?_) rfl (by kernel_rfl) (by kernel_rfl) (by kernel_rfl) (fun _ _ _ h => h) (Or.inl ⟨by rfl, ?_⟩) (by assumption) ?_
                    rotate_left 1
                    · (intro w hSw; clear hSw; (first | (go_simp; done) | (go_simp; with_reducible rfl)))
                    try simp only [Act.put, List.getElem_toArray, List.getElem_cons_zero, List.getElem_cons_succ, List.setIfInBounds_toArray, List.set_cons_zero, List.set_cons_succ]
                    refine wpAnyH_take (i := 2) (oi := _) (v := ?_) rfl (by kernel_rfl) (by kernel_rfl) (by kernel_rfl) (fun _ _ _ h => h) (Or.inl ⟨by rfl, ?_⟩) (by assumption) ?_
                    rotate_left 1
                    · (intro w hSw; clear hSw; (first | (go_simp; done) | (go_simp; with_reducible rfl)))
                    try simp only [Act.put, List.getElem_toArray, List.getElem_cons_zero, List.getElem_cons_succ, List.setIfInBounds_toArray, List.set_cons_zero, List.set_cons_succ]
                    refine wpAnyH_take (i := 3) (oi := _) (v := .agg (sA (F X))) rfl (by kernel_rfl) (by kernel_rfl) (by kernel_rfl) (fun _ _ _ h => h) (yieldsIf_load_mid (by rfl) 60 _ rfl B4 (X * 12) rfl (sL (F X)) _ (fun w h => dA_rng h.2 hX12) Try.underlying60 rfl (bsInfo' _)) (by assumption) ?_
                    try simp only [Act.put, List.getElem_toArray, List.getElem_cons_zero, List.getElem_cons_succ, List.setIfInBounds_toArray, List.set_cons_zero, List.set_cons_succ]
                    refine wpAnyH_take (i := 4) (oi := _) (v := .bool (!q)) rfl (by kernel_rfl) (by kernel_rfl) (by kernel_rfl) (fun _ _ _ h => h) (Or.inl ⟨by rfl, ?_⟩) (by assumption) ?_
                    · (intro w hSw; clear hSw; go_simp)
                    try simp only [Act.put, List.getElem_toArray, List.getElem_cons_zero, List.getElem_cons_succ, List.setIfInBounds_toArray, List.set_cons_zero, List.set_cons_succ]
                    refine wpAnyH_done (by kernel_rfl) ?_ _
                    refine NoPanic.normal ?_
                    clear hneq hgu hHeld
                    have HBd : Hid (Below w.heap.size w W6.drew) := hide (belowDrew8 HBn.out)
                    have Y4 : Hid (Bx W6.drew B4 (dA F) 62) := hide HX4n.out.drew
                    have Y3 : Hid (Bx W6.drew B3 (sA r) 60) := hide HX3n.out.drew
                    have Y2 : Hid (Bx W6.drew B2 (dA fun _ _ => false) 62) := hide HX2n.out.drew
                    have Y1 := hide HX1n.out.drew
                    have YB : Hid (Bx W6.drew B (sA lf) 60) := hide HXn.out.drew
                    clear HX4n HX3n HX2n HX1n HXn HBn
                    obtain ⟨W7, hW7⟩ : ∃ W7, W7 = W6.drew := ⟨_, rfl⟩
                    rw [← hW7] at HBd Y4 Y3 Y2 Y1 YB
                    first | rw [← hW7] | (change Exit.then _ _ _ _ W6.drew; rw [← hW7]) | skip
                    clear hW7
                    cases q with
                    | true =>
                      have HN2 := hide (HNx.out (fun _ => by rw [← HLf.out]; exact sEq_iff.1 HQ.out.symm))
                      go_wp2_with fail
                      exact ⟨⟨m + 1, by omega, by go_num, HN2.out, Y4.out, Y3.out, Y2.out, Y1.out, HBd.out⟩, by simp [intOf]; omega⟩
                    | false =>
                      have HDn := hide (HDI.out.next HG.out HRc.out HE.out)
                      have HLs : Hid (nT (updR F X lf) < nT F) := hide (nT_less hX12 (fun d hd => lft_sub HDI.out (HRc.out.step HE.out (by omega)) (by rw [← HLf.out]; exact hd)) (fun e => by have := sEq_iff.2 e; rw [← HQ.out] at this; cases this))
                      rw [← HLf.out] at HDn
                      go_wp2_with (first | (refine wpList_load_row rfl 60 _ rfl B rfl 60 _ (0, 0) _ YB.out Try.underlying60 rfl bsInfo ?_) | (refine wpList_store_set rfl _ _ rfl B4 X _ lf _ Y4.out hX12 rfl rfl ?_))
                      intro w8 hX8 hO8
                      have HX8 := hide hX8
                      have HM : Hid (cntT w8 B4 < CT) := hide (by rw [cntT_bx hX8, HCT.out, HCt.out]; exact HLs.out)
                      have Z3 := hide (Y3.out.oth hO8 h34)
                      have Z2 := hide (Y2.out.oth hO8 h24)
                      have Z1 := hide (Y1.out.oth hO8 (by omega))
                      have ZB := hide (HBd.out.trans (hO8.below HBd.out.size (by omega)))
                      clear hX8 hO8 Y4 Y3 Y2 Y1 YB HBd
                      go_wp2_with fail
                      exact ⟨⟨_, HX8.out, HDn.out, Z3.out, Z2.out, Z1.out, ZB.out⟩, by have := HM.out; rw [HCT.out] at this; exact this⟩
              · have HN : Hid (∀ b' y, b' < j + 1 → Rc L (-1) 0 b' → Edge L b' y → sA (lft F y b') = sA (F y)) := hide (fun b' y hb' hr he => by
                  by_cases e : b' = j
                  · subst e
                    have hy := he.2
                    rw [← HL.out] at hy
                    obtain ⟨q, hq, e⟩ := List.getElem_of_mem hy
                    have := HC2.out q hq (by omega) hr
                    rw [e] at this
                    simpa using this
                  · exact HC.out b' y (by omega) hr he)
                go_wp2_with fail
                exact ⟨⟨j + 1, by omega, by go_num, HN.out, HX4.out, HX3.out, HX2.out, HX1.out, HB.out⟩, by simp [intOf]; omega⟩
          · have HE : Hid (dA F = dA (dm L)) := hide (HDI.out.done HG.out (fun b y hb he => HC.out b y (by have := he.1; omega) hb he))
            rw [HE.out] at HX4
            go_wp2_with (first | (refine wpList_load_row rfl 62 _ rfl B4 rfl 62 _ (0, 0) _ HX4.out Try.underlying62 rfl (by rw [dA_size]; exact dSize) ?_) | (refine wpList_store_row rfl 62 _ _ rfl B2 _ rfl rfl 62 _ HX2.out (by rw [dA_size]; exact dSize) (by rw [dA_size, dA_size]) (dA_one _) ?_))
            rw [Exit.noGoto_ret]
            refine bodyPost_ret (v := .agg (dA (dm L))) (results_cell_row (p := 2) rfl _ _ B2 62 _ (0, 0) _ rfl (setRow_same HX2.out _) Try.underlying62 rfl (by rw [dA_size]; exact dSize)) rfl ⟨rfl, setRow_below _ HB.out (by omega)⟩
end Go.Proofs.Ytgmablmkjngkkaa.W

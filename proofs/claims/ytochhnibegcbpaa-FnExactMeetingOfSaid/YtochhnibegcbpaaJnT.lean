/-
  Both MeetingOf. Conditions: none but those that each theorem states. Written by wip/build/mk_jnt.py.
-/
import Derived.Test.YtochhnibegcbpaaJnK
namespace Go.Proofs.Ytochhnibegcbpaa.W
open Go.ChangeShapes Go.WideShapes Go.ChangeAt Go.RowKit Go.Joins
set_option linter.unusedVariables false
set_option linter.unusedSimpArgs false

theorem Bx.nv1 {w : World} {B : Nat} {n : Int} (h : Bx w B #[.int .i64 n] 3) : NV w (.slice (some ⟨B, 0, none⟩) 1 1) [n] := by
  refine .inr ⟨B, 0, 1, rfl, Nat.le_refl _, h.lt, fun i hi => ?_⟩
  obtain rfl : i = 0 := by simpa using hi
  rw [h.c]
  rfl
theorem NV.one (w : World) (n : Int) : NV (w.alloc (.cells #[.int .i64 n] 3)) (.slice (some ⟨w.heap.size, 0, none⟩) 1 1) [n] := (Bx.new w #[.int .i64 n] 3).nv1
noncomputable def meB (L : List (List Int)) (a b : Int) : Bool := goodG L && (!(a == b) && (bG L [a] && bG L [b]))
/-- A block where what goes on from a and from b meets. -/
def MeP (L : List (List Int)) (a b : Int) : Prop := ∃ y : Nat, (JP (fr L) [a] y ∨ (y : Int) = a) ∧ (JP (fr L) [b] y ∨ (y : Int) = b)
open Classical in
noncomputable def meD (L : List (List Int)) (a b : Int) : Bool := decide (MeP L a b)
theorem meD_iff {L : List (List Int)} {a b : Int} : meD L a b = true ↔ MeP L a b := by simp [meD]
/-- What MeetingOf tells. -/
noncomputable def meR (L : List (List Int)) (a b : Int) : Bool := meB L a b && meD L a b
theorem meR_no {L : List (List Int)} {a b : Int} (h : meB L a b = false) : meR L a b = false := by rw [meR, h]; rfl
theorem meR_yes {L : List (List Int)} {a b : Int} (h : meB L a b = true) : meR L a b = meD L a b := by rw [meR, h]; rfl
theorem bG_one {L : List (List Int)} {a : Int} (h : BG L [a]) : 0 ≤ a ∧ a < (L.length : Int) := h.1.mem (by simp)
theorem meet_iff {L : List (List Int)} (hg : GG L) {a b : Int} (ha : BG L [a]) : sEq (fun i => (js (fr L) [a] i || inS [a] i) && (js (fr L) [b] i || inS [b] i)) (fun _ => false) = false ↔ MeP L a b := by
  rw [Bool.eq_false_iff, ne_eq, sEq_iff]
  constructor
  · intro h
    refine Classical.byContradiction (fun hn => h (sA_congr (fun i hi => ?_)))
    rw [Bool.eq_false_iff]
    intro hc
    rw [Bool.and_eq_true, Bool.or_eq_true, Bool.or_eq_true, js_iff, js_iff, inS_iff, inS_iff, List.mem_singleton, List.mem_singleton] at hc
    exact hn ⟨i, hc.1, hc.2⟩
  · rintro ⟨y, h1, h2⟩ h
    have hy : y < L.length := by
      rcases h1 with h1 | h1
      · exact h1.lt hg
      · have := bG_one ha; omega
    have := sA_inj h y (by have := hg.2.1; omega)
    rw [Bool.eq_false_iff] at this
    exact this (by rw [Bool.and_eq_true, Bool.or_eq_true, Bool.or_eq_true, js_iff, js_iff, inS_iff, inS_iff, List.mem_singleton, List.mem_singleton]; exact ⟨h1, h2⟩)

set_option maxHeartbeats 8000000 in
theorem implMeet_any (v : Value) (L : List (List Int)) (a b : Int) (w : World) (h : GRow w v L) :
    Calls Try.prog 25 #[v, .int .i64 a, .int .i64 b] w fun e w' => e = .returned (.tuple #[.bool (meR L a b), .bool (meB L a b)]) ∧ Below w.heap.size w w' := by
  obtain ⟨ad, c, rfl, hR, hsm, hlc⟩ := h
  have hB0 : Below w.heap.size w (w.alloc (.cells #[.slice ad L.length c] 28)) := (Below.refl _ _).alloc (Nat.le_refl _) _
  have HX := hide (Bx.new w #[.slice ad L.length c] 28)
  have HV : Hid (∀ w', Below w.heap.size w w' → GRow w' (.agg #[.slice ad L.length c]) L) := hide (fun w' hb => ⟨ad, c, rfl, hR.below hb, hsm, hlc⟩)
  clear hR hsm hlc
  go_enter Try.func25, Try.ntmps25
  go_wp2_with fail
  refine Calls.mono (implGoodG_any _ L _ (HV.out _ hB0)) ?_
  rintro e w1 ⟨rfl, hb⟩
  have hB1 := hB0.trans (hb.mono hB0.size)
  have HX1 := hide (HX.out.below hb HX.out.lt)
  clear hb hB0 HX
  have cx := HX1.out.c
  have lx := HX1.out.lt
  have HNo : Hid (meB L a b = false → ∀ w', Below w.heap.size w w' → Ending.returned (.tuple #[.bool false, .bool false]) = .returned (.tuple #[.bool (meR L a b), .bool (meB L a b)]) ∧ Below w.heap.size w w') := hide (fun he w' hb => ⟨by rw [meR_no he, he], hb⟩)
  by_cases hg : goodG L = true
  · have HGG := hide (goodG_iff.1 hg)
    have Hg := hide hg
    rw [hg]
    clear hg
    by_cases hab : (a == b) = true
    · have HRe : Hid (meB L a b = false) := hide (by rw [meB, Hg.out, hab]; rfl)
      go_wp2_with fail
      exact bodyPost_ret (v := .tuple #[.bool false, .bool false]) (by simp [results, Try.results25, go_sem]) rfl (HNo.out HRe.out _ hB1)
    · rw [Bool.not_eq_true] at hab
      have Hab := hide hab
      have hB1a : Below w.heap.size w (w1.alloc (.cells #[.int .i64 a] 3)) := hB1.alloc hB1.size _
      have HX1a := hide (HX1.out.alloc (.cells #[.int .i64 a] 3))
      go_wp2_with fail
      refine Calls.mono (areReached_any _ _ L [a] _ (HV.out _ hB1a) HGG.out (NV.one w1 a) (by simp)) ?_
      rintro e w2 ⟨rfl, hb⟩
      have hB2 := hB1a.trans (hb.mono hB1a.size)
      have HX2 := hide (HX1a.out.below hb HX1a.out.lt)
      clear hb cx lx HX1 hB1 hB1a HX1a
      by_cases hba : bG L [a] = true
      · have HBA := hide (bG_iff.1 hba)
        have Hba := hide hba
        rw [hba]
        clear hba
        have cx := HX2.out.c
        have lx := HX2.out.lt
        have hB2a : Below w.heap.size w (w2.alloc (.cells #[.int .i64 b] 3)) := hB2.alloc hB2.size _
        have HX2a := hide (HX2.out.alloc (.cells #[.int .i64 b] 3))
        go_wp2_with fail
        refine Calls.mono (areReached_any _ _ L [b] _ (HV.out _ hB2a) HGG.out (NV.one w2 b) (by simp)) ?_
        rintro e w3 ⟨rfl, hb⟩
        have hB3 := hB2a.trans (hb.mono hB2a.size)
        have HX3 := hide (HX2a.out.below hb HX2a.out.lt)
        clear hb cx lx HX2 hB2 hB2a HX2a
        by_cases hbb : bG L [b] = true
        · have HBB := hide (bG_iff.1 hbb)
          have HRe : Hid (meB L a b = true) := hide (by rw [meB, Hg.out, Hab.out, Hba.out, hbb]; rfl)
          have HMe : Hid (meR L a b = meD L a b) := hide (meR_yes HRe.out)
          rw [hbb]
          clear hbb hab
          have cx := HX3.out.c
          have lx := HX3.out.lt
          have hz := (zero_of_info fInfo).1
          go_wp2_with fail
          refine Calls.mono (frontiers_any _ L _ (HV.out _ hB3) HGG.out) ?_
          rintro e w4 ⟨rfl, hb⟩
          have hB4 := hB3.trans (hb.mono hB3.size)
          clear hb cx lx HX3 hB3 HV
          have HWa := hide (fun v W h => withJoins_any (fr L) (fr_lt HGG.out) v [a] W h (by simp) (HBA.out.blk HGG.out))
          have HWb := hide (fun v W h => withJoins_any (fr L) (fr_lt HGG.out) v [b] W h (by simp) (HBB.out.blk HGG.out))
          have HMi := hide (meet_iff (b := b) HGG.out HBA.out)
          obtain ⟨ga, hga⟩ : ∃ ga, ga = fun y => js (fr L) [a] y || inS [a] y := ⟨_, rfl⟩
          obtain ⟨gb, hgb⟩ : ∃ gb, gb = fun y => js (fr L) [b] y || inS [b] y := ⟨_, rfl⟩
          rw [← hga] at HWa
          rw [← hgb] at HWb
          have HMq : Hid (meD L a b = !sEq (fun i => ga i && gb i) (fun _ => false)) := hide (by
            rw [hga, hgb]
            have h1 := HMi.out
            rw [Bool.eq_iff_iff, meD_iff, ← h1, Bool.not_eq_true', Bool.eq_false_iff])
          obtain ⟨F, hF⟩ : ∃ F, F = fr L := ⟨_, rfl⟩
          rw [← hF] at HWa HWb ⊢
          clear hF hga hgb HMi
          have hne := run_neq_s (fun i => ga i && gb i) (fun _ => false)
          obtain ⟨q, hq⟩ : ∃ q, q = !sEq (fun i => ga i && gb i) (fun _ => false) := ⟨_, rfl⟩
          rw [← hq] at hne HMq
          clear hq
          have hgu := fun w => run_eqGuard_agg (P := Try.prog) w .neq 52 (.tmp 41) (.tmp 42) (sA fun i => ga i && gb i) (sA fun _ => false) sGuard
          have HX4 : Hid ((w4.alloc (.cells (dA fun _ _ => false) 54)).heap[w4.heap.size]? = some (.cells (dA fun _ _ => false) 54 (0, 0))) := hide (heap_alloc_new w4 _)
          go_upto_region 4 with (refine wpList_store_row rfl 54 _ _ rfl w4.heap.size _ rfl rfl 54 _ HX4.out (by rw [dA_size]; exact fSize) (by rw [dA_size, dA_size]) (dA_one _) ?_)
          rw [World.setRow_alloc_new]
          obtain ⟨w5, hw5⟩ : ∃ w5, w5 = w4.alloc (.cells (dA F) 54) := ⟨_, rfl⟩
          have hB : Below w.heap.size w w5.drew := belowDrew8 (by rw [hw5]; exact hB4.alloc hB4.size _)
          have k0 : Bx w5.drew w4.heap.size (dA F) 54 := by rw [hw5]; exact Bx.new w4 _ _
          rw [← hw5]
          obtain ⟨B8, hB8⟩ : ∃ B8, B8 = w4.heap.size := ⟨_, rfl⟩
          rw [← hB8] at k0 ⊢
          clear hw5 hB8 HX4 hz hB4
          refine wp_region_noPanic ?_
          refine wp_region_held_drew (S := fun w' => Bx w' B8 (dA F) 54) (by kernel_rfl) k0 (fun hHeld => ?_)
          refine wpAnyH_take (i := 0) (oi := _) (v := .agg (dA F)) rfl (by kernel_rfl) (by kernel_rfl) (by kernel_rfl) (fun _ _ _ h => h) (yieldsIf_load_mid (by rfl) 54 _ rfl B8 0 rfl (dL F) _ (fun w h => dA_all h) Try.underlying54 rfl (fInfo' _)) (by assumption) ?_
          try simp only [Act.put, List.getElem_toArray, List.getElem_cons_zero, List.getElem_cons_succ, List.setIfInBounds_toArray, List.set_cons_zero, List.set_cons_succ]
          refine wpAnyH_take (i := 1) (oi := _) (v := ?_) rfl (by kernel_rfl) (by kernel_rfl) (by kernel_rfl) (fun _ _ _ h => h) (Or.inl ⟨by rfl, ?_⟩) (by assumption) ?_
          rotate_left 1
          · (intro w hSw; clear hSw; (first | (go_simp; done) | (go_simp; with_reducible rfl)))
          try simp only [Act.put, List.getElem_toArray, List.getElem_cons_zero, List.getElem_cons_succ, List.setIfInBounds_toArray, List.set_cons_zero, List.set_cons_succ]
          refine wpAnyH_take (i := 4) (oi := _) (v := .agg (dA F)) rfl (by kernel_rfl) (by kernel_rfl) (by kernel_rfl) (fun _ _ _ h => h) (yieldsIf_load_mid (by rfl) 54 _ rfl B8 0 rfl (dL F) _ (fun w h => dA_all h) Try.underlying54 rfl (fInfo' _)) (by assumption) ?_
          try simp only [Act.put, List.getElem_toArray, List.getElem_cons_zero, List.getElem_cons_succ, List.setIfInBounds_toArray, List.set_cons_zero, List.set_cons_succ]
          refine wpAnyH_take (i := 5) (oi := _) (v := ?_) rfl (by kernel_rfl) (by kernel_rfl) (by kernel_rfl) (fun _ _ _ h => h) (Or.inl ⟨by rfl, ?_⟩) (by assumption) ?_
          rotate_left 1
          · (intro w hSw; clear hSw; (first | (go_simp; done) | (go_simp; with_reducible rfl)))
          try simp only [Act.put, List.getElem_toArray, List.getElem_cons_zero, List.getElem_cons_succ, List.setIfInBounds_toArray, List.set_cons_zero, List.set_cons_succ]
          refine wpAnyH_take (i := 9) (oi := _) (v := .agg (sA fun _ => false)) rfl (by kernel_rfl) (by kernel_rfl) (by kernel_rfl) (fun _ _ _ h => h) (Or.inl ⟨by rfl, ?_⟩) (by assumption) ?_
          · (intro w hSw; clear hSw; (first | (go_simp; done) | (go_simp; rfl)))
          try simp only [Act.put, List.getElem_toArray, List.getElem_cons_zero, List.getElem_cons_succ, List.setIfInBounds_toArray, List.set_cons_zero, List.set_cons_succ]
          refine wpAnyH_ready (rs := [2, 6]) (by kernel_rfl) (by simp) ?_
          refine AllReadyH.cons (o := _) rfl (fun K hK => ?_) (AllReadyH.cons (o := _) rfl (fun K hK => ?_) (AllReadyH.nil))
          · refine wp_slice1 _ rfl a rfl (fun Bm2 Wm2 hnm2 m2 hbc => ?_)
            replace k0 := k0.below hbc k0.lt
            replace hB := hB.trans (hbc.mono hB.size)
            clear hbc
            clear hnm2
            refine hK.out _ _ k0 (fun hHeld => ?_)
            clear hK K
            try simp only [Act.put, List.getElem_toArray, List.getElem_cons_zero, List.getElem_cons_succ, List.setIfInBounds_toArray, List.set_cons_zero, List.set_cons_succ]
            refine wpAnyH_ready (rs := [3, 6]) (by kernel_rfl) (by simp) ?_
            refine AllReadyH.cons (o := _) rfl (fun K hK => ?_) (AllReadyH.cons (o := _) rfl (fun K hK => ?_) (AllReadyH.nil))
            · go_simp
              (with_reducible refine Calls.mono (HWa.out _ _ m2.nv1) ?_)
              rintro r W3 ⟨rfl, hbc⟩
              replace k0 := k0.below hbc k0.lt
              replace m2 := m2.below hbc m2.lt
              replace hB := hB.trans (hbc.mono hB.size)
              clear hbc
              (try go_wp2_with fail)
              refine hK.out _ _ k0 (fun hHeld => ?_)
              clear hK K
              try simp only [Act.put, List.getElem_toArray, List.getElem_cons_zero, List.getElem_cons_succ, List.setIfInBounds_toArray, List.set_cons_zero, List.set_cons_succ]
              refine wpAnyH_ready (rs := [6]) (by kernel_rfl) (by simp) ?_
              refine AllReadyH.cons (o := _) rfl (fun K hK => ?_) (AllReadyH.nil)
              refine wp_slice1 _ rfl b rfl (fun Bm6 Wm6 hnm6 m6 hbc => ?_)
              replace k0 := k0.below hbc k0.lt
              replace m2 := m2.below hbc m2.lt
              replace hB := hB.trans (hbc.mono hB.size)
              clear hbc
              clear hnm6
              refine hK.out _ _ k0 (fun hHeld => ?_)
              clear hK K
              try simp only [Act.put, List.getElem_toArray, List.getElem_cons_zero, List.getElem_cons_succ, List.setIfInBounds_toArray, List.set_cons_zero, List.set_cons_succ]
              refine wpAnyH_ready (rs := [7]) (by kernel_rfl) (by simp) ?_
              refine AllReadyH.cons (o := _) rfl (fun K hK => ?_) (AllReadyH.nil)
              go_simp
              (with_reducible refine Calls.mono (HWb.out _ _ m6.nv1) ?_)
              rintro r W7 ⟨rfl, hbc⟩
              replace k0 := k0.below hbc k0.lt
              replace m2 := m2.below hbc m2.lt
              replace m6 := m6.below hbc m6.lt
              replace hB := hB.trans (hbc.mono hB.size)
              clear hbc
              (try go_wp2_with fail)
              refine hK.out _ _ k0 (fun hHeld => ?_)
              clear hK K
              try simp only [Act.put, List.getElem_toArray, List.getElem_cons_zero, List.getElem_cons_succ, List.setIfInBounds_toArray, List.set_cons_zero, List.set_cons_succ]
              refine wpAnyH_ready (rs := [8]) (by kernel_rfl) (by simp) ?_
              refine AllReadyH.cons (o := _) rfl (fun K hK => ?_) (AllReadyH.nil)
              go_simp
              (with_reducible refine Calls.mono (shared_any ga gb _) ?_)
              rintro r W8 ⟨rfl, hbc⟩
              replace k0 := k0.below hbc k0.lt
              replace m2 := m2.below hbc m2.lt
              replace m6 := m6.below hbc m6.lt
              replace hB := hB.trans (hbc.mono hB.size)
              clear hbc
              (try go_wp2_with fail)
              refine hK.out _ _ k0 (fun hHeld => ?_)
              clear hK K
              try simp only [Act.put, List.getElem_toArray, List.getElem_cons_zero, List.getElem_cons_succ, List.setIfInBounds_toArray, List.set_cons_zero, List.set_cons_succ]
              refine wpAnyH_take (i := 10) (oi := _) (v := .bool q) rfl (by kernel_rfl) (by kernel_rfl) (by kernel_rfl) (fun _ _ _ h => h) (Or.inl ⟨by rfl, ?_⟩) (by assumption) ?_
              · (intro w hSw; clear hSw; go_simp)
              try simp only [Act.put, List.getElem_toArray, List.getElem_cons_zero, List.getElem_cons_succ, List.setIfInBounds_toArray, List.set_cons_zero, List.set_cons_succ]
              refine wpAnyH_take (i := 11) (oi := _) (v := ?_) rfl (by kernel_rfl) (by kernel_rfl) (by kernel_rfl) (fun _ _ _ h => h) (Or.inl ⟨by rfl, ?_⟩) (by assumption) ?_
              rotate_left 1
              · (intro w hSw; clear hSw; (first | (go_simp; done) | (go_simp; with_reducible rfl)))
              try simp only [Act.put, List.getElem_toArray, List.getElem_cons_zero, List.getElem_cons_succ, List.setIfInBounds_toArray, List.set_cons_zero, List.set_cons_succ]
              refine wpAnyH_take (i := 12) (oi := _) (v := ?_) rfl (by kernel_rfl) (by kernel_rfl) (by kernel_rfl) (fun _ _ _ h => h) (Or.inl ⟨by rfl, ?_⟩) (by assumption) ?_
              rotate_left 1
              · (intro w hSw; clear hSw; (first | (go_simp; done) | (go_simp; with_reducible rfl)))
              try simp only [Act.put, List.getElem_toArray, List.getElem_cons_zero, List.getElem_cons_succ, List.setIfInBounds_toArray, List.set_cons_zero, List.set_cons_succ]
              refine wpAnyH_done (by kernel_rfl) ?_ _
              refine NoPanic.normal ?_
              clear hHeld
              clear hne hgu
              go_wp2_with fail
              exact bodyPost_ret (v := .tuple #[.bool q, .bool true]) (by simp [results, Try.results25, go_sem]) rfl ⟨by rw [HMe.out, HMq.out, HRe.out], hB⟩
            · refine wp_slice1 _ rfl b rfl (fun Bm6 Wm6 hnm6 m6 hbc => ?_)
              replace k0 := k0.below hbc k0.lt
              replace m2 := m2.below hbc m2.lt
              replace hB := hB.trans (hbc.mono hB.size)
              clear hbc
              clear hnm6
              refine hK.out _ _ k0 (fun hHeld => ?_)
              clear hK K
              try simp only [Act.put, List.getElem_toArray, List.getElem_cons_zero, List.getElem_cons_succ, List.setIfInBounds_toArray, List.set_cons_zero, List.set_cons_succ]
              refine wpAnyH_ready (rs := [3]) (by kernel_rfl) (by simp) ?_
              refine AllReadyH.cons (o := _) rfl (fun K hK => ?_) (AllReadyH.nil)
              go_simp
              (with_reducible refine Calls.mono (HWa.out _ _ m2.nv1) ?_)
              rintro r W3 ⟨rfl, hbc⟩
              replace k0 := k0.below hbc k0.lt
              replace m2 := m2.below hbc m2.lt
              replace m6 := m6.below hbc m6.lt
              replace hB := hB.trans (hbc.mono hB.size)
              clear hbc
              (try go_wp2_with fail)
              refine hK.out _ _ k0 (fun hHeld => ?_)
              clear hK K
              try simp only [Act.put, List.getElem_toArray, List.getElem_cons_zero, List.getElem_cons_succ, List.setIfInBounds_toArray, List.set_cons_zero, List.set_cons_succ]
              refine wpAnyH_ready (rs := [7]) (by kernel_rfl) (by simp) ?_
              refine AllReadyH.cons (o := _) rfl (fun K hK => ?_) (AllReadyH.nil)
              go_simp
              (with_reducible refine Calls.mono (HWb.out _ _ m6.nv1) ?_)
              rintro r W7 ⟨rfl, hbc⟩
              replace k0 := k0.below hbc k0.lt
              replace m2 := m2.below hbc m2.lt
              replace m6 := m6.below hbc m6.lt
              replace hB := hB.trans (hbc.mono hB.size)
              clear hbc
              (try go_wp2_with fail)
              refine hK.out _ _ k0 (fun hHeld => ?_)
              clear hK K
              try simp only [Act.put, List.getElem_toArray, List.getElem_cons_zero, List.getElem_cons_succ, List.setIfInBounds_toArray, List.set_cons_zero, List.set_cons_succ]
              refine wpAnyH_ready (rs := [8]) (by kernel_rfl) (by simp) ?_
              refine AllReadyH.cons (o := _) rfl (fun K hK => ?_) (AllReadyH.nil)
              go_simp
              (with_reducible refine Calls.mono (shared_any ga gb _) ?_)
              rintro r W8 ⟨rfl, hbc⟩
              replace k0 := k0.below hbc k0.lt
              replace m2 := m2.below hbc m2.lt
              replace m6 := m6.below hbc m6.lt
              replace hB := hB.trans (hbc.mono hB.size)
              clear hbc
              (try go_wp2_with fail)
              refine hK.out _ _ k0 (fun hHeld => ?_)
              clear hK K
              try simp only [Act.put, List.getElem_toArray, List.getElem_cons_zero, List.getElem_cons_succ, List.setIfInBounds_toArray, List.set_cons_zero, List.set_cons_succ]
              refine wpAnyH_take (i := 10) (oi := _) (v := .bool q) rfl (by kernel_rfl) (by kernel_rfl) (by kernel_rfl) (fun _ _ _ h => h) (Or.inl ⟨by rfl, ?_⟩) (by assumption) ?_
              · (intro w hSw; clear hSw; go_simp)
              try simp only [Act.put, List.getElem_toArray, List.getElem_cons_zero, List.getElem_cons_succ, List.setIfInBounds_toArray, List.set_cons_zero, List.set_cons_succ]
              refine wpAnyH_take (i := 11) (oi := _) (v := ?_) rfl (by kernel_rfl) (by kernel_rfl) (by kernel_rfl) (fun _ _ _ h => h) (Or.inl ⟨by rfl, ?_⟩) (by assumption) ?_
              rotate_left 1
              · (intro w hSw; clear hSw; (first | (go_simp; done) | (go_simp; with_reducible rfl)))
              try simp only [Act.put, List.getElem_toArray, List.getElem_cons_zero, List.getElem_cons_succ, List.setIfInBounds_toArray, List.set_cons_zero, List.set_cons_succ]
              refine wpAnyH_take (i := 12) (oi := _) (v := ?_) rfl (by kernel_rfl) (by kernel_rfl) (by kernel_rfl) (fun _ _ _ h => h) (Or.inl ⟨by rfl, ?_⟩) (by assumption) ?_
              rotate_left 1
              · (intro w hSw; clear hSw; (first | (go_simp; done) | (go_simp; with_reducible rfl)))
              try simp only [Act.put, List.getElem_toArray, List.getElem_cons_zero, List.getElem_cons_succ, List.setIfInBounds_toArray, List.set_cons_zero, List.set_cons_succ]
              refine wpAnyH_done (by kernel_rfl) ?_ _
              refine NoPanic.normal ?_
              clear hHeld
              clear hne hgu
              go_wp2_with fail
              exact bodyPost_ret (v := .tuple #[.bool q, .bool true]) (by simp [results, Try.results25, go_sem]) rfl ⟨by rw [HMe.out, HMq.out, HRe.out], hB⟩
          · refine wp_slice1 _ rfl b rfl (fun Bm6 Wm6 hnm6 m6 hbc => ?_)
            replace k0 := k0.below hbc k0.lt
            replace hB := hB.trans (hbc.mono hB.size)
            clear hbc
            clear hnm6
            refine hK.out _ _ k0 (fun hHeld => ?_)
            clear hK K
            try simp only [Act.put, List.getElem_toArray, List.getElem_cons_zero, List.getElem_cons_succ, List.setIfInBounds_toArray, List.set_cons_zero, List.set_cons_succ]
            refine wpAnyH_ready (rs := [2]) (by kernel_rfl) (by simp) ?_
            refine AllReadyH.cons (o := _) rfl (fun K hK => ?_) (AllReadyH.nil)
            refine wp_slice1 _ rfl a rfl (fun Bm2 Wm2 hnm2 m2 hbc => ?_)
            replace k0 := k0.below hbc k0.lt
            replace m6 := m6.below hbc m6.lt
            replace hB := hB.trans (hbc.mono hB.size)
            clear hbc
            clear hnm2
            refine hK.out _ _ k0 (fun hHeld => ?_)
            clear hK K
            try simp only [Act.put, List.getElem_toArray, List.getElem_cons_zero, List.getElem_cons_succ, List.setIfInBounds_toArray, List.set_cons_zero, List.set_cons_succ]
            refine wpAnyH_ready (rs := [3]) (by kernel_rfl) (by simp) ?_
            refine AllReadyH.cons (o := _) rfl (fun K hK => ?_) (AllReadyH.nil)
            go_simp
            (with_reducible refine Calls.mono (HWa.out _ _ m2.nv1) ?_)
            rintro r W3 ⟨rfl, hbc⟩
            replace k0 := k0.below hbc k0.lt
            replace m6 := m6.below hbc m6.lt
            replace m2 := m2.below hbc m2.lt
            replace hB := hB.trans (hbc.mono hB.size)
            clear hbc
            (try go_wp2_with fail)
            refine hK.out _ _ k0 (fun hHeld => ?_)
            clear hK K
            try simp only [Act.put, List.getElem_toArray, List.getElem_cons_zero, List.getElem_cons_succ, List.setIfInBounds_toArray, List.set_cons_zero, List.set_cons_succ]
            refine wpAnyH_ready (rs := [7]) (by kernel_rfl) (by simp) ?_
            refine AllReadyH.cons (o := _) rfl (fun K hK => ?_) (AllReadyH.nil)
            go_simp
            (with_reducible refine Calls.mono (HWb.out _ _ m6.nv1) ?_)
            rintro r W7 ⟨rfl, hbc⟩
            replace k0 := k0.below hbc k0.lt
            replace m6 := m6.below hbc m6.lt
            replace m2 := m2.below hbc m2.lt
            replace hB := hB.trans (hbc.mono hB.size)
            clear hbc
            (try go_wp2_with fail)
            refine hK.out _ _ k0 (fun hHeld => ?_)
            clear hK K
            try simp only [Act.put, List.getElem_toArray, List.getElem_cons_zero, List.getElem_cons_succ, List.setIfInBounds_toArray, List.set_cons_zero, List.set_cons_succ]
            refine wpAnyH_ready (rs := [8]) (by kernel_rfl) (by simp) ?_
            refine AllReadyH.cons (o := _) rfl (fun K hK => ?_) (AllReadyH.nil)
            go_simp
            (with_reducible refine Calls.mono (shared_any ga gb _) ?_)
            rintro r W8 ⟨rfl, hbc⟩
            replace k0 := k0.below hbc k0.lt
            replace m6 := m6.below hbc m6.lt
            replace m2 := m2.below hbc m2.lt
            replace hB := hB.trans (hbc.mono hB.size)
            clear hbc
            (try go_wp2_with fail)
            refine hK.out _ _ k0 (fun hHeld => ?_)
            clear hK K
            try simp only [Act.put, List.getElem_toArray, List.getElem_cons_zero, List.getElem_cons_succ, List.setIfInBounds_toArray, List.set_cons_zero, List.set_cons_succ]
            refine wpAnyH_take (i := 10) (oi := _) (v := .bool q) rfl (by kernel_rfl) (by kernel_rfl) (by kernel_rfl) (fun _ _ _ h => h) (Or.inl ⟨by rfl, ?_⟩) (by assumption) ?_
            · (intro w hSw; clear hSw; go_simp)
            try simp only [Act.put, List.getElem_toArray, List.getElem_cons_zero, List.getElem_cons_succ, List.setIfInBounds_toArray, List.set_cons_zero, List.set_cons_succ]
            refine wpAnyH_take (i := 11) (oi := _) (v := ?_) rfl (by kernel_rfl) (by kernel_rfl) (by kernel_rfl) (fun _ _ _ h => h) (Or.inl ⟨by rfl, ?_⟩) (by assumption) ?_
            rotate_left 1
            · (intro w hSw; clear hSw; (first | (go_simp; done) | (go_simp; with_reducible rfl)))
            try simp only [Act.put, List.getElem_toArray, List.getElem_cons_zero, List.getElem_cons_succ, List.setIfInBounds_toArray, List.set_cons_zero, List.set_cons_succ]
            refine wpAnyH_take (i := 12) (oi := _) (v := ?_) rfl (by kernel_rfl) (by kernel_rfl) (by kernel_rfl) (fun _ _ _ h => h) (Or.inl ⟨by rfl, ?_⟩) (by assumption) ?_
            rotate_left 1
            · (intro w hSw; clear hSw; (first | (go_simp; done) | (go_simp; with_reducible rfl)))
            try simp only [Act.put, List.getElem_toArray, List.getElem_cons_zero, List.getElem_cons_succ, List.setIfInBounds_toArray, List.set_cons_zero, List.set_cons_succ]
            refine wpAnyH_done (by kernel_rfl) ?_ _
            refine NoPanic.normal ?_
            clear hHeld
            clear hne hgu
            go_wp2_with fail
            exact bodyPost_ret (v := .tuple #[.bool q, .bool true]) (by simp [results, Try.results25, go_sem]) rfl ⟨by rw [HMe.out, HMq.out, HRe.out], hB⟩
        · rw [Bool.not_eq_true] at hbb
          have HRe : Hid (meB L a b = false) := hide (by rw [meB, Hg.out, Hab.out, Hba.out, hbb]; rfl)
          rw [hbb]
          clear hbb
          go_wp2_with fail
          exact bodyPost_ret (v := .tuple #[.bool false, .bool false]) (by simp [results, Try.results25, go_sem]) rfl (HNo.out HRe.out _ hB3)
      · rw [Bool.not_eq_true] at hba
        have HRe : Hid (meB L a b = false) := hide (by rw [meB, Hg.out, Hab.out, hba]; rfl)
        rw [hba]
        clear hba
        go_wp2_with fail
        exact bodyPost_ret (v := .tuple #[.bool false, .bool false]) (by simp [results, Try.results25, go_sem]) rfl (HNo.out HRe.out _ hB2)
  · rw [Bool.not_eq_true] at hg
    have HRe : Hid (meB L a b = false) := hide (by rw [meB, hg]; rfl)
    rw [hg]
    clear hg
    go_wp2_with fail
    exact bodyPost_ret (v := .tuple #[.bool false, .bool false]) (by simp [results, Try.results25, go_sem]) rfl (HNo.out HRe.out _ hB1)

set_option maxHeartbeats 8000000 in
theorem specMeet_any (v : Value) (L : List (List Int)) (a b : Int) (w : World) (h : GRow w v L) :
    Calls Try.prog 24 #[v, .int .i64 a, .int .i64 b] w fun e w' => e = .returned (.tuple #[.bool (meR L a b), .bool (meB L a b)]) ∧ Below w.heap.size w w' := by
  obtain ⟨ad, c, rfl, hR, hsm, hlc⟩ := h
  have hB0 : Below w.heap.size w (w.alloc (.cells #[.slice ad L.length c] 28)) := (Below.refl _ _).alloc (Nat.le_refl _) _
  have HX := hide (Bx.new w #[.slice ad L.length c] 28)
  have HV : Hid (∀ w', Below w.heap.size w w' → GRow w' (.agg #[.slice ad L.length c]) L) := hide (fun w' hb => ⟨ad, c, rfl, hR.below hb, hsm, hlc⟩)
  clear hR hsm hlc
  go_enter Try.func24, Try.ntmps24
  go_wp2_with fail
  refine Calls.mono (specGoodG_any _ L _ (HV.out _ hB0)) ?_
  rintro e w1 ⟨rfl, hb⟩
  have hB1 := hB0.trans (hb.mono hB0.size)
  have HX1 := hide (HX.out.below hb HX.out.lt)
  clear hb hB0 HX
  have cx := HX1.out.c
  have lx := HX1.out.lt
  have HNo : Hid (meB L a b = false → ∀ w', Below w.heap.size w w' → Ending.returned (.tuple #[.bool false, .bool false]) = .returned (.tuple #[.bool (meR L a b), .bool (meB L a b)]) ∧ Below w.heap.size w w') := hide (fun he w' hb => ⟨by rw [meR_no he, he], hb⟩)
  by_cases hg : goodG L = true
  · have HGG := hide (goodG_iff.1 hg)
    have Hg := hide hg
    rw [hg]
    clear hg
    by_cases hab : (a == b) = true
    · have HRe : Hid (meB L a b = false) := hide (by rw [meB, Hg.out, hab]; rfl)
      go_wp2_with fail
      exact bodyPost_ret (v := .tuple #[.bool false, .bool false]) (by simp [results, Try.results24, go_sem]) rfl (HNo.out HRe.out _ hB1)
    · rw [Bool.not_eq_true] at hab
      have Hab := hide hab
      have hB1a : Below w.heap.size w (w1.alloc (.cells #[.int .i64 a] 3)) := hB1.alloc hB1.size _
      have HX1a := hide (HX1.out.alloc (.cells #[.int .i64 a] 3))
      go_wp2_with fail
      refine Calls.mono (l11Blocks_any _ _ L [a] _ (HV.out _ hB1a) HGG.out (NV.one w1 a) (by simp)) ?_
      rintro e w2 ⟨rfl, hb⟩
      have hB2 := hB1a.trans (hb.mono hB1a.size)
      have HX2 := hide (HX1a.out.below hb HX1a.out.lt)
      clear hb cx lx HX1 hB1 hB1a HX1a
      by_cases hba : bG L [a] = true
      · have HBA := hide (bG_iff.1 hba)
        have Hba := hide hba
        rw [hba]
        clear hba
        have cx := HX2.out.c
        have lx := HX2.out.lt
        have hB2a : Below w.heap.size w (w2.alloc (.cells #[.int .i64 b] 3)) := hB2.alloc hB2.size _
        have HX2a := hide (HX2.out.alloc (.cells #[.int .i64 b] 3))
        go_wp2_with fail
        refine Calls.mono (l11Blocks_any _ _ L [b] _ (HV.out _ hB2a) HGG.out (NV.one w2 b) (by simp)) ?_
        rintro e w3 ⟨rfl, hb⟩
        have hB3 := hB2a.trans (hb.mono hB2a.size)
        have HX3 := hide (HX2a.out.below hb HX2a.out.lt)
        clear hb cx lx HX2 hB2 hB2a HX2a
        by_cases hbb : bG L [b] = true
        · have HBB := hide (bG_iff.1 hbb)
          have HRe : Hid (meB L a b = true) := hide (by rw [meB, Hg.out, Hab.out, Hba.out, hbb]; rfl)
          have HMe : Hid (meR L a b = meD L a b) := hide (meR_yes HRe.out)
          rw [hbb]
          clear hbb hab
          have cx := HX3.out.c
          have lx := HX3.out.lt
          have hB3a : Below w.heap.size w (w3.alloc (.cells #[.int .i64 a] 3)) := hB3.alloc hB3.size _
          have HX3a := hide (HX3.out.alloc (.cells #[.int .i64 a] 3))
          go_wp2_with fail
          refine Calls.mono (l11Joins_any _ _ L [a] _ (HV.out _ hB3a) HGG.out (NV.one w3 a) (by simp) (fun x hx => HBA.out.1.mem hx)) ?_
          rintro e w4 ⟨v4, rfl, hN, hb⟩
          have hB4 := hB3a.trans (hb.mono hB3a.size)
          have HX4 := hide (HX3a.out.below hb HX3a.out.lt)
          have hjl := jl_len L [a]
          have HJa : Hid (∀ x : Nat, (x : Int) ∈ jl L [a] ↔ JP (fr L) [a] x) := hide (fun x => by
            rw [jl_mem HGG.out]
            exact ⟨fun ⟨k, e, hk⟩ => by obtain rfl : x = k := by omega
                                        exact hk, fun hk => ⟨x, rfl, hk⟩⟩)
          obtain ⟨ja, hja⟩ : ∃ ja, ja = jl L [a] := ⟨_, rfl⟩
          rw [← hja] at HJa hN hjl
          have HN4 := hide hN
          obtain ⟨a4, c4, rfl, -⟩ := hN.form
          clear hb cx lx HX3 hB3 hB3a HX3a hN hja
          go_wp2_with fail
          refine Calls.mono (l1Put_any _ ja a _ HN4.out (by omega)) ?_
          rintro e w5 ⟨v5, rfl, hN, hb⟩
          have hB5 := hB4.trans (hb.mono hB4.size)
          have HX5 := hide (HX4.out.below hb HX4.out.lt)
          obtain ⟨xa, hxa⟩ : ∃ xa, xa = putL ja a := ⟨_, rfl⟩
          have HXa : Hid (∀ x : Nat, (x : Int) ∈ xa ↔ (JP (fr L) [a] x ∨ (x : Int) = a)) := hide (fun x => by rw [hxa, putL_mem, HJa.out]; exact or_comm)
          have hxl : xa.length ≤ 1048576 := by
            rw [hxa]
            have : ∀ l : List Int, (putL l a).length ≤ l.length + 1 := by
              intro l
              induction l with
              | nil => simp [putL]
              | cons y l ih => unfold putL; split <;> (try split) <;> simp <;> omega
            have := this ja
            omega
          rw [← hxa] at hN
          obtain ⟨a5, c5, rfl, -⟩ := hN.form
          have HN5 := hide hN
          have hB5a : Below w.heap.size w (w5.alloc (.cells #[.int .i64 b] 3)) := hB5.alloc hB5.size _
          have HX5a := hide (HX5.out.alloc (.cells #[.int .i64 b] 3))
          have cx := HX5.out.c
          have lx := HX5.out.lt
          have hb5a : Below w5.heap.size w5 (w5.alloc (.cells #[.int .i64 b] 3)) := (Below.refl _ _).alloc (Nat.le_refl _) _
          have HN5a := hide (hN.below hb5a)
          clear hb hN hxa HX4 hB4 hb5a HN4
          go_wp2_with fail
          refine Calls.mono (l11Joins_any _ _ L [b] _ (HV.out _ hB5a) HGG.out (NV.one w5 b) (by simp) (fun x hx => HBB.out.1.mem hx)) ?_
          rintro e w6 ⟨v6, rfl, hN, hb⟩
          have hB6 := hB5a.trans (hb.mono hB5a.size)
          have HN56 := hide (HN5a.out.below hb)
          have hjlb := jl_len L [b]
          have HJb : Hid (∀ x : Int, x ∈ jl L [b] → ∃ k : Nat, x = (k : Int)) := hide (fun x hx => by
            obtain ⟨k, e, -⟩ := (jl_mem HGG.out).1 hx
            exact ⟨k, e⟩)
          have HJb2 : Hid (∀ x : Nat, (x : Int) ∈ jl L [b] ↔ JP (fr L) [b] x) := hide (fun x => by
            rw [jl_mem HGG.out]
            exact ⟨fun ⟨k, e, hk⟩ => by obtain rfl : x = k := by omega
                                        exact hk, fun hk => ⟨x, rfl, hk⟩⟩)
          obtain ⟨jb, hjb⟩ : ∃ jb, jb = jl L [b] := ⟨_, rfl⟩
          rw [← hjb] at HJb HJb2 hN hjlb
          obtain ⟨a6, c6, rfl, -⟩ := hN.form
          have HN6 := hide hN
          clear hb cx lx HX5 hB5 hB5a HX5a hN hjb HN5 HN5a
          go_wp2_with fail
          refine Calls.mono (l1Put_any _ jb b _ HN6.out (by omega)) ?_
          rintro e w7 ⟨v7, rfl, hN, hb⟩
          have hB7 := hB6.trans (hb.mono hB6.size)
          have HN57 := hide (HN56.out.below hb)
          obtain ⟨xb, hxb⟩ : ∃ xb, xb = putL jb b := ⟨_, rfl⟩
          have HXb : Hid (∀ x : Nat, (x : Int) ∈ xb ↔ (JP (fr L) [b] x ∨ (x : Int) = b)) := hide (fun x => by rw [hxb, putL_mem, HJb2.out]; exact or_comm)
          have HXn : Hid (∀ x ∈ xb, ∃ k : Nat, x = (k : Int)) := hide (fun x hx => by
            rw [hxb, putL_mem] at hx
            rcases hx with e | hx
            · have := bG_one HBB.out; exact ⟨x.toNat, by omega⟩
            · exact HJb.out x hx)
          rw [← hxb] at hN
          obtain ⟨a7, c7, rfl, -⟩ := hN.form
          have hxbl : xb.length ≤ 1048576 := by
            rw [hxb]
            have : ∀ l : List Int, (putL l b).length ≤ l.length + 1 := by
              intro l
              induction l with
              | nil => simp [putL]
              | cons y l ih => unfold putL; split <;> (try split) <;> simp <;> omega
            have := this jb
            omega
          have HN7 := hide hN
          obtain ⟨nb, hnb⟩ : ∃ nb, nb = xb.length := ⟨_, rfl⟩
          have Hnb := hide hnb
          rw [← hnb] at hxbl ⊢
          clear hb hN hxb hnb hB6 HN56 HN6
          go_wp2_with fail
          go_loopw [46] (fun i w' => ∃ j : Nat, j ≤ nb ∧ i = .int .i64 j ∧ (∀ q (h : q < xb.length), q < j → xb[q] ∉ xa) ∧ w' = w7) (fun i _ => nb - (intOf i).toNat)
          case atStart => exact ⟨0, by omega, rfl, by intros; omega, rfl⟩
          case round =>
            obtain ⟨j, hj, rfl, hall, rfl⟩ := hrel
            have HA := hide hall
            clear hall
            by_cases hlt : j < nb
            · have hlt' : (j : Int) < (nb : Int) := by omega
              have hjx : j < xb.length := by rw [← Hnb.out]; exact hlt
              obtain ⟨b2, o2, rfl, p0⟩ := NV.at HN7.out (Below.refl _ _) hjx
              obtain ⟨X, hX⟩ := HXn.out _ (List.getElem_mem hjx)
              rw [hX] at p0
              have HX := hide hX
              have HXm : Hid ((X : Int) ∈ xb) := hide (by rw [← hX]; exact List.getElem_mem hjx)
              clear hX
              go_wp2_with fail
              refine Calls.mono (l1Has_v _ xa X _ HN57.out hxl) ?_
              rintro e w8 ⟨rfl, hw⟩
              obtain rfl := hw.symm
              by_cases hm : (X : Int) ∈ xa
              · have HE : Hid (meD L a b = true) := hide (meD_iff.2 ⟨X, (HXa.out X).1 hm, (HXb.out X).1 HXm.out⟩)
                rw [decide_eq_true hm]
                clear hm p0
                go_wp2_with fail
                exact bodyPost_ret (v := .tuple #[.bool true, .bool true]) (by simp [results, Try.results24, go_sem]) rfl ⟨by rw [HMe.out, HE.out, HRe.out], hB7⟩
              · have HA2 : Hid (∀ q (h : q < xb.length), q < j + 1 → xb[q] ∉ xa) := hide (fun q h hq => by
                  by_cases e : q = j
                  · subst e; rw [HX.out]; exact hm
                  · exact HA.out q h (by omega))
                rw [decide_eq_false hm]
                clear hm p0
                go_wp2_with fail
                exact ⟨⟨j + 1, by omega, by go_num, HA2.out, trivial⟩, by simp [intOf]; omega⟩
            · have HE : Hid (meD L a b = false) := hide (by
                rw [Bool.eq_false_iff]
                intro hc
                obtain ⟨y, h1, h2⟩ := meD_iff.1 hc
                obtain ⟨q, hq, e⟩ := List.getElem_of_mem ((HXb.out y).2 h2)
                exact HA.out q hq (by have := Hnb.out; omega) (by rw [e]; exact (HXa.out y).2 h1))
              go_wp2_with fail
              exact bodyPost_ret (v := .tuple #[.bool false, .bool true]) (by simp [results, Try.results24, go_sem]) rfl ⟨by rw [HMe.out, HE.out, HRe.out], hB7⟩
        · rw [Bool.not_eq_true] at hbb
          have HRe : Hid (meB L a b = false) := hide (by rw [meB, Hg.out, Hab.out, Hba.out, hbb]; rfl)
          rw [hbb]
          clear hbb
          go_wp2_with fail
          exact bodyPost_ret (v := .tuple #[.bool false, .bool false]) (by simp [results, Try.results24, go_sem]) rfl (HNo.out HRe.out _ hB3)
      · rw [Bool.not_eq_true] at hba
        have HRe : Hid (meB L a b = false) := hide (by rw [meB, Hg.out, Hab.out, hba]; rfl)
        rw [hba]
        clear hba
        go_wp2_with fail
        exact bodyPost_ret (v := .tuple #[.bool false, .bool false]) (by simp [results, Try.results24, go_sem]) rfl (HNo.out HRe.out _ hB2)
  · rw [Bool.not_eq_true] at hg
    have HRe : Hid (meB L a b = false) := hide (by rw [meB, hg]; rfl)
    rw [hg]
    clear hg
    go_wp2_with fail
    exact bodyPost_ret (v := .tuple #[.bool false, .bool false]) (by simp [results, Try.results24, go_sem]) rfl (HNo.out HRe.out _ hB1)
end Go.Proofs.Ytochhnibegcbpaa.W

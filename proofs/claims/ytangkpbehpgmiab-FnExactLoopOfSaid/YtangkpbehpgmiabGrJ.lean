/-
  Both LoopOf. Conditions: none but those that each theorem states. Written by wip/build/mk_grj.py.
-/
import Derived.Test.YtangkpbehpgmiabGrH
namespace Go.Proofs.Ytangkpbehpgmiab.W
open Go.ChangeShapes Go.WideShapes Go.ChangeAt Go.RowKit Go.Joins
set_option linter.unusedVariables false
set_option linter.unusedSimpArgs false

/-- The loop of the edge from f to t, by marks. -/
noncomputable def loS (L : List (List Int)) (f t : Nat) : Nat → Bool := upd (rc (tn L) (t : Int) f) t true
noncomputable def loB (L : List (List Int)) (nf nt : Int) : Bool := goodG L && beB nf L.length && (decide (nt ∈ L.getD nf.toNat []) && dm L nf.toNat nt.toNat)
noncomputable def loR (L : List (List Int)) (nf nt : Int) : List Int := if loB L nf nt = true then lst (loS L nf.toNat nt.toNat) 12 else []
theorem loR_len (L : List (List Int)) (nf nt : Int) : (loR L nf nt).length ≤ 12 := by
  unfold loR; split
  · exact lst_len _ _
  · simp
theorem loB_nat {L : List (List Int)} (hg : goodG L = true) {f t : Nat} (hf : f < L.length) (ht : (t : Int) ∈ L[f]) : loB L (f : Int) (t : Int) = dm L f t := by
  have h1 : beB (f : Int) L.length = true := by simp [beB]; omega
  unfold loB
  rw [hg, h1, show ((f : Int)).toNat = f by omega, getD_at hf, decide_eq_true ht, show ((t : Int)).toNat = t by omega]
  simp
theorem loB_out {L : List (List Int)} {nf nt : Int} (h : ¬ (0 ≤ nf ∧ nf < (L.length : Int))) : loB L nf nt = false := by
  have : beB nf L.length = false := by
    rw [Bool.eq_false_iff]; intro h1; simp [beB] at h1; exact h h1
  simp [loB, this]
theorem loB_row {L : List (List Int)} {f : Nat} {nt : Int} (hf : f < L.length) (h : ¬ nt ∈ L[f]) : loB L (f : Int) nt = false := by
  unfold loB
  rw [show ((f : Int)).toNat = f by omega, getD_at hf, decide_eq_false h]
  simp
theorem loB_bad {L : List (List Int)} {nf nt : Int} (h : goodG L = false) : loB L nf nt = false := by simp [loB, h]

set_option maxHeartbeats 1000000 in
theorem l1Has_row (a1 : Option Addr) (c1 : Nat) (l : List Int) (n : Int) (w : World) (h : IRow w a1 l) (hl : l.length ≤ 1048576) :
    Calls Try.prog 15 #[.slice a1 l.length c1, .int .i64 n] w fun e w' => e = .returned (.bool (decide (n ∈ l))) ∧ w' = w := by
  have H1 := hide h
  clear h
  obtain ⟨R, hR⟩ : ∃ R, R = decide (n ∈ l) := ⟨_, rfl⟩
  rw [← hR]
  have HRR := hide hR
  clear hR
  go_enter Try.func15, Try.ntmps15
  go_wp2_with fail
  go_loopw [9] (fun i w' => ∃ j : Nat, j ≤ l.length ∧ i = .int .i64 j ∧ (∀ q (h : q < l.length), q < j → l[q] ≠ n) ∧ w' = w) (fun i _ => l.length - (intOf i).toNat)
  case atStart => exact ⟨0, by omega, rfl, by intros; omega, rfl⟩
  case round =>
    obtain ⟨j, hj, rfl, hall, rfl⟩ := hrel
    have HA := hide hall
    clear hall
    by_cases hlt : j < l.length
    · have hlt' : (j : Int) < (l.length : Int) := by omega
      obtain ⟨g1, o1, rfl, -, p1⟩ := IRow.iat H1.out (Below.refl _ _) hlt
      have hmem := List.getElem_mem hlt
      have HM := hide hmem
      clear hmem
      by_cases hx : l[j] = n
      · have hr : R = true := by rw [HRR.out, decide_eq_true_eq]; exact hx ▸ HM.out
        rw [hx] at p1
        go_wp2_with fail
        go_ret
        exact ⟨ret_bool hr.symm, rfl⟩
      · have hA2 : ∀ q (h : q < l.length), q < j + 1 → l[q] ≠ n := fun q h hq => by
          by_cases e : q = j
          · subst e; exact hx
          · exact HA.out q h (by omega)
        have HA2 := hide hA2
        obtain ⟨x, hxx⟩ : ∃ x, x = l[j] := ⟨_, rfl⟩
        rw [← hxx] at p1 hx
        have hxb : (x == n) = false := by simpa using hx
        clear hxx hA2 HM
        go_wp2_with fail
        exact ⟨⟨j + 1, by omega, by go_num, HA2.out, trivial⟩, by simp [intOf]; omega⟩
    · have hr : R = false := by
        rw [HRR.out, decide_eq_false_iff_not]
        intro hm
        obtain ⟨q, hq, e⟩ := List.getElem_of_mem hm
        exact HA.out q hq (by omega) e
      go_wp2_with fail
      go_ret
      exact ⟨ret_bool hr.symm, rfl⟩

/-- A row of blocks of the loop. -/
def LInv (L : List (List Int)) (f t : Nat) (o : List Int) : Prop := Ris o ∧ (∀ x ∈ o, ∃ k : Nat, x = (k : Int) ∧ k < L.length ∧ (k = t ∨ Rc (tn L) (t : Int) f k)) ∧ (t : Int) ∈ o ∧ (f : Int) ∈ o
/-- Nothing is left out ahead of block k. -/
def LCl (L : List (List Int)) (t : Nat) (o : List Int) (k : Nat) : Prop := ∀ h : k < L.length, ∀ x ∈ L[k], x ≠ (t : Int) → x ∈ o → (k : Int) ∈ o
theorem LInv.len {L : List (List Int)} {f t : Nat} {o : List Int} (hg : GG L) (h : LInv L f t o) : o.length ≤ 12 := by
  have := rise_len o 0 12 h.1 (by omega) (fun x hx => by
    obtain ⟨k, rfl, hk, -⟩ := h.2.1 x hx
    have := hg.2.1
    omega)
  omega
theorem LInv.start {L : List (List Int)} {f t : Nat} (hf : f < L.length) (ht : t < L.length) : LInv L f t (putL [(t : Int)] (f : Int)) := by
  refine ⟨putL_ris _ _ (by simp), fun x hx => ?_, (putL_mem _ _ _).2 (by simp), (putL_mem _ _ _).2 (.inl rfl)⟩
  rcases (putL_mem _ _ _).1 hx with rfl | hx
  · refine ⟨f, rfl, hf, ?_⟩
    by_cases e : f = t
    · exact .inl e
    · exact .inr (.start (by omega))
  · simp at hx
    exact ⟨t, hx, ht, .inl rfl⟩
theorem LInv.put {L : List (List Int)} {f t : Nat} {o : List Int} (hg : GG L) (h : LInv L f t o) {j : Nat} (hj : j < L.length) {x : Int} (hx : x ∈ L[j]) (hn : x ≠ (t : Int)) (hin : x ∈ o) : LInv L f t (putL o (j : Int)) := by
  refine ⟨putL_ris _ _ h.1, fun y hy => ?_, (putL_mem _ _ _).2 (.inr h.2.2.1), (putL_mem _ _ _).2 (.inr h.2.2.2)⟩
  rcases (putL_mem _ _ _).1 hy with rfl | hy
  · refine ⟨j, rfl, hj, ?_⟩
    by_cases e : j = t
    · exact .inl e
    · obtain ⟨k, rfl, hk, hr⟩ := h.2.1 x hin
      have hkt : k ≠ t := fun e => hn (by rw [e])
      exact .inr ((hr.resolve_left hkt).step (tn_edge.2 ⟨hk, hj, hx⟩) (by omega))
  · exact h.2.1 y hy
theorem LInv.done {L : List (List Int)} {f t : Nat} {o : List Int} (hg : GG L) (h : LInv L f t o) (hc : ∀ k, k < L.length → LCl L t o k) : o = lst (loS L f t) 12 := by
  have h12 := hg.2.1
  refine rise_ext _ _ h.1 (lst_ris _ _) (fun x => ?_)
  constructor
  · intro hx
    obtain ⟨k, rfl, hk, hr⟩ := h.2.1 x hx
    refine lst_mem.2 ⟨k, rfl, by omega, ?_⟩
    unfold loS
    by_cases e : k = t
    · subst e; exact upd_same _ _ _
    · rw [upd_other _ _ _ e]; exact rc_iff.2 (hr.resolve_left e)
  · intro hx
    obtain ⟨k, rfl, -, hk⟩ := lst_mem.1 hx
    unfold loS at hk
    by_cases e : k = t
    · subst e; exact h.2.2.1
    · rw [upd_other _ _ _ e] at hk
      replace hk := rc_iff.1 hk
      clear hx e
      induction hk with
      | start _ => exact h.2.2.2
      | step h1 h2 h3 ih =>
        obtain ⟨h4, h5⟩ := tn_edge.1 h2
        exact hc _ h5.1 h5.1 _ h5.2 h1.ne ih

set_option maxHeartbeats 8000000 in
theorem implLoop_any (v : Value) (L : List (List Int)) (nf nt : Int) (w : World) (h : GRow w v L) :
    Calls Try.prog 7 #[v, .int .i64 nf, .int .i64 nt] w fun e w' => ∃ v', e = .returned (.tuple #[v', .bool (loB L nf nt)]) ∧ w'.ownsRow w.heap.size 3 1 v' (loR L nf nt).length (ic (loR L nf nt)) ∧ Below w.heap.size w w' := by
  obtain ⟨ad, c, rfl, hR, hs, hlc⟩ := h
  have hB0 : Below w.heap.size w (w.alloc (.cells #[.slice ad L.length c] 29)) := (Below.refl _ _).alloc (Nat.le_refl _) _
  have HX := hide (Bx.new w #[.slice ad L.length c] 29)
  have HV : Hid (∀ w', Below w.heap.size w w' → GRow w' (.agg #[.slice ad L.length c]) L) := hide (fun w' hb => ⟨ad, c, rfl, hR.below hb, hs, hlc⟩)
  have hR0 := hR
  have hl := hs.1
  clear hR hs hlc
  go_enter Try.func7, Try.ntmps7
  go_wp2_with fail
  refine Calls.mono (implGoodG_any _ L _ (HV.out _ hB0)) ?_
  rintro e w1 ⟨rfl, hb⟩
  have hB1 := hB0.trans (hb.mono hB0.size)
  have HX1 := hide (HX.out.below hb HX.out.lt)
  clear hb hB0 HX
  have cx := HX1.out.c
  have lx := HX1.out.lt
  by_cases hg : goodG L = true
  · have HGG := hide (goodG_iff.1 hg)
    have hl12 := HGG.out.2.1
    have Hg := hide hg
    rw [hg]
    clear hg
    by_cases hin : 0 ≤ nf ∧ nf < (L.length : Int)
    · obtain ⟨f, rfl⟩ : ∃ f : Nat, nf = (f : Int) := ⟨nf.toNat, by omega⟩
      have hf : f < L.length := by omega
      have hbe : beB (f : Int) L.length = true := by simp [beB]; omega
      have hf' : (f : Int) < (L.length : Int) := by omega
      obtain ⟨b, oo, v, rfl, hb, p0w, pv⟩ := QRow.at hR0 (Below.refl _ _) hf
      have p0 := (hB1.cell (p := ⟨b, oo + f, none⟩) hb).trans p0w
      obtain ⟨ad1, c1, rfl, pr, -⟩ := pv
      have pr1 := RRow.below pr hB1
      have hll : L[f].length ≤ 12 := by have := (HGG.out.2.2 f hf).len; omega
      have HCn := hide (contains_any ad1 c1 L[f] nt w1 (by omega) pr1)
      obtain ⟨ln, hln⟩ : ∃ ln, ln = L[f].length := ⟨_, rfl⟩
      rw [← hln] at p0 HCn
      clear hln pr pr1 p0w hin hll
      go_wp2_with fail
      refine Calls.mono (isBelow_g (f : Int) L.length _) ?_
      rintro e w2 ⟨rfl, hw⟩
      obtain rfl := hw.symm
      rw [hbe]
      go_wp2_with fail
      refine Calls.mono HCn.out ?_
      rintro e w2 ⟨rfl, hw⟩
      obtain rfl := hw.symm
      clear p0 HCn
      by_cases hm : nt ∈ L[f]
      · have hbd := (HGG.out.2.2 f hf).mem hm
        obtain ⟨t, rfl⟩ : ∃ t : Nat, nt = (t : Int) := ⟨nt.toNat, by omega⟩
        have HLb := hide (loB_nat Hg.out hf hm)
        rw [decide_eq_true hm]
        have ht : t < L.length := by omega
        have ht12 : (t : Int) < 12 := by omega
        have ht12n : t < 12 := by omega
        have hf12 : f < 12 := by omega
        have hf12' : (f : Int) < 12 := by omega
        clear hm hbd
        go_wp2_with fail
        refine Calls.mono (dominators_any _ L _ (HV.out _ hB1) HGG.out) ?_
        rintro e w3 ⟨rfl, hb3⟩
        have hB3 := hB1.trans (hb3.mono hB1.size)
        have HX3 := hide (HX1.out.below hb3 HX1.out.lt)
        clear hb3 cx lx HX1 hB1
        have HI1 := hide (dIdx (dm L) w3 f hf12)
        have HI2 := hide (sIdx (dm L f) w3 t ht12n)
        obtain ⟨q, hq⟩ : ∃ q, q = dm L f t := ⟨_, rfl⟩
        rw [← hq] at HI2 HLb
        clear hq
        have cx := HX3.out.c
        have lx := HX3.out.lt
        cases q with
        | false =>
          have HRe := HLb
          go_wp2_with (first | (refine wpList_indexA rfl 46 _ _ rfl _ _ _ rfl rfl HI1.out ?_) | (refine wpList_indexA rfl 44 _ _ rfl _ _ _ rfl rfl HI2.out ?_))
          refine bodyPost_ret (v := .tuple #[.slice none 0 0, .bool false]) (by simp [results, Try.results7, go_sem]) rfl ?_
          exact ⟨_, by rw [HRe.out], by rw [loR, HRe.out]; exact World.ownsRow_nil _ _ _ _, hB3⟩
        | true =>
          have HRe := HLb
          go_upto_region 5 with (first | (refine wpList_indexA rfl 46 _ _ rfl _ _ _ rfl rfl HI1.out ?_) | (refine wpList_indexA rfl 44 _ _ rfl _ _ _ rfl rfl HI2.out ?_))
          go_wp2_with fail
          refine Calls.mono (turned_any _ L _ (HV.out _ hB3) HGG.out) ?_
          rintro e w4 ⟨v4, rfl, hG4, hb4⟩
          have hB4 := hB3.trans (hb4.mono hB3.size)
          have HG4 := hide hG4
          obtain ⟨a4, c4, rfl, -⟩ := id hG4
          clear hb4 hB3 hG4 cx lx HX3
          obtain ⟨tl, htl⟩ : ∃ tl, tl = (tn L).length := ⟨_, rfl⟩
          rw [← htl] at HG4 ⊢
          have hftl : f < (tn L).length := by rw [tn_len]; exact hf
          have HRf := hide (reachedFrom_any _ (tn L) f (t : Int) w4 HG4.out (tn_good HGG.out) hftl)
          clear htl
          go_wp2_with fail
          refine Calls.mono HRf.out ?_
          rintro e w5 ⟨rfl, hb5⟩
          have hB5 := hB4.trans (hb5.mono hB4.size)
          clear hb5 hB4 HG4 HRf
          have HX5 : Hid ((w5.alloc (.cells #[.bool false, .bool false, .bool false, .bool false, .bool false, .bool false, .bool false, .bool false, .bool false, .bool false, .bool false, .bool false] 44)).heap[w5.heap.size]? = some (.cells #[.bool false, .bool false, .bool false, .bool false, .bool false, .bool false, .bool false, .bool false, .bool false, .bool false, .bool false, .bool false] 44 (0, 0))) := hide (heap_alloc_new w5 _)
          go_upto_region 6 with (refine wpList_store_row rfl 44 _ _ rfl w5.heap.size _ rfl rfl 44 _ HX5.out bsInfo rfl (sA_one _) ?_)
          rw [World.setRow_alloc_new]
          clear HX5
          obtain ⟨W6, hW6⟩ : ∃ W6, W6 = w5.alloc (.cells (sA (rc (tn L) (t : Int) f)) 44) := ⟨_, rfl⟩
          have hB6 : Below w.heap.size w W6 := by rw [hW6]; exact hB5.alloc hB5.size _
          have HX6 : Hid (Bx W6 w5.heap.size (sA (rc (tn L) (t : Int) f)) 44) := hide (by rw [hW6]; exact Bx.new _ _ _)
          rw [← hW6]
          obtain ⟨B8, hB8⟩ : ∃ B8, B8 = w5.heap.size := ⟨_, rfl⟩
          have hw8 : w.heap.size ≤ B8 := by rw [hB8]; exact hB5.size
          rw [← hB8] at HX6 ⊢
          clear hW6 hB8 hB5
          have c8 : W6.cell? ⟨B8, t, none⟩ = some (.bool (rc (tn L) (t : Int) f t)) := by rw [HX6.out.c]; exact sA_at _ ht12n
          have f8 := HX6.out.f
          have HX7 := hide (HX6.out.set t (.bool true))
          rw [sA_set] at HX7
          replace HX7 : Hid (Bx _ B8 (sA (loS L f t)) _) := HX7
          have hB7 := hB6.setCell (p := ⟨B8, t, none⟩) (show w.heap.size ≤ B8 from hw8) (.bool true)
          go_upto_region 7 with fail
          clear c8 f8 HX6 hB6
          obtain ⟨W7, hW7⟩ : ∃ W7, W7 = W6.setCell ⟨B8, t, none⟩ (.bool true) := ⟨_, rfl⟩
          rw [← hW7] at HX7 hB7 ⊢
          clear hW7
          go_wp2_with (refine wpList_load_row rfl 44 _ rfl B8 rfl 44 _ (0, 0) _ HX7.out Try.underlying44 rfl bsInfo ?_)
          refine Calls.mono (list_any _ _) ?_
          rintro e w9 ⟨v9, rfl, hO, hb⟩
          have hB9 := hB7.trans (hb.mono hB7.size)
          have HO := hide (own_lower hO hB7.size)
          clear hO hb
          go_wp2_with fail
          refine bodyPost_ret (v := .tuple #[v9, .bool true]) (by simp [results, Try.results7, go_sem]) rfl ?_
          exact ⟨_, by rw [HRe.out], by rw [loR, HRe.out, if_pos rfl, show ((f : Int)).toNat = f by omega, show ((t : Int)).toNat = t by omega]; exact HO.out, hB9⟩
      · have HRe := hide (loB_row (nt := nt) hf hm)
        rw [decide_eq_false hm]
        clear hm
        go_wp2_with fail
        refine bodyPost_ret (v := .tuple #[.slice none 0 0, .bool false]) (by simp [results, Try.results7, go_sem]) rfl ?_
        exact ⟨_, by rw [HRe.out], by rw [loR, HRe.out]; exact World.ownsRow_nil _ _ _ _, hB1⟩
    · have HRe := hide (loB_out (nt := nt) hin)
      have hbe : beB nf L.length = false := by
        rw [Bool.eq_false_iff]; intro h1; simp [beB] at h1; exact hin h1
      clear hin
      go_wp2_with fail
      refine Calls.mono (isBelow_g nf L.length _) ?_
      rintro e w2 ⟨rfl, hw⟩
      obtain rfl := hw.symm
      rw [hbe]
      go_wp2_with fail
      refine bodyPost_ret (v := .tuple #[.slice none 0 0, .bool false]) (by simp [results, Try.results7, go_sem]) rfl ?_
      exact ⟨_, by rw [HRe.out], by rw [loR, HRe.out]; exact World.ownsRow_nil _ _ _ _, hB1⟩
  · rw [Bool.not_eq_true] at hg
    have HRe := hide (loB_bad (nf := nf) (nt := nt) hg)
    rw [hg]
    clear hg
    go_wp2_with fail
    refine bodyPost_ret (v := .tuple #[.slice none 0 0, .bool false]) (by simp [results, Try.results7, go_sem]) rfl ?_
    exact ⟨_, by rw [HRe.out], by rw [loR, HRe.out]; exact World.ownsRow_nil _ _ _ _, hB1⟩

set_option maxHeartbeats 16000000 in
theorem specLoop_any (v : Value) (L : List (List Int)) (nf nt : Int) (w : World) (h : GRow w v L) :
    Calls Try.prog 5 #[v, .int .i64 nf, .int .i64 nt] w fun e w' => ∃ v', e = .returned (.tuple #[v', .bool (loB L nf nt)]) ∧ NV w' v' (loR L nf nt) ∧ Below w.heap.size w w' := by
  obtain ⟨ad, c, rfl, hR, hs, hlc⟩ := h
  have hB0 : Below w.heap.size w (w.alloc (.cells #[.slice ad L.length c] 29)) := (Below.refl _ _).alloc (Nat.le_refl _) _
  have HX := hide (Bx.new w #[.slice ad L.length c] 29)
  have HV : Hid (∀ w', Below w.heap.size w w' → GRow w' (.agg #[.slice ad L.length c]) L) := hide (fun w' hb => ⟨ad, c, rfl, hR.below hb, hs, hlc⟩)
  have hR0 := hR
  have hl := hs.1
  clear hR hs hlc
  go_enter Try.func5, Try.ntmps5
  go_wp2_with fail
  refine Calls.mono (specGoodG_any _ L _ (HV.out _ hB0)) ?_
  rintro e w1 ⟨rfl, hb⟩
  have hB1 := hB0.trans (hb.mono hB0.size)
  have HX1 := hide (HX.out.below hb HX.out.lt)
  clear hb hB0 HX
  have cx := HX1.out.c
  have lx := HX1.out.lt
  by_cases hg : goodG L = true
  · have HGG := hide (goodG_iff.1 hg)
    have hl12 := HGG.out.2.1
    have Hg := hide hg
    rw [hg]
    clear hg
    by_cases hf0 : nf < 0
    · have HRe := hide (loB_out (L := L) (nf := nf) (nt := nt) (by omega))
      go_wp2_with fail
      refine bodyPost_ret (v := .tuple #[.slice none 0 0, .bool false]) (by simp [results, Try.results5, go_sem]) rfl ?_
      exact ⟨_, by rw [HRe.out], .inl ⟨rfl, by rw [loR, HRe.out]; rfl⟩, hB1⟩
    by_cases hfn : (L.length : Int) ≤ nf
    · have HRe := hide (loB_out (L := L) (nf := nf) (nt := nt) (by omega))
      go_wp2_with fail
      refine bodyPost_ret (v := .tuple #[.slice none 0 0, .bool false]) (by simp [results, Try.results5, go_sem]) rfl ?_
      exact ⟨_, by rw [HRe.out], .inl ⟨rfl, by rw [loR, HRe.out]; rfl⟩, hB1⟩
    obtain ⟨f, rfl⟩ : ∃ f : Nat, nf = (f : Int) := ⟨nf.toNat, by omega⟩
    have hf : f < L.length := by omega
    have hf' : (f : Int) < (L.length : Int) := by omega
    have HBd := hide (fun (x : Int) (hx : x ∈ L[f]) => (HGG.out.2.2 f hf).mem hx)
    by_cases ht0 : nt < 0
    · have HRe := hide (loB_row (nt := nt) hf (fun hm => by have := HBd.out nt hm; omega))
      go_wp2_with fail
      refine bodyPost_ret (v := .tuple #[.slice none 0 0, .bool false]) (by simp [results, Try.results5, go_sem]) rfl ?_
      exact ⟨_, by rw [HRe.out], .inl ⟨rfl, by rw [loR, HRe.out]; rfl⟩, hB1⟩
    by_cases htn : (L.length : Int) ≤ nt
    · have HRe := hide (loB_row (nt := nt) hf (fun hm => by have := HBd.out nt hm; omega))
      go_wp2_with fail
      refine bodyPost_ret (v := .tuple #[.slice none 0 0, .bool false]) (by simp [results, Try.results5, go_sem]) rfl ?_
      exact ⟨_, by rw [HRe.out], .inl ⟨rfl, by rw [loR, HRe.out]; rfl⟩, hB1⟩
    obtain ⟨t, rfl⟩ : ∃ t : Nat, nt = (t : Int) := ⟨nt.toNat, by omega⟩
    have ht : t < L.length := by omega
    have ht' : (t : Int) < (L.length : Int) := by omega
    obtain ⟨b, oo, v, rfl, hb, p0w, pv⟩ := QRow.at hR0 (Below.refl _ _) hf
    have p0 := (hB1.cell (p := ⟨b, oo + f, none⟩) hb).trans p0w
    obtain ⟨ad1, c1, rfl, pr, -⟩ := pv
    have pr1 := RRow.below pr hB1
    have hll : L[f].length ≤ 12 := by have := (HGG.out.2.2 f hf).len; omega
    have HCn := hide (l1Has_row ad1 c1 L[f] (t : Int) w1 pr1 (by omega))
    obtain ⟨ln, hln⟩ : ∃ ln, ln = L[f].length := ⟨_, rfl⟩
    rw [← hln] at p0 HCn
    clear hln pr pr1 p0w hll
    go_wp2_with fail
    refine Calls.mono HCn.out ?_
    rintro e w2 ⟨rfl, hw⟩
    obtain rfl := hw.symm
    clear p0 HCn
    by_cases hm : (t : Int) ∈ L[f]
    · have HLb := hide (loB_nat Hg.out hf hm)
      rw [decide_eq_true hm]
      clear hm
      go_wp2_with fail
      refine Calls.mono (l10Dom_any _ L _ (HV.out _ hB1) HGG.out) ?_
      rintro e w3 ⟨S, rfl, -, hQ, hb3⟩
      have hB3 := hB1.trans (hb3.mono hB1.size)
      have HX3 := hide (HX1.out.below hb3 HX1.out.lt)
      obtain ⟨y, cy, hNy⟩ := hQ.at (q := f) (by rw [dls_len]; exact hf)
      rw [dls_at] at hNy
      obtain ⟨ay, cyy, rfl, -⟩ := hNy.form
      have hyl := dl_len L f
      have HNy := hide hNy
      obtain ⟨DL, hDL⟩ : ∃ DL, DL = dl L f := ⟨_, rfl⟩
      rw [← hDL] at cy HNy hyl
      have HMm : Hid (decide ((t : Int) ∈ DL) = dm L f t) := hide (by rw [hDL, Bool.eq_iff_iff, decide_eq_true_eq, dl_mem HGG.out, dm_iff])
      clear hNy hDL hQ hb3 cx lx HX1 hB1
      go_wp2_with fail
      refine Calls.mono (l1Has_v _ DL (t : Int) _ HNy.out (by omega)) ?_
      rintro e w4 ⟨rfl, hw⟩
      obtain rfl := hw.symm
      rw [HMm.out]
      clear cy
      obtain ⟨q, hq⟩ : ∃ q, q = dm L f t := ⟨_, rfl⟩
      rw [← hq] at HLb ⊢
      clear hq
      cases q with
      | false =>
        have HRe := HLb
        go_wp2_with fail
        refine bodyPost_ret (v := .tuple #[.slice none 0 0, .bool false]) (by simp [results, Try.results5, go_sem]) rfl ?_
        exact ⟨_, by rw [HRe.out], .inl ⟨rfl, by rw [loR, HRe.out]; rfl⟩, hB3⟩
      | true =>
        have HRe := HLb
        have HN0 : Hid (NV (w3.alloc (.cells #[.int .i64 (t : Int)] 3)) (.slice (some ⟨w3.heap.size, 0, none⟩) 1 1) [(t : Int)]) := hide (.inr ⟨w3.heap.size, 0, 1, rfl, Nat.le_refl _, by simp, fun i hi => by
          obtain rfl : i = 0 := by simpa using hi
          rw [(Bx.new w3 #[.int .i64 (t : Int)] 3).c]
          rfl⟩)
        have hB4 : Below w.heap.size w (w3.alloc (.cells #[.int .i64 (t : Int)] 3)) := hB3.alloc hB3.size _
        have HX4 := hide (HX3.out.alloc (.cells #[.int .i64 (t : Int)] 3))
        go_wp2_with fail
        refine Calls.mono (l1Put_any _ [(t : Int)] (f : Int) _ HN0.out (by simp)) ?_
        rintro e W0 ⟨v9, rfl, hN9, hb9⟩
        have hBw := hB4.trans (hb9.mono hB4.size)
        have HX := hide (HX4.out.below hb9 HX4.out.lt)
        have HN9 := hide hN9
        have HI9 := hide (LInv.start (L := L) hf ht)
        clear hN9 hb9 hB4 hB3 HX4 HX3 HN0
        go_upto_region 5 with fail
        go_loopw [9] (fun v5 w' => ∃ o : List Int, NV w' v5 o ∧ LInv L f t o ∧ Below W0.heap.size W0 w') (fun v5 _ => 12 - slLen v5)
        case atStart => exact ⟨_, HN9.out, HI9.out, Below.refl _ _⟩
        case round =>
          clear HN9 HI9
          obtain ⟨o, hN, hI, hB⟩ := hrel
          obtain ⟨a5, c5, rfl, -⟩ := hN.form
          have ho12 := hI.len HGG.out
          have HN := hide hN
          have HI := hide hI
          have HB := hide hB
          clear hN hI hB
          have X := HX.out.below HB.out HX.out.lt
          have cx := X.c
          have hbs : w.heap.size < wr.heap.size := X.lt
          obtain ⟨N0, hN0⟩ : ∃ N0, N0 = o.length := ⟨_, rfl⟩
          have HN0 := hide hN0
          rw [← hN0] at ho12 ⊢
          clear hN0
          go_wp2_with fail
          clear cx X
          go_loopw [9, 68] (fun v5 i w' => ∃ (j : Nat) (o' : List Int), j ≤ L.length ∧ i = .int .i64 j ∧ NV w' v5 o' ∧ LInv L f t o' ∧ N0 ≤ o'.length ∧ (o'.length = N0 → ∀ k, k < j → LCl L t o' k) ∧ Below W0.heap.size W0 w') (fun _ i _ => L.length - (intOf i).toNat)
          case atStart => exact ⟨0, o, by omega, rfl, by rw [HN0.out]; exact HN.out, HI.out, by rw [HN0.out]; omega, by intros; omega, HB.out⟩
          case round =>
            clear HN HI HB
            obtain ⟨j, o', hj, rfl, hN, hI, hle, hcl, hB⟩ := hrel
            obtain ⟨a6, c6, rfl, -⟩ := hN.form
            have ho2 := hI.len HGG.out
            have HN := hide hN
            have HI := hide hI
            have HB := hide hB
            have HC := hide hcl
            have HLe := hide hle
            clear hN hI hB hcl hle
            by_cases hlt : j < L.length
            · have hlt' : (j : Int) < (L.length : Int) := by omega
              have HBw := hide (hBw.trans (HB.out.mono hBw.size))
              obtain ⟨b2, oo2, v2, e2, hb2, p0w, pv⟩ := QRow.at hR0 (Below.refl _ _) hlt
              simp only [Option.some.injEq, Addr.mk.injEq, and_true] at e2
              obtain ⟨rfl, rfl⟩ := e2
              have p0 := (HBw.out.cell (p := ⟨b, oo + j, none⟩) hb).trans p0w
              obtain ⟨ad2, c2, rfl, pr, -⟩ := pv
              obtain ⟨l, hl1⟩ : ∃ l, l = L[j] := ⟨_, rfl⟩
              rw [← hl1] at p0 pr
              have HL := hide hl1
              have HP := hide pr
              have hll : l.length ≤ 12 := by
                have := (HGG.out.2.2 j hlt).len
                rw [← hl1] at this
                omega
              clear hl1 pr p0w hb2
              go_wp2_with fail
              clear p0 HBw
              go_loopw [9, 75] (fun v5 i w' => ∃ (m : Nat) (o2 : List Int), m ≤ l.length ∧ i = .int .i64 m ∧ NV w' v5 o2 ∧ LInv L f t o2 ∧ N0 ≤ o2.length ∧ (o2.length = N0 → (∀ k, k < j → LCl L t o2 k) ∧ ∀ q (hq : q < l.length), q < m → l[q] ≠ (t : Int) → l[q] ∈ o2 → (j : Int) ∈ o2) ∧ Below W0.heap.size W0 w') (fun _ i _ => l.length - (intOf i).toNat)
              case atStart => exact ⟨0, o', by omega, rfl, HN.out, HI.out, HLe.out, fun h => ⟨HC.out h, by intros; omega⟩, HB.out⟩
              case round =>
                clear HN HI HB HC HLe ho2
                obtain ⟨m, o2, hm, rfl, hN, hI, hle, hcl, hB⟩ := hrel
                obtain ⟨a7, c7, rfl, -⟩ := hN.form
                have ho2 := hI.len HGG.out
                have HN := hide hN
                have HI := hide hI
                have HB := hide hB
                have HC := hide hcl
                have HLe := hide hle
                clear hN hI hB hcl hle
                by_cases hlm : m < l.length
                · have hlm' : (m : Int) < (l.length : Int) := by omega
                  have HBw := hide (hBw.trans (HB.out.mono hBw.size))
                  obtain ⟨b1, o1, rfl, hb1, p0⟩ := IRow.iat HP.out HBw.out hlm
                  obtain ⟨x, hx⟩ : ∃ x, x = l[m] := ⟨_, rfl⟩
                  rw [← hx] at p0
                  have HXx := hide hx
                  have HXm : Hid (x ∈ L[j]) := hide (by rw [hx, ← HL.out]; exact List.getElem_mem hlm)
                  clear hx HBw hb1
                  have HNx : Hid ((x ≠ (t : Int) → x ∈ o2 → (j : Int) ∈ o2) → o2.length = N0 → (∀ k, k < j → LCl L t o2 k) ∧ ∀ q (hq : q < l.length), q < m + 1 → l[q] ≠ (t : Int) → l[q] ∈ o2 → (j : Int) ∈ o2) := hide (fun hh h => ⟨(HC.out h).1, fun q hq hqm hne hin => by
                    by_cases e : q = m
                    · subst e; rw [← HXx.out] at hne hin; exact hh hne hin
                    · exact (HC.out h).2 q hq (by omega) hne hin⟩)
                  by_cases hxn : x = (t : Int)
                  · have HC2 := hide (HNx.out (fun h => absurd hxn h))
                    clear HNx HXm HXx
                    subst hxn
                    go_wp2_with fail
                    exact ⟨⟨m + 1, o2, by omega, by go_num, HN.out, HI.out, HLe.out, HC2.out, HB.out⟩, by simp [intOf]; omega⟩
                  · have hxb : (x == (t : Int)) = false := beq_eq_false_iff_ne.2 hxn
                    have Hxn := hide hxn
                    clear hxn
                    go_wp2_with fail
                    refine Calls.mono (l1Has_v _ o2 x _ HN.out (by omega)) ?_
                    rintro e w6 ⟨rfl, hw⟩
                    obtain rfl := hw.symm
                    by_cases hmem : x ∈ o2
                    · rw [decide_eq_true hmem]
                      have HI2 := hide (HI.out.put HGG.out hlt HXm.out Hxn.out hmem)
                      have hgr := putL_grow (j : Int) HI.out.1
                      have HC2 : Hid ((putL o2 (j : Int)).length = N0 → (∀ k, k < j → LCl L t (putL o2 (j : Int)) k) ∧ ∀ q (hq : q < l.length), q < m + 1 → l[q] ≠ (t : Int) → l[q] ∈ putL o2 (j : Int) → (j : Int) ∈ putL o2 (j : Int)) := hide (fun h => by
                        have hle := HLe.out
                        have hin := hgr.2 (by omega)
                        rw [putL_old (j : Int) o2 HI.out.1 hin] at h ⊢
                        exact HNx.out (fun _ _ => hin) h)
                      have HLe2 : Hid (N0 ≤ (putL o2 (j : Int)).length) := hide (Nat.le_trans HLe.out hgr.1)
                      clear hgr hmem p0
                      go_wp2_with fail
                      refine Calls.mono (l1Put_any _ o2 (j : Int) _ HN.out (by omega)) ?_
                      rintro e w7 ⟨v7, rfl, hN7, hb7⟩
                      have HN7 := hide hN7
                      have HB7 := hide (HB.out.trans (hb7.mono HB.out.size))
                      clear hN7 hb7
                      go_wp2_with fail
                      exact ⟨⟨m + 1, _, by omega, by go_num, HN7.out, HI2.out, HLe2.out, HC2.out, HB7.out⟩, by simp [intOf]; omega⟩
                    · rw [decide_eq_false hmem]
                      have HC2 := hide (HNx.out (fun _ h => absurd h hmem))
                      clear hmem p0
                      go_wp2_with fail
                      exact ⟨⟨m + 1, o2, by omega, by go_num, HN.out, HI.out, HLe.out, HC2.out, HB.out⟩, by simp [intOf]; omega⟩
                · have HC2 : Hid (o2.length = N0 → ∀ k, k < j + 1 → LCl L t o2 k) := hide (fun h k hk => by
                    by_cases e : k = j
                    · subst e
                      intro hkl y hy hn hin
                      rw [← HL.out] at hy
                      obtain ⟨q, hq, rfl⟩ := List.getElem_of_mem hy
                      exact (HC.out h).2 q hq (by omega) hn hin
                    · exact (HC.out h).1 k (by omega))
                  go_wp2_with fail
                  exact ⟨⟨j + 1, o2, by omega, by go_num, HN.out, HI.out, HLe.out, HC2.out, HB.out⟩, by simp [intOf]; omega⟩
            · have hle := HLe.out
              by_cases he : o'.length = N0
              · have HF := hide (HI.out.done HGG.out (fun k hk => HC.out he k (by omega)))
                have he2 : ((o'.length : Int) == (N0 : Int)) = true := by rw [beq_iff_eq]; omega
                have HB2 := hide (hBw.trans (HB.out.mono hBw.size))
                obtain ⟨NL, hNL⟩ : ∃ NL, NL = o'.length := ⟨_, rfl⟩
                rw [← hNL] at he2 ⊢
                have HN2 : Hid (NV wr (.slice a6 NL c6) o') := hide (by rw [hNL]; exact HN.out)
                clear he hle hNL
                go_wp2_with fail
                refine bodyPost_ret (v := .tuple #[.slice a6 NL c6, .bool true]) (by simp [results, Try.results5, go_sem]) rfl ?_
                exact ⟨_, by rw [HRe.out], by rw [loR, HRe.out, if_pos rfl, show ((f : Int)).toNat = f by omega, show ((t : Int)).toNat = t by omega, ← HF.out]; exact HN2.out, HB2.out⟩
              · have he2 : ((o'.length : Int) == (N0 : Int)) = false := beq_eq_false_iff_ne.2 (by omega)
                have hgt : N0 < o'.length := by omega
                have HGt := hide hgt
                have HH := hide ho2
                clear he hle hgt
                go_wp2_with fail
                refine ⟨⟨o', HN.out, HI.out, HB.out⟩, ?_⟩
                have := HGt.out
                have := HH.out
                have := HN0.out
                simp [slLen]
                omega
    · have HRe := hide (loB_row hf hm)
      rw [decide_eq_false hm]
      clear hm
      go_wp2_with fail
      refine bodyPost_ret (v := .tuple #[.slice none 0 0, .bool false]) (by simp [results, Try.results5, go_sem]) rfl ?_
      exact ⟨_, by rw [HRe.out], .inl ⟨rfl, by rw [loR, HRe.out]; rfl⟩, hB1⟩
  · rw [Bool.not_eq_true] at hg
    have HRe := hide (loB_bad (nf := nf) (nt := nt) hg)
    rw [hg]
    clear hg
    go_wp2_with fail
    refine bodyPost_ret (v := .tuple #[.slice none 0 0, .bool false]) (by simp [results, Try.results5, go_sem]) rfl ?_
    exact ⟨_, by rw [HRe.out], .inl ⟨rfl, by rw [loR, HRe.out]; rfl⟩, hB1⟩
end Go.Proofs.Ytangkpbehpgmiab.W

/-
  What rows miss, by the specification: l8Missed behind constructors, and whole. Conditions: good rows. Written by wip/build/mk_mtf.py.
-/
import Derived.Test.YtfepljcblajfpabMtE
namespace Go.Proofs.Ytfepljcblajfpab.W
open Go.ChangeShapes Go.WideShapes Go.ChangeAt Go.RowKit
set_option linter.unusedVariables false
set_option linter.unusedSimpArgs false

theorem F.cutAt : ∀ (n : Nat) (b : F), n ≤ b.len → ∃ k r : F, b = k.app r ∧ k.len = n
  | 0, b, _ => ⟨.nil, b, rfl, rfl⟩
  | n + 1, .nil, h => by simp [F.len] at h
  | n + 1, .cons x k r, h => by
    obtain ⟨a, c, e, hl⟩ := F.cutAt n r (by simp [F.len] at h; omega)
    exact ⟨.cons x k a, c, by rw [e]; rfl, by simp [F.len, hl]⟩
theorem sc_nil {w : World} {z : Nat} : Sc w (.slice none 0 0) 0 z [] := ⟨by simp, fun u hu => (by cases hu), .inl ⟨rfl, rfl⟩⟩
/-- A row cut in two. -/
theorem GT.cut {w : World} {P : Nat → Prop} {k r : F} {g o n c : Nat} (h : GT w P (k.app r) (.slice (some ⟨g, o, none⟩) n c)) : ∃ ck cr, (∀ w', Below w.heap.size w w' → GAt w' P k ck ∧ Sc w' (.slice (some ⟨g, o, none⟩) k.len c) k.len 2 ck) ∧
    ∀ q c2, (r.len = 0 ∨ q = o + k.len * 2) → ∀ w', Below w.heap.size w w' → GAt w' P r cr ∧ Sc w' (.slice (some ⟨g, q, none⟩) r.len c2) r.len 2 cr := by
  obtain ⟨cs, h1, h2⟩ := h
  obtain ⟨ck, cr, rfl, hk, hr⟩ := GAt.split h1
  have hl := hk.len
  rcases h2 with ⟨e, _⟩ | ⟨g', o', c', e, h4, h5⟩
  · cases e
  · simp only [Value.slice.injEq, Option.some.injEq, Addr.mk.injEq] at e
    obtain ⟨⟨rfl, rfl, -⟩, rfl, rfl⟩ := e
    have kp : ∀ w', Below w.heap.size w w' → ∀ k, P k → k < w.heap.size → w'.heap[k]? = w.heap[k]? ∧ P k := fun w' hb k hp hk => ⟨hb.block k hk, hp⟩
    have cell : ∀ w', Below w.heap.size w w' → ∀ j v, (ck ++ cr)[j]? = some v → w'.cell? ⟨g, o + j, none⟩ = some v := fun w' hb j v hj => by
      rcases h4 with h4 | ⟨h4, h6⟩
      · have := (List.getElem?_eq_some_iff.1 hj).1
        rw [h1.len, h4] at this
        simp at this
      · exact (hb.cell (p := ⟨g, o + j, none⟩) h6).trans (h5 j v hj)
    refine ⟨ck, cr, fun w' hb => ⟨hk.keep hb.size (kp w' hb), hl, hk.one, .inr ⟨_, _, rfl, fun j u hj => ?_⟩⟩, fun q c2 hq w' hb => ⟨hr.keep hb.size (kp w' hb), hr.len, hr.one, .inr ⟨_, _, rfl, fun j u hj => ?_⟩⟩⟩
    · rw [Addr.add_lit]
      exact cell w' hb j u (by rw [List.getElem?_append_left (List.getElem?_eq_some_iff.1 hj).1]; exact hj)
    · rw [Addr.add_lit]
      have hlt := (List.getElem?_eq_some_iff.1 hj).1
      rw [hr.len] at hlt
      have hq' : q = o + k.len * 2 := by
        rcases hq with hq | hq
        · rw [hq] at hlt; omega
        · exact hq
      rw [hq', Nat.add_assoc, ← hl]
      exact cell w' hb _ u (by rw [List.getElem?_append_right (by omega), Nat.add_sub_cancel_left]; exact hj)
theorem opn_anys (D : List Int) (c m : Nat) : opn D c (anys (m + 1)) = some (anys (nP D c + m)) := by
  rw [anys, opn_any rfl, anys_app]
theorem wn_anys {D : List Int} (hd : goodD D = true) {m : Nat} {R : List F} (hw : WR D (anys (m + 1)) R) (hR : R ≠ []) (hn : R.any nam1 = true) :
    wn D (anys (m + 1)) R = fstS (fun c => (wn D (anys (nP D c + m)) (R.filterMap (opn D c))).map ((⟨2, (c : Int)⟩ : Pt) :: ·)) D.length D.length := by
  have h := wn_con hd (x := ⟨1, 0⟩) (k := .nil) (r := anys m) hw hR (by rw [hn]; simp)
  have e : wn D (anys (m + 1)) R = wn D (.cons ⟨1, 0⟩ .nil (anys m)) R := rfl
  rw [e, h]
  refine fstS_congr (fun c => ?_) _ _
  have := opn_anys D c m
  rw [anys] at this
  rw [this]

set_option maxRecDepth 20000 in
set_option maxHeartbeats 8000000 in
theorem missed_con (f : Nat) (D : List Int) (hd : goodD D = true) (da : Option Addr) (dc : Nat) (R : List F) (many : Nat) (vR : Value) (w : World) (hD : DRow w (.agg #[.slice da D.length dc]) D) (hV : RV w vR R) (hwr : WR D (anys many) R) (ih : (∀ (R : List F) (many : Nat) (vR : Value) (w : World), mea (anys many) R < f → WR D (anys many) R → DRow w (.agg #[.slice da D.length dc]) D → RV w vR R → Calls Try.prog 26 #[.agg #[.slice da D.length dc], vR, .int .i64 (many : Int)] w fun e w' => MOut D R many w' e ∧ Below w.heap.size w w')) (hf : mea (anys many) R < f + 1) (hR : R ≠ []) (hm0 : 0 < many) (hn : R.any nam1 = true) :
    Calls Try.prog 26 #[.agg #[.slice da D.length dc], vR, .int .i64 (many : Int)] w fun e w' => MOut D R many w' e ∧ Below w.heap.size w w' := by
  obtain ⟨m, rfl⟩ : ∃ m, many = m + 1 := ⟨many - 1, by omega⟩
  have hwn := wn_anys hd hwr hR hn
  have HNar : Hid (∀ (j : Nat) (w' : World), j < D.length → Below w.heap.size w w' → Calls Try.prog 39 #[.agg #[.slice da D.length dc], vR, .int .i64 (j : Int)] w' fun e w'' => ∃ v', e = .returned v' ∧ RV w'' v' (R.filterMap (opn D j)) ∧ Below w'.heap.size w' w'') := hide (fun j w' hj hb => l8Narrow_any _ D _ R j w' (hD.below hb) hd hj (hV.below hb) (fun b hb => by
    have h1 := hwr.oks b hb
    have h2 := hwr.big
    rw [anys_flat_len] at h2
    rw [anys_len] at h1
    exact ⟨h1.1, by omega, by omega⟩) hwr.few)
  have HRec : Hid (∀ (j : Nat) (w' : World) (v' : Value), j < D.length → Below w.heap.size w w' → RV w' v' (R.filterMap (opn D j)) → Calls Try.prog 26 #[.agg #[.slice da D.length dc], v', .int .i64 ((nP D j + m : Nat) : Int)] w' fun e w'' => MOut D (R.filterMap (opn D j)) (nP D j + m) w'' e ∧ Below w'.heap.size w' w'') := hide (fun j w' v' hj hb hq => by
    obtain ⟨w1, w2⟩ := WR.opn hd hwr (opn_anys D j m) (.inr hn)
    exact ih _ _ v' w' (by omega) w1 (hD.below hb) hq)
  obtain ⟨g, hg⟩ : ∃ g : Nat → Option (List Pt), g = fun c => (wn D (anys (nP D c + m)) (R.filterMap (opn D c))).map ((⟨2, (c : Int)⟩ : Pt) :: ·) := ⟨_, rfl⟩
  rw [← hg] at hwn
  have Hg : Hid (∀ c : Nat, g c = (wn D (anys (nP D c + m)) (R.filterMap (opn D c))).map ((⟨2, (c : Int)⟩ : Pt) :: ·)) := hide (fun c => by rw [hg])
  have HWn : Hid (wn D (anys (m + 1)) R = fstS g D.length (D.length - 0)) := hide (by rw [Nat.sub_zero]; exact hwn)
  have hDl4 := (goodD_len hd).1
  have HIr : Hid (IRow w da D) := hide (by
    obtain ⟨da', dc', e, h1, h2⟩ := hD
    cases e
    exact h1)
  clear hwn hg
  have HD := hide hD
  have HV := hide hV
  have Hd := hide hd
  have Hwr := hide hwr
  have HIh := hide ih
  have hRl : 0 < R.length := List.length_pos_iff.2 hR
  have h8 := hwr.few
  have hm : m + 1 ≤ 1000 := by have := hwr.big; rw [anys_flat_len] at this; omega
  obtain ⟨ra, rc, rfl, -⟩ := hV.form
  obtain ⟨RN, hRN⟩ : ∃ RN, RN = R.length := ⟨_, rfl⟩
  rw [← hRN] at hRl h8 HV ⊢
  have HRN := hide hRN
  have hn0 : ¬ (RN : Int) = 0 := by omega
  have hnb : ((RN : Int) == 0) = false := beq_false_of_ne (by omega)
  have hmz : ¬ (m : Int) + 1 = 0 := by omega
  have hmb : ((m : Int) + 1 == 0) = false := beq_false_of_ne (by omega)
  have hmp : (0 : Int) < (m : Int) + 1 := by omega
  have HB0 := hide (show Below w.heap.size w (w.alloc (.cells #[.slice da D.length dc] 31)) from (Below.refl _ _).alloc (Nat.le_refl _) _)
  have HX0 := hide (Bx.new w #[.slice da D.length dc] 31)
  have HLen : Hid (∀ b ∈ R, b.ok D ∧ b.len = m + 1) := hide (fun b hb => by have := hwr.oks b hb; rw [anys_len] at this; exact this)
  obtain ⟨NM, hNM⟩ : ∃ NM, NM = R.any nam1 := ⟨_, rfl⟩
  have HNM := hide hNM
  skip
  clear hD hV hd hwr ih hR hRN hNM
  rw [show ((m + 1 : Nat) : Int) = (m : Int) + 1 from by omega]
  go_enter Try.func26, Try.ntmps26
  go_wp2_with fail
  go_loopw [8, 29] (fun s i w' => ∃ j : Nat, j ≤ RN ∧ i = .int .i64 j ∧ s = .bool ((R.take j).any nam1) ∧ Bx w' w.heap.size #[.slice da D.length dc] 31 ∧ Below w.heap.size w w') (fun _ i _ => RN - (intOf i).toNat)
  case atStart => exact ⟨0, Nat.zero_le _, rfl, by simp, HX0.out, HB0.out⟩
  case round =>
    clear HX0 HB0
    obtain ⟨j, hj, rfl, rfl, hX, hB⟩ := hrel
    have HX := hide hX
    have xl := hX.lt
    have hsz := hB.size
    clear hX
    by_cases hlt : j < RN
    · have hltR : j < R.length := by have := HRN.out; omega
      have hlt' : (j : Int) < (RN : Int) := by omega
      obtain ⟨b, o, rc', u, e1, hb, p0, gu, cu⟩ := RV.at HV.out hB hltR
      simp only [Value.slice.injEq] at e1
      obtain ⟨rfl, -, rfl⟩ := e1
      obtain ⟨ok, hl⟩ := HLen.out R[j] (List.getElem_mem hltR)
      have htk := take_any hltR
      obtain ⟨a, ha⟩ : ∃ a, a = R[j] := ⟨_, rfl⟩
      rw [← ha] at gu ok hl htk
      clear ha
      cases a with
      | nil => simp [F.len] at hl
      | cons x k r =>
        obtain ⟨g, o2, cc, sx, rfl, hcc, hgw, hgl, gk, q0, q1, tl⟩ := gu.head cu
        rw [tcon_nam ok.1] at htk
        obtain ⟨Y, hY⟩ : ∃ Y, Y = tcon x := ⟨_, rfl⟩
        rw [← hY] at q0 htk
        obtain ⟨RL, hRL⟩ : ∃ RL, RL = r.len := ⟨_, rfl⟩
        rw [← hRL] at p0
        have HTk := hide htk
        obtain ⟨W1, hW1⟩ : ∃ W1, W1 = wr.alloc (.cells #[.slice (some ⟨g, o2, none⟩) (RL + 1) cc] 70) := ⟨_, rfl⟩
        have hb1 : Below wr.heap.size wr W1 := by rw [hW1]; exact (Below.refl _ _).alloc (Nat.le_refl _) _
        have HX1 := hide (HX.out.below hb1 xl)
        have HB1 : Hid (Below w.heap.size w W1) := hide (hB.trans (hb1.mono hsz))
        have HW1 := hide hW1
        clear tl gk htk ok hRL gu cu hl hY hW1 hb1 q1 HX
        cases hnm : (R.take j).any nam1 with
        | true =>
          rw [hnm] at HTk
          have HT2 : Hid ((R.take (j + 1)).any nam1 = true) := hide (by rw [HTk.out]; rfl)
          clear hnm HTk
          go_wp2_with fail
          rw [← HW1.out]
          exact ⟨⟨j + 1, by omega, by go_num, by rw [HT2.out], HX1.out, HB1.out⟩, by simp [intOf]; omega⟩
        | false =>
          rw [hnm] at HTk
          clear hnm
          by_cases hY0 : 0 ≤ Y
          · have HT2 : Hid ((R.take (j + 1)).any nam1 = true) := hide (by rw [HTk.out]; simp [hY0])
            clear HTk
            go_wp2_with fail
            rw [← HW1.out]
            exact ⟨⟨j + 1, by omega, by go_num, by rw [HT2.out], HX1.out, HB1.out⟩, by simp [intOf]; omega⟩
          · have HT2 : Hid ((R.take (j + 1)).any nam1 = false) := hide (by rw [HTk.out]; simp [hY0])
            clear HTk
            go_wp2_with fail
            rw [← HW1.out]
            exact ⟨⟨j + 1, by omega, by go_num, by rw [HT2.out], HX1.out, HB1.out⟩, by simp [intOf]; omega⟩
    · obtain rfl : j = RN := by omega
      have hnt : (R.take j).any nam1 = NM := by rw [HRN.out, List.take_length, HNM.out]
      rw [hnt]
      have hNf : NM = true := by rw [HNM.out, hn]
      rw [hNf]
      have HXa0 := HX
      have HBa0 := hide hB
      have cx := HX.out.c
      have hRj : R.length = j := HRN.out.symm
      rw [hRj] at HNar
      obtain ⟨RN, hRNj⟩ : ∃ RN, RN = j := ⟨_, rfl⟩
      rw [← hRNj] at hRl h8 HV hn0 hnb HRN HNar ⊢
      clear hnt hNf hB HX xl hsz hlt hj HNM HIh hRj hRNj
      go_wp2_with fail
      clear cx
      go_loopw [74] (fun i w' => ∃ j : Nat, j ≤ D.length ∧ i = .int .i64 j ∧ Hid (wn D (anys (m + 1)) R = fstS g D.length (D.length - j)) ∧ Bx w' w.heap.size #[.slice da D.length dc] 31 ∧ Below w.heap.size w w') (fun i _ => D.length - (intOf i).toNat)
      case atStart => exact ⟨0, Nat.zero_le _, rfl, HWn, HXa0.out, HBa0.out⟩
      case round =>
        clear HWn HXa0 HBa0
        obtain ⟨j, hj, rfl, HWn, hX, hB⟩ := hrel
        have HX := hide hX
        have xl := hX.lt
        have hsz := hB.size
        clear hX
        by_cases hlt : j < D.length
        · have hlt' : (j : Int) < (D.length : Int) := by omega
          obtain ⟨db, dO, hda, hdb, hdc⟩ := IRow.iat HIr.out hB hlt
          subst hda
          rw [nP_at Hd.out hlt] at hdc
          have hstep := fstS_step (g := g) hlt
          rw [Hg.out j] at hstep
          have HRj : Hid (∀ (w' : World) (v' : Value), Below w.heap.size w w' → RV w' v' (R.filterMap (opn D j)) → Calls Try.prog 26 #[.agg #[.slice (some ⟨db, dO, none⟩) D.length dc], v', .int .i64 ((nP D j + m : Nat) : Int)] w' fun e w'' => MOut D (R.filterMap (opn D j)) (nP D j + m) w'' e ∧ Below w'.heap.size w' w'') := hide (fun w' v' hb hq => HRec.out j w' v' hlt hb hq)
          unfold MOut at HRj
          have hp2 := nP_le Hd.out j
          obtain ⟨p, hp⟩ : ∃ p, p = nP D j := ⟨_, rfl⟩
          rw [← hp] at hdc hstep HRj hp2
          have HPp := hide hp
          obtain ⟨T, hT⟩ : ∃ T, T = wn D (anys (p + m)) (R.filterMap (opn D j)) := ⟨_, rfl⟩
          rw [← hT] at hstep HRj
          simp only [Int.natCast_add] at HRj
          have HStep := hide hstep
          have hj4 : j ≤ 4 := by omega
          have b0 : wr.cell? ⟨w.heap.size, 0, none⟩ = some (.slice (some ⟨db, dO, none⟩) D.length dc) := HX.out.c 0
          clear hp hT hstep HRec Hg
          go_wp2_with fail
          refine wp_region_noPanic ?_
          refine wp_region_held_drew (S := fun w' => w'.cell? ⟨w.heap.size, 0, none⟩ = some (.slice (some ⟨db, dO, none⟩) D.length dc)) (by kernel_rfl) b0 (fun hHeld => ?_)
          refine wpAnyH_take (i := 0) (oi := _) (v := ?_) rfl (by kernel_rfl) (by kernel_rfl) (by kernel_rfl) (fun _ _ _ h => h) (Or.inl ⟨by rfl, ?_⟩) (by assumption) ?_
          rotate_left 1
          · (intro w hSw; (try dsimp only at hSw); (first | (go_simp; done) | (go_simp; with_reducible rfl)))
          try simp only [Act.put, List.getElem_toArray, List.getElem_cons_zero, List.getElem_cons_succ, List.setIfInBounds_toArray, List.set_cons_zero, List.set_cons_succ]
          refine wpAnyH_take (i := 1) (oi := _) (v := ?_) rfl (by kernel_rfl) (by kernel_rfl) (by kernel_rfl) (fun _ _ _ h => h) (Or.inl ⟨by rfl, ?_⟩) (by assumption) ?_
          rotate_left 1
          · (intro w hSw; (try dsimp only at hSw); (first | (go_simp; done) | (go_simp; with_reducible rfl)))
          try simp only [Act.put, List.getElem_toArray, List.getElem_cons_zero, List.getElem_cons_succ, List.setIfInBounds_toArray, List.set_cons_zero, List.set_cons_succ]
          refine wpAnyH_take (i := 2) (oi := _) (v := ?_) rfl (by kernel_rfl) (by kernel_rfl) (by kernel_rfl) (fun _ _ _ h => h) (Or.inl ⟨by rfl, ?_⟩) (by assumption) ?_
          rotate_left 1
          · (intro w hSw; (try dsimp only at hSw); (first | (go_simp; done) | (go_simp; with_reducible rfl)))
          try simp only [Act.put, List.getElem_toArray, List.getElem_cons_zero, List.getElem_cons_succ, List.setIfInBounds_toArray, List.set_cons_zero, List.set_cons_succ]
          refine wpAnyH_take (i := 3) (oi := _) (v := ?_) rfl (by kernel_rfl) (by kernel_rfl) (by kernel_rfl) (fun _ _ _ h => h) (Or.inl ⟨by rfl, ?_⟩) (by assumption) ?_
          rotate_left 1
          · (intro w hSw; (try dsimp only at hSw); (first | (go_simp; done) | (go_simp; with_reducible rfl)))
          try simp only [Act.put, List.getElem_toArray, List.getElem_cons_zero, List.getElem_cons_succ, List.setIfInBounds_toArray, List.set_cons_zero, List.set_cons_succ]
          refine wpAnyH_take (i := 5) (oi := _) (v := ?_) rfl (by kernel_rfl) (by kernel_rfl) (by kernel_rfl) (fun _ _ _ h => h) (Or.inl ⟨by rfl, ?_⟩) (by assumption) ?_
          rotate_left 1
          · (intro w hSw; (try dsimp only at hSw); (first | (go_simp; done) | (go_simp; with_reducible rfl)))
          try simp only [Act.put, List.getElem_toArray, List.getElem_cons_zero, List.getElem_cons_succ, List.setIfInBounds_toArray, List.set_cons_zero, List.set_cons_succ]
          refine wpAnyH_take (i := 6) (oi := _) (v := .int .i64 (m : Int)) rfl (by kernel_rfl) (by kernel_rfl) (by kernel_rfl) (fun _ _ _ h => h) (Or.inl ⟨by rfl, ?_⟩) (by assumption) ?_
          · (intro w hSw; (try dsimp only at hSw); (first | (go_simp; done) | (go_simp; rw [IntWalk.i64_in _ ⟨by omega, by omega⟩]; try omega)))
          try simp only [Act.put, List.getElem_toArray, List.getElem_cons_zero, List.getElem_cons_succ, List.setIfInBounds_toArray, List.set_cons_zero, List.set_cons_succ]
          refine wpAnyH_take (i := 7) (oi := _) (v := ?_) rfl (by kernel_rfl) (by kernel_rfl) (by kernel_rfl) (fun _ _ _ h => h) (Or.inl ⟨by rfl, ?_⟩) (by assumption) ?_
          rotate_left 1
          · (intro w hSw; (try dsimp only at hSw); (first | (go_simp; done) | (go_simp; with_reducible rfl)))
          try simp only [Act.put, List.getElem_toArray, List.getElem_cons_zero, List.getElem_cons_succ, List.setIfInBounds_toArray, List.set_cons_zero, List.set_cons_succ]
          refine wpAnyH_take (i := 8) (oi := _) (v := .int .i64 ((p : Int) + (m : Int))) rfl (by kernel_rfl) (by kernel_rfl) (by kernel_rfl) (fun _ _ _ h => h) (Or.inl ⟨by rfl, ?_⟩) (by assumption) ?_
          · (intro w hSw; (try dsimp only at hSw); (first | (go_simp; done) | (go_simp; rw [IntWalk.i64_in _ ⟨by omega, by omega⟩]; try omega)))
          try simp only [Act.put, List.getElem_toArray, List.getElem_cons_zero, List.getElem_cons_succ, List.setIfInBounds_toArray, List.set_cons_zero, List.set_cons_succ]
          refine wpAnyH_ready (rs := [4]) (by kernel_rfl) (by simp) ?_
          refine AllReadyH.cons (o := _) rfl (fun K hK => ?_) AllReadyH.nil
          go_simp
          (with_reducible refine Calls.mono (HNar.out j wr.drew hlt (belowDrew8 hB)) ?_)
          rintro r wa ⟨vn, rfl, hrv, hba⟩
          have HRv := hide hrv
          have hBa : Below w.heap.size w wa := (belowDrew8 hB).trans (hba.mono hsz)
          have fa0 := (hba.cell (p := ⟨w.heap.size, 0, none⟩) xl).trans b0
          have HXa := hide (HX.out.drew.below hba xl)
          have xla : w.heap.size < wa.heap.size := Nat.lt_of_lt_of_le xl hba.size
          clear hba
          obtain ⟨na, nc, rfl, -⟩ := hrv.form
          clear hrv
          (try go_wp2_with fail)
          refine hK.out _ _ fa0 (fun hHeld => ?_)
          clear hK K
          try simp only [Act.put, List.getElem_toArray, List.getElem_cons_zero, List.getElem_cons_succ, List.setIfInBounds_toArray, List.set_cons_zero, List.set_cons_succ]
          refine wpAnyH_ready (rs := [9]) (by kernel_rfl) (by simp) ?_
          refine AllReadyH.cons (o := _) rfl (fun K hK => ?_) AllReadyH.nil
          go_simp
          (with_reducible refine Calls.mono (HRj.out wa _ hBa HRv.out) ?_)
          rintro r wb ⟨⟨s9, b9, rfl, hg9, hc9, hl9, hs9⟩, hbb⟩
          have hBb : Below w.heap.size w wb := hBa.trans (hbb.mono hBa.size)
          have fb0 := (hbb.cell (p := ⟨w.heap.size, 0, none⟩) xla).trans fa0
          have HXb := hide (HXa.out.below hbb xla)
          have HG9 := hide hg9
          have HC9 := hide hc9
          have HS9 := hide hs9
          clear hbb hg9 hc9 hs9 hl9
          obtain ⟨a9, c9, hf9⟩ := HG9.out.form
          (try go_wp2_with fail)
          refine hK.out _ _ fb0 (fun hHeld => ?_)
          clear hK K
          try simp only [Act.put, List.getElem_toArray, List.getElem_cons_zero, List.getElem_cons_succ, List.setIfInBounds_toArray, List.set_cons_zero, List.set_cons_succ]
          refine wpAnyH_take (i := 10) (oi := _) (v := ?_) rfl (by kernel_rfl) (by kernel_rfl) (by kernel_rfl) (fun _ _ _ h => h) (Or.inl ⟨by rfl, ?_⟩) (by assumption) ?_
          rotate_left 1
          · (intro w hSw; (try dsimp only at hSw); (first | (go_simp; done) | (go_simp; with_reducible rfl)))
          try simp only [Act.put, List.getElem_toArray, List.getElem_cons_zero, List.getElem_cons_succ, List.setIfInBounds_toArray, List.set_cons_zero, List.set_cons_succ]
          refine wpAnyH_take (i := 11) (oi := _) (v := ?_) rfl (by kernel_rfl) (by kernel_rfl) (by kernel_rfl) (fun _ _ _ h => h) (Or.inl ⟨by rfl, ?_⟩) (by assumption) ?_
          rotate_left 1
          · (intro w hSw; (try dsimp only at hSw); (first | (go_simp; done) | (go_simp; with_reducible rfl)))
          try simp only [Act.put, List.getElem_toArray, List.getElem_cons_zero, List.getElem_cons_succ, List.setIfInBounds_toArray, List.set_cons_zero, List.set_cons_succ]
          refine wpAnyH_take (i := 12) (oi := _) (v := ?_) rfl (by kernel_rfl) (by kernel_rfl) (by kernel_rfl) (fun _ _ _ h => h) (Or.inl ⟨by rfl, ?_⟩) (by assumption) ?_
          rotate_left 1
          · (intro w hSw; (try dsimp only at hSw); (first | (go_simp; done) | (go_simp; with_reducible rfl)))
          try simp only [Act.put, List.getElem_toArray, List.getElem_cons_zero, List.getElem_cons_succ, List.setIfInBounds_toArray, List.set_cons_zero, List.set_cons_succ]
          refine wpAnyH_take (i := 13) (oi := _) (v := ?_) rfl (by kernel_rfl) (by kernel_rfl) (by kernel_rfl) (fun _ _ _ h => h) (Or.inl ⟨by rfl, ?_⟩) (by assumption) ?_
          rotate_left 1
          · (intro w hSw; (try dsimp only at hSw); (first | (go_simp; done) | (go_simp; with_reducible rfl)))
          try simp only [Act.put, List.getElem_toArray, List.getElem_cons_zero, List.getElem_cons_succ, List.setIfInBounds_toArray, List.set_cons_zero, List.set_cons_succ]
          refine wpAnyH_take (i := 14) (oi := _) (v := ?_) rfl (by kernel_rfl) (by kernel_rfl) (by kernel_rfl) (fun _ _ _ h => h) (Or.inl ⟨by rfl, ?_⟩) (by assumption) ?_
          rotate_left 1
          · (intro w hSw; (try dsimp only at hSw); (first | (go_simp; done) | (go_simp; with_reducible rfl)))
          try simp only [Act.put, List.getElem_toArray, List.getElem_cons_zero, List.getElem_cons_succ, List.setIfInBounds_toArray, List.set_cons_zero, List.set_cons_succ]
          refine wpAnyH_done (by kernel_rfl) ?_ _
          refine NoPanic.normal ?_
          clear b0 fa0 fb0 HRj HNar HX HXa HRv hdc
          obtain ⟨BL, hBL⟩ : ∃ BL, BL = b9.len := ⟨_, rfl⟩
          rw [← hBL] at hf9 ⊢
          have HBL := hide hBL
          clear hBL
          cases T with
          | none =>
            have HWn2 : Hid (wn D (anys (m + 1)) R = fstS g D.length (D.length - (j + 1))) := hide (by rw [HWn.out, HStep.out]; rfl)
            clear HWn HStep HG9 HC9 HS9
            subst hf9
            simp only [Option.isSome_none]
            go_wp2_with fail
            go_roundw
            case rel => exact ⟨j + 1, by omega, by go_num, HWn2, HXb.out, hBb⟩
            case measure => simp [intOf]; omega
          | some l =>
            have HWn2 : Hid (wn D (anys (m + 1)) R = some (⟨2, (j : Int)⟩ :: l)) := hide (by rw [HWn.out, HStep.out]; rfl)
            obtain ⟨ok9, ln9, fl9⟩ := HS9.out l rfl
            obtain ⟨k, r, rfl, hkl⟩ := F.cutAt p b9 (by omega)
            have hrl : r.len = m := by rw [F.app_len] at ln9; omega
            have hbl : BL = p + m := by rw [HBL.out]; exact ln9
            have HFin : Hid (∀ w' v', GT w' (fun _ => True) (.cons ⟨2, (j : Int)⟩ k r) v' → Cap v' → MOut D R (m + 1) w' (.returned (.tuple #[v', .bool true]))) := hide (fun w' v' hg hc => by
              obtain ⟨okk, okr⟩ := (F.app_ok D _ _).1 ok9
              refine ⟨v', _, by rw [HWn2.out]; rfl, hg, hc, by rw [F.len, hrl]; omega, fun l' hl' => ?_⟩
              rw [HWn2.out] at hl'
              simp only [Option.some.injEq] at hl'
              refine ⟨⟨?_, ?_, okk, okr⟩, by rw [F.len, hrl], ?_⟩
              · simp [goodC]; omega
              · rw [hkl, HPp.out]; simp [ar, nP]
              · rw [← hl', F.flat, ← F.app_flat, fl9])
            have HKl : Hid (p = k.len) := hide hkl.symm
            have HRl : Hid (m = r.len) := hide hrl.symm
            obtain ⟨W, hW⟩ : ∃ W, W = wb := ⟨_, rfl⟩
            rw [← hW] at HG9 hBb ⊢
            have HBW := hide hBb
            clear HWn HStep HWn2 HS9 ok9 ln9 fl9 HXb hBb hW hkl hrl
            subst hbl
            obtain ⟨ckz, hcz, hsz9⟩ := id HG9.out
            rw [hf9] at hsz9
            rcases hsz9 with ⟨e9, e0⟩ | ⟨gb, go9, gc, e9, -, -⟩
            · simp only [Value.slice.injEq] at e9
              have hp0 : p = 0 := by omega
              have hm00 : m = 0 := by omega
              obtain ⟨rfl, -, rfl⟩ := e9
              have hk0 : k = .nil := F.len_0 (by rw [← HKl.out]; exact hp0)
              have hr0 : r = .nil := F.len_0 (by rw [← HRl.out]; exact hm00)
              obtain ⟨ck, hck⟩ : ∃ ck : List Value, ck = [] := ⟨_, rfl⟩
              obtain ⟨cr, hcr⟩ : ∃ cr : List Value, cr = [] := ⟨_, rfl⟩
              have HSk : Hid (∀ w', Below W.heap.size W w' → GAt w' (fun _ => True) k ck ∧ Sc w' (.slice none 0 0) p 2 ck) := hide (fun w' hb => by rw [hk0, hck, hp0]; exact ⟨rfl, sc_nil⟩)
              have HCr : Hid (∀ w', Below W.heap.size W w' → GAt w' (fun _ => True) r cr ∧ Sc w' (.slice none 0 0) m 2 cr) := hide (fun w' hb => by rw [hr0, hcr, hm00]; exact ⟨rfl, sc_nil⟩)
              have HP0 := hide hp0
              have HM0 := hide hm00
              subst hf9
              clear hk0 hr0 hck hcr hcz e0 HG9 HC9 hp0 hm00
              simp only [Option.isSome_some]
              go_wp2_with fail
              have HE : Hid ((W.drew.alloc (.cells #[] 56)).ownsRow W.heap.size 56 2 (.slice (some ⟨W.heap.size, 0, none⟩) 0 0) 0 []) := hide (World.ownsRow_lit W.drew #[] 0 (Nat.le_refl _) (Nat.zero_le _) rfl)
              have HBe : Hid (Below W.heap.size W (W.drew.alloc (.cells #[] 56))) := hide ((belowDrew8 (Below.refl _ _)).alloc (Nat.le_refl _) _)
              have HKe := hide (HSk.out _ HBe.out).2
              refine wp_region_noPanic ?_
              refine wp_region_held_drew (S := fun w' => True) (by kernel_rfl) trivial (fun hHeld => ?_)
              refine wpAnyH_take (i := 0) (oi := _) (v := ?_) rfl (by kernel_rfl) (by kernel_rfl) (by kernel_rfl) (fun _ _ _ h => h) (Or.inl ⟨by rfl, ?_⟩) (by assumption) ?_
              rotate_left 1
              · (intro w hSw; (try dsimp only at hSw); (first | (go_simp; done) | (go_simp; with_reducible rfl)))
              try simp only [Act.put, List.getElem_toArray, List.getElem_cons_zero, List.getElem_cons_succ, List.setIfInBounds_toArray, List.set_cons_zero, List.set_cons_succ]
              refine wpAnyH_take (i := 2) (oi := _) (v := ?_) rfl (by kernel_rfl) (by kernel_rfl) (by kernel_rfl) (fun _ _ _ h => h) (Or.inl ⟨by rfl, ?_⟩) (by assumption) ?_
              rotate_left 1
              · (intro w hSw; (try dsimp only at hSw); (first | (go_simp; done) | (go_simp; with_reducible rfl)))
              try simp only [Act.put, List.getElem_toArray, List.getElem_cons_zero, List.getElem_cons_succ, List.setIfInBounds_toArray, List.set_cons_zero, List.set_cons_succ]
              refine wpAnyH_take (i := 3) (oi := _) (v := ?_) rfl (by kernel_rfl) (by kernel_rfl) (by kernel_rfl) (fun _ _ _ h => h) (Or.inl ⟨by rfl, ?_⟩) (by assumption) ?_
              rotate_left 1
              · (intro w hSw; (try dsimp only at hSw); (first | (go_simp; done) | (go_simp; with_reducible rfl)))
              try simp only [Act.put, List.getElem_toArray, List.getElem_cons_zero, List.getElem_cons_succ, List.setIfInBounds_toArray, List.set_cons_zero, List.set_cons_succ]
              refine wpAnyH_take (i := 4) (oi := _) (v := .slice none 0 0) rfl (by kernel_rfl) (by kernel_rfl) (by kernel_rfl) (fun _ _ _ h => h) (Or.inl ⟨by rfl, ?_⟩) (by assumption) ?_
              · (intro w hSw; (try dsimp only at hSw); (go_simp; simp [HP0.out]))
              try simp only [Act.put, List.getElem_toArray, List.getElem_cons_zero, List.getElem_cons_succ, List.setIfInBounds_toArray, List.set_cons_zero, List.set_cons_succ]
              refine wpAnyH_take (i := 8) (oi := _) (v := ?_) rfl (by kernel_rfl) (by kernel_rfl) (by kernel_rfl) (fun _ _ _ h => h) (Or.inl ⟨by rfl, ?_⟩) (by assumption) ?_
              rotate_left 1
              · (intro w hSw; (try dsimp only at hSw); (first | (go_simp; done) | (go_simp; with_reducible rfl)))
              try simp only [Act.put, List.getElem_toArray, List.getElem_cons_zero, List.getElem_cons_succ, List.setIfInBounds_toArray, List.set_cons_zero, List.set_cons_succ]
              refine wpAnyH_take (i := 9) (oi := _) (v := ?_) rfl (by kernel_rfl) (by kernel_rfl) (by kernel_rfl) (fun _ _ _ h => h) (Or.inl ⟨by rfl, ?_⟩) (by assumption) ?_
              rotate_left 1
              · (intro w hSw; (try dsimp only at hSw); (first | (go_simp; done) | (go_simp; with_reducible rfl)))
              try simp only [Act.put, List.getElem_toArray, List.getElem_cons_zero, List.getElem_cons_succ, List.setIfInBounds_toArray, List.set_cons_zero, List.set_cons_succ]
              refine wpAnyH_take (i := 10) (oi := _) (v := .slice none 0 0) rfl (by kernel_rfl) (by kernel_rfl) (by kernel_rfl) (fun _ _ _ h => h) (Or.inl ⟨by rfl, ?_⟩) (by assumption) ?_
              · (intro w hSw; (try dsimp only at hSw); (go_simp; simp [HP0.out, HM0.out]))
              try simp only [Act.put, List.getElem_toArray, List.getElem_cons_zero, List.getElem_cons_succ, List.setIfInBounds_toArray, List.set_cons_zero, List.set_cons_succ]
              refine wpAnyH_ready (rs := [1]) (by kernel_rfl) (by simp) ?_
              refine AllReadyH.cons (o := _) rfl (fun K hK => ?_) AllReadyH.nil
              go_simp
              refine hK.out _ _ trivial (fun hHeld => ?_)
              clear hK K
              try simp only [Act.put, List.getElem_toArray, List.getElem_cons_zero, List.getElem_cons_succ, List.setIfInBounds_toArray, List.set_cons_zero, List.set_cons_succ]
              refine wpAnyH_ready (rs := [5]) (by kernel_rfl) (by simp) ?_
              refine AllReadyH.cons (o := _) rfl (fun K hK => ?_) AllReadyH.nil
              refine step_appT rfl _ _ rfl W.heap.size (.slice (some ⟨W.heap.size, 0, none⟩) 0 0) 0 [] rfl HE.out _ p ck rfl HKe.out ?_ ?_ ?_
              · omega
              · simp
              intro v1 w1 hown1 hgrow1 hap1
              have HB1 : Hid (Below W.heap.size W w1) := hide (HBe.out.grown hgrow1 HBe.out.size (fun k hk => by have h0 : W.heap.size = k := (by simpa [Value.ownBlock] using hk); omega))
              obtain ⟨v1a, v1c, hv1f⟩ := own_form hown1
              simp only [Nat.zero_add, List.nil_append] at hv1f hown1
              subst hv1f
              have hs1 := HB1.out.size
              have HO1f := hide hown1
              clear hown1 hgrow1 hap1
              refine hK.out _ _ trivial (fun hHeld => ?_)
              clear hK K
              try simp only [Act.put, List.getElem_toArray, List.getElem_cons_zero, List.getElem_cons_succ, List.setIfInBounds_toArray, List.set_cons_zero, List.set_cons_succ]
              refine wpAnyH_take (i := 6) (oi := _) (v := ?_) rfl (by kernel_rfl) (by kernel_rfl) (by kernel_rfl) (fun _ _ _ h => h) (Or.inl ⟨by rfl, ?_⟩) (by assumption) ?_
              rotate_left 1
              · (intro w hSw; (try dsimp only at hSw); (first | (go_simp; done) | (go_simp; with_reducible rfl)))
              try simp only [Act.put, List.getElem_toArray, List.getElem_cons_zero, List.getElem_cons_succ, List.setIfInBounds_toArray, List.set_cons_zero, List.set_cons_succ]
              obtain ⟨V1, hV1⟩ : ∃ V1, V1 = Value.slice v1a p v1c := ⟨_, rfl⟩
              have HV1 := hide hV1
              have HO1 : Hid (w1.ownsRow W.heap.size 56 2 V1 p ck) := hide (by rw [HV1.out]; exact HO1f.out)
              have HO7 : Hid ((w1.alloc (.cells #[.int .i64 (j : Int), V1] 56)).ownsRow W.heap.size 56 2 (.slice (some ⟨w1.heap.size, 0, none⟩) 1 1) 1 [.int .i64 (j : Int), V1]) := hide (World.ownsRow_lit w1 #[.int .i64 (j : Int), V1] 1 hs1 (by unfold maxLen; omega) rfl)
              have HB7 : Hid (Below W.heap.size W (w1.alloc (.cells #[.int .i64 (j : Int), V1] 56))) := hide (HB1.out.alloc hs1 _)
              have HC7 := hide (HCr.out _ HB7.out).2
              refine wpAnyH_ready (rs := [7]) (by kernel_rfl) (by simp) ?_
              refine AllReadyH.cons (o := _) rfl (fun K hK => ?_) AllReadyH.nil
              go_simp
              rw [← hV1]
              refine hK.out _ _ trivial (fun hHeld => ?_)
              clear hK K
              try simp only [Act.put, List.getElem_toArray, List.getElem_cons_zero, List.getElem_cons_succ, List.setIfInBounds_toArray, List.set_cons_zero, List.set_cons_succ]
              clear hV1
              refine wpAnyH_ready (rs := [11]) (by kernel_rfl) (by simp) ?_
              refine AllReadyH.cons (o := _) rfl (fun K hK => ?_) AllReadyH.nil
              refine step_appT rfl _ _ rfl W.heap.size (.slice (some ⟨w1.heap.size, 0, none⟩) 1 1) 1 [.int .i64 (j : Int), V1] rfl HO7.out _ m cr rfl HC7.out ?_ ?_ ?_
              · omega
              · simp; omega
              intro v2 w2 hown2 hgrow2 hap2
              have hb71 : Below w1.heap.size w1 w2 := ((Below.refl _ _).alloc (Nat.le_refl _) _).grown hgrow2 (by simp) (fun k hk => by have h0 : w1.heap.size = k := (by simpa [Value.ownBlock] using hk); omega)
              have hb72 : Below W.heap.size W w2 := HB1.out.trans (hb71.mono hs1)
              have hk2 : GT w2 (fun _ => True) k V1 := own_gt (own_keep HO1.out (w' := w2) (fun k _ hk => hb71.block k hk)) HKl.out (HSk.out w2 hb72).1 (fun _ _ _ => trivial)
              have hG2 : GT w2 (fun _ => True) (.cons ⟨2, (j : Int)⟩ k r) v2 := own_gt hown2 (by rw [F.len, ← HRl.out]; omega) ⟨V1, cr, by simp [tC, tcon], hk2, (HCr.out w2 hb72).1⟩ (fun _ _ _ => trivial)
              have HM : Hid (MOut D R (m + 1) w2 (.returned (.tuple #[v2, .bool true]))) := hide (HFin.out w2 v2 hG2 (own_cap hown2))
              have HB2 : Hid (Below w.heap.size w w2) := hide (HBW.out.trans (hb72.mono HBW.out.size))
              obtain ⟨v2a, v2c, rfl⟩ := own_form hown2
              clear hown2 hgrow2 hap2 hb71 hb72 hk2 hG2
              refine hK.out _ _ trivial (fun hHeld => ?_)
              clear hK K
              try simp only [Act.put, List.getElem_toArray, List.getElem_cons_zero, List.getElem_cons_succ, List.setIfInBounds_toArray, List.set_cons_zero, List.set_cons_succ]
              refine wpAnyH_take (i := 12) (oi := _) (v := ?_) rfl (by kernel_rfl) (by kernel_rfl) (by kernel_rfl) (fun _ _ _ h => h) (Or.inl ⟨by rfl, ?_⟩) (by assumption) ?_
              rotate_left 1
              · (intro w hSw; (try dsimp only at hSw); (first | (go_simp; done) | (go_simp; with_reducible rfl)))
              try simp only [Act.put, List.getElem_toArray, List.getElem_cons_zero, List.getElem_cons_succ, List.setIfInBounds_toArray, List.set_cons_zero, List.set_cons_succ]
              refine wpAnyH_take (i := 13) (oi := _) (v := ?_) rfl (by kernel_rfl) (by kernel_rfl) (by kernel_rfl) (fun _ _ _ h => h) (Or.inl ⟨by rfl, ?_⟩) (by assumption) ?_
              rotate_left 1
              · (intro w hSw; (try dsimp only at hSw); (first | (go_simp; done) | (go_simp; with_reducible rfl)))
              try simp only [Act.put, List.getElem_toArray, List.getElem_cons_zero, List.getElem_cons_succ, List.setIfInBounds_toArray, List.set_cons_zero, List.set_cons_succ]
              refine wpAnyH_done (by kernel_rfl) ?_ _
              refine NoPanic.normal ?_
              clear HE HBe HKe HO1 HO1f HO7 HB7 HC7 HSk HCr HFin
              go_wp2_with fail
              exact bodyPost_ret (v := .tuple #[.slice v2a (1 + m) v2c, .bool true]) (by simp [results, Try.results26, go_sem]) rfl ⟨HM.out, HB2.out⟩
            · simp only [Value.slice.injEq] at e9
              obtain ⟨rfl, -, rfl⟩ := e9
              have hcap := HC9.out _ _ _ hf9
              have hg9 := HG9.out
              rw [hf9] at hg9
              obtain ⟨ck, cr, c1, c2⟩ := GT.cut hg9
              rw [← HKl.out, ← HRl.out] at c2
              rw [← HKl.out] at c1
              obtain ⟨q, hq⟩ : ∃ q, q = if c9 = p then go9 else go9 + p * 2 := ⟨_, rfl⟩
              have HSk : Hid (∀ w', Below W.heap.size W w' → GAt w' (fun _ => True) k ck ∧ Sc w' (.slice (some ⟨gb, go9, none⟩) p c9) p 2 ck) := hide c1
              have HCr : Hid (∀ w', Below W.heap.size W w' → GAt w' (fun _ => True) r cr ∧ Sc w' (.slice (some ⟨gb, q, none⟩) m (c9 - p)) m 2 cr) := hide (c2 q (c9 - p) (by rw [hq]; split <;> omega))
              have HQ := hide hq
              have k1 : (0 : Int) ≤ (p : Int) := by omega
              have k2 : (p : Int) ≤ (c9 : Int) := by omega
              have k3 : (p : Int) ≤ (p : Int) + (m : Int) := by omega
              have k4 : ((p + m : Nat) : Int) ≤ (c9 : Int) := by omega
              subst hf9
              clear hq c1 c2 hg9 hcz HG9 HC9
              simp only [Option.isSome_some]
              go_wp2_with fail
              have HE : Hid ((W.drew.alloc (.cells #[] 56)).ownsRow W.heap.size 56 2 (.slice (some ⟨W.heap.size, 0, none⟩) 0 0) 0 []) := hide (World.ownsRow_lit W.drew #[] 0 (Nat.le_refl _) (Nat.zero_le _) rfl)
              have HBe : Hid (Below W.heap.size W (W.drew.alloc (.cells #[] 56))) := hide ((belowDrew8 (Below.refl _ _)).alloc (Nat.le_refl _) _)
              have HKe := hide (HSk.out _ HBe.out).2
              refine wp_region_noPanic ?_
              refine wp_region_held_drew (S := fun w' => True) (by kernel_rfl) trivial (fun hHeld => ?_)
              refine wpAnyH_take (i := 0) (oi := _) (v := ?_) rfl (by kernel_rfl) (by kernel_rfl) (by kernel_rfl) (fun _ _ _ h => h) (Or.inl ⟨by rfl, ?_⟩) (by assumption) ?_
              rotate_left 1
              · (intro w hSw; (try dsimp only at hSw); (first | (go_simp; done) | (go_simp; with_reducible rfl)))
              try simp only [Act.put, List.getElem_toArray, List.getElem_cons_zero, List.getElem_cons_succ, List.setIfInBounds_toArray, List.set_cons_zero, List.set_cons_succ]
              refine wpAnyH_take (i := 2) (oi := _) (v := ?_) rfl (by kernel_rfl) (by kernel_rfl) (by kernel_rfl) (fun _ _ _ h => h) (Or.inl ⟨by rfl, ?_⟩) (by assumption) ?_
              rotate_left 1
              · (intro w hSw; (try dsimp only at hSw); (first | (go_simp; done) | (go_simp; with_reducible rfl)))
              try simp only [Act.put, List.getElem_toArray, List.getElem_cons_zero, List.getElem_cons_succ, List.setIfInBounds_toArray, List.set_cons_zero, List.set_cons_succ]
              refine wpAnyH_take (i := 3) (oi := _) (v := ?_) rfl (by kernel_rfl) (by kernel_rfl) (by kernel_rfl) (fun _ _ _ h => h) (Or.inl ⟨by rfl, ?_⟩) (by assumption) ?_
              rotate_left 1
              · (intro w hSw; (try dsimp only at hSw); (first | (go_simp; done) | (go_simp; with_reducible rfl)))
              try simp only [Act.put, List.getElem_toArray, List.getElem_cons_zero, List.getElem_cons_succ, List.setIfInBounds_toArray, List.set_cons_zero, List.set_cons_succ]
              refine wpAnyH_take (i := 4) (oi := _) (v := .slice (some ⟨gb, go9, none⟩) p c9) rfl (by kernel_rfl) (by kernel_rfl) (by kernel_rfl) (fun _ _ _ h => h) (Or.inl ⟨by rfl, ?_⟩) (by assumption) ?_
              · (intro w hSw; (try dsimp only at hSw); (first | (go_simp; done) | (go_simp; simp [*])))
              try simp only [Act.put, List.getElem_toArray, List.getElem_cons_zero, List.getElem_cons_succ, List.setIfInBounds_toArray, List.set_cons_zero, List.set_cons_succ]
              refine wpAnyH_take (i := 8) (oi := _) (v := ?_) rfl (by kernel_rfl) (by kernel_rfl) (by kernel_rfl) (fun _ _ _ h => h) (Or.inl ⟨by rfl, ?_⟩) (by assumption) ?_
              rotate_left 1
              · (intro w hSw; (try dsimp only at hSw); (first | (go_simp; done) | (go_simp; with_reducible rfl)))
              try simp only [Act.put, List.getElem_toArray, List.getElem_cons_zero, List.getElem_cons_succ, List.setIfInBounds_toArray, List.set_cons_zero, List.set_cons_succ]
              refine wpAnyH_take (i := 9) (oi := _) (v := ?_) rfl (by kernel_rfl) (by kernel_rfl) (by kernel_rfl) (fun _ _ _ h => h) (Or.inl ⟨by rfl, ?_⟩) (by assumption) ?_
              rotate_left 1
              · (intro w hSw; (try dsimp only at hSw); (first | (go_simp; done) | (go_simp; with_reducible rfl)))
              try simp only [Act.put, List.getElem_toArray, List.getElem_cons_zero, List.getElem_cons_succ, List.setIfInBounds_toArray, List.set_cons_zero, List.set_cons_succ]
              refine wpAnyH_take (i := 10) (oi := _) (v := .slice (some ⟨gb, q, none⟩) m (c9 - p)) rfl (by kernel_rfl) (by kernel_rfl) (by kernel_rfl) (fun _ _ _ h => h) (Or.inl ⟨by rfl, ?_⟩) (by assumption) ?_
              · (intro w hSw; (try dsimp only at hSw); (go_simp; by_cases hc1 : c9 = p <;> simp [hc1, HQ.out]))
              try simp only [Act.put, List.getElem_toArray, List.getElem_cons_zero, List.getElem_cons_succ, List.setIfInBounds_toArray, List.set_cons_zero, List.set_cons_succ]
              refine wpAnyH_ready (rs := [1]) (by kernel_rfl) (by simp) ?_
              refine AllReadyH.cons (o := _) rfl (fun K hK => ?_) AllReadyH.nil
              go_simp
              refine hK.out _ _ trivial (fun hHeld => ?_)
              clear hK K
              try simp only [Act.put, List.getElem_toArray, List.getElem_cons_zero, List.getElem_cons_succ, List.setIfInBounds_toArray, List.set_cons_zero, List.set_cons_succ]
              refine wpAnyH_ready (rs := [5]) (by kernel_rfl) (by simp) ?_
              refine AllReadyH.cons (o := _) rfl (fun K hK => ?_) AllReadyH.nil
              refine step_appT rfl _ _ rfl W.heap.size (.slice (some ⟨W.heap.size, 0, none⟩) 0 0) 0 [] rfl HE.out _ p ck rfl HKe.out ?_ ?_ ?_
              · omega
              · simp
              intro v1 w1 hown1 hgrow1 hap1
              have HB1 : Hid (Below W.heap.size W w1) := hide (HBe.out.grown hgrow1 HBe.out.size (fun k hk => by have h0 : W.heap.size = k := (by simpa [Value.ownBlock] using hk); omega))
              obtain ⟨v1a, v1c, hv1f⟩ := own_form hown1
              simp only [Nat.zero_add, List.nil_append] at hv1f hown1
              subst hv1f
              have hs1 := HB1.out.size
              have HO1f := hide hown1
              clear hown1 hgrow1 hap1
              refine hK.out _ _ trivial (fun hHeld => ?_)
              clear hK K
              try simp only [Act.put, List.getElem_toArray, List.getElem_cons_zero, List.getElem_cons_succ, List.setIfInBounds_toArray, List.set_cons_zero, List.set_cons_succ]
              refine wpAnyH_take (i := 6) (oi := _) (v := ?_) rfl (by kernel_rfl) (by kernel_rfl) (by kernel_rfl) (fun _ _ _ h => h) (Or.inl ⟨by rfl, ?_⟩) (by assumption) ?_
              rotate_left 1
              · (intro w hSw; (try dsimp only at hSw); (first | (go_simp; done) | (go_simp; with_reducible rfl)))
              try simp only [Act.put, List.getElem_toArray, List.getElem_cons_zero, List.getElem_cons_succ, List.setIfInBounds_toArray, List.set_cons_zero, List.set_cons_succ]
              obtain ⟨V1, hV1⟩ : ∃ V1, V1 = Value.slice v1a p v1c := ⟨_, rfl⟩
              have HV1 := hide hV1
              have HO1 : Hid (w1.ownsRow W.heap.size 56 2 V1 p ck) := hide (by rw [HV1.out]; exact HO1f.out)
              have HO7 : Hid ((w1.alloc (.cells #[.int .i64 (j : Int), V1] 56)).ownsRow W.heap.size 56 2 (.slice (some ⟨w1.heap.size, 0, none⟩) 1 1) 1 [.int .i64 (j : Int), V1]) := hide (World.ownsRow_lit w1 #[.int .i64 (j : Int), V1] 1 hs1 (by unfold maxLen; omega) rfl)
              have HB7 : Hid (Below W.heap.size W (w1.alloc (.cells #[.int .i64 (j : Int), V1] 56))) := hide (HB1.out.alloc hs1 _)
              have HC7 := hide (HCr.out _ HB7.out).2
              refine wpAnyH_ready (rs := [7]) (by kernel_rfl) (by simp) ?_
              refine AllReadyH.cons (o := _) rfl (fun K hK => ?_) AllReadyH.nil
              go_simp
              rw [← hV1]
              refine hK.out _ _ trivial (fun hHeld => ?_)
              clear hK K
              try simp only [Act.put, List.getElem_toArray, List.getElem_cons_zero, List.getElem_cons_succ, List.setIfInBounds_toArray, List.set_cons_zero, List.set_cons_succ]
              clear hV1
              refine wpAnyH_ready (rs := [11]) (by kernel_rfl) (by simp) ?_
              refine AllReadyH.cons (o := _) rfl (fun K hK => ?_) AllReadyH.nil
              refine step_appT rfl _ _ rfl W.heap.size (.slice (some ⟨w1.heap.size, 0, none⟩) 1 1) 1 [.int .i64 (j : Int), V1] rfl HO7.out _ m cr rfl HC7.out ?_ ?_ ?_
              · omega
              · simp; omega
              intro v2 w2 hown2 hgrow2 hap2
              have hb71 : Below w1.heap.size w1 w2 := ((Below.refl _ _).alloc (Nat.le_refl _) _).grown hgrow2 (by simp) (fun k hk => by have h0 : w1.heap.size = k := (by simpa [Value.ownBlock] using hk); omega)
              have hb72 : Below W.heap.size W w2 := HB1.out.trans (hb71.mono hs1)
              have hk2 : GT w2 (fun _ => True) k V1 := own_gt (own_keep HO1.out (w' := w2) (fun k _ hk => hb71.block k hk)) HKl.out (HSk.out w2 hb72).1 (fun _ _ _ => trivial)
              have hG2 : GT w2 (fun _ => True) (.cons ⟨2, (j : Int)⟩ k r) v2 := own_gt hown2 (by rw [F.len, ← HRl.out]; omega) ⟨V1, cr, by simp [tC, tcon], hk2, (HCr.out w2 hb72).1⟩ (fun _ _ _ => trivial)
              have HM : Hid (MOut D R (m + 1) w2 (.returned (.tuple #[v2, .bool true]))) := hide (HFin.out w2 v2 hG2 (own_cap hown2))
              have HB2 : Hid (Below w.heap.size w w2) := hide (HBW.out.trans (hb72.mono HBW.out.size))
              obtain ⟨v2a, v2c, rfl⟩ := own_form hown2
              clear hown2 hgrow2 hap2 hb71 hb72 hk2 hG2
              refine hK.out _ _ trivial (fun hHeld => ?_)
              clear hK K
              try simp only [Act.put, List.getElem_toArray, List.getElem_cons_zero, List.getElem_cons_succ, List.setIfInBounds_toArray, List.set_cons_zero, List.set_cons_succ]
              refine wpAnyH_take (i := 12) (oi := _) (v := ?_) rfl (by kernel_rfl) (by kernel_rfl) (by kernel_rfl) (fun _ _ _ h => h) (Or.inl ⟨by rfl, ?_⟩) (by assumption) ?_
              rotate_left 1
              · (intro w hSw; (try dsimp only at hSw); (first | (go_simp; done) | (go_simp; with_reducible rfl)))
              try simp only [Act.put, List.getElem_toArray, List.getElem_cons_zero, List.getElem_cons_succ, List.setIfInBounds_toArray, List.set_cons_zero, List.set_cons_succ]
              refine wpAnyH_take (i := 13) (oi := _) (v := ?_) rfl (by kernel_rfl) (by kernel_rfl) (by kernel_rfl) (fun _ _ _ h => h) (Or.inl ⟨by rfl, ?_⟩) (by assumption) ?_
              rotate_left 1
              · (intro w hSw; (try dsimp only at hSw); (first | (go_simp; done) | (go_simp; with_reducible rfl)))
              try simp only [Act.put, List.getElem_toArray, List.getElem_cons_zero, List.getElem_cons_succ, List.setIfInBounds_toArray, List.set_cons_zero, List.set_cons_succ]
              refine wpAnyH_done (by kernel_rfl) ?_ _
              refine NoPanic.normal ?_
              clear HE HBe HKe HO1 HO1f HO7 HB7 HC7 HSk HCr HFin
              go_wp2_with fail
              exact bodyPost_ret (v := .tuple #[.slice v2a (1 + m) v2c, .bool true]) (by simp [results, Try.results26, go_sem]) rfl ⟨HM.out, HB2.out⟩
        · obtain rfl : j = D.length := by omega
          have HM : Hid (∀ w', MOut D R (m + 1) w' (.returned (.tuple #[.slice none 0 0, .bool false]))) := hide (fun w' => by
            have h := HWn.out
            rw [fstS_end] at h
            exact ⟨_, .nil, by rw [h]; rfl, GT.nil, Cap.nil, Nat.zero_le _, fun l hl => by rw [h] at hl; cases hl⟩)
          clear HWn
          go_wp2_with fail
          exact bodyPost_ret (v := .tuple #[.slice none 0 0, .bool false]) (by simp [results, Try.results26, go_sem]) rfl ⟨HM.out _, hB⟩

theorem missed_all (D : List Int) (hd : goodD D = true) (da : Option Addr) (dc : Nat) : ∀ (f : Nat) (R : List F) (many : Nat) (vR : Value) (w : World), mea (anys many) R < f → WR D (anys many) R → DRow w (.agg #[.slice da D.length dc]) D → RV w vR R → Calls Try.prog 26 #[.agg #[.slice da D.length dc], vR, .int .i64 (many : Int)] w fun e w' => MOut D R many w' e ∧ Below w.heap.size w w' := by
  intro f
  induction f with
  | zero => intro R many vR w h; exact absurd h (Nat.not_lt_zero _)
  | succ f ih =>
    intro R many vR w hf hwr hD hV
    by_cases hR : R = []
    · exact missed_noR D hd da dc R many vR w hD hV hwr hR
    by_cases hm : many = 0
    · exact missed_noA D hd da dc R many vR w hD hV hwr hR hm
    cases hn : R.any nam1 with
    | false => exact missed_tl f D hd da dc R many vR w hD hV hwr ih hf hR (by omega) hn
    | true => exact missed_con f D hd da dc R many vR w hD hV hwr ih hf hR (by omega) hn
theorem l8Missed_any (D : List Int) (hd : goodD D = true) (da : Option Addr) (dc : Nat) (R : List F) (many : Nat) (vR : Value) (w : World) (hD : DRow w (.agg #[.slice da D.length dc]) D) (hV : RV w vR R) (hwr : WR D (anys many) R) :
    Calls Try.prog 26 #[.agg #[.slice da D.length dc], vR, .int .i64 (many : Int)] w fun e w' => MOut D R many w' e ∧ Below w.heap.size w w' := missed_all D hd da dc _ R many vR w (Nat.lt_succ_self _) hwr hD hV

end Go.Proofs.Ytfepljcblajfpab.W

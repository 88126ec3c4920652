/-
  Rows narrowed by a constructor: the specification's l8Narrow. Conditions: good rows, at most 8. Written by wip/build/mk_mtd.py.
-/
import Derived.Test.YtfepljcblajfpabMtC
import Derived.Test.YtfepljcblajfpabMsE
namespace Go.Proofs.Ytfepljcblajfpab.W
open Go.ChangeShapes Go.WideShapes Go.ChangeAt Go.RowKit
set_option linter.unusedVariables false
set_option linter.unusedSimpArgs false

theorem own_sc {w : World} {base n size : Nat} {e : TypeId} {v : Value} {xs : List Value} (h : w.ownsRow base e size v n xs) (h1 : ∀ u ∈ xs, u.oneCell' = true) : Sc w v n size xs := by
  refine ⟨h.1, h1, ?_⟩
  rcases h.2 with ⟨h2, h3⟩ | ⟨g, cap, cur, hv, hb, hh, h3, h4, h5, h6⟩
  · exact .inl ⟨h2, h3⟩
  · refine .inr ⟨_, cap, hv, fun j u hj => ?_⟩
    have hlt : j < n * size := by rw [← h.1]; exact (List.getElem?_eq_some_iff.1 hj).1
    rw [Addr.add_lit, Nat.zero_add, cell_of_blk hh, ← hj, ← h6, List.getElem?_take_of_lt hlt]
    simp
theorem GT.sc' {w : World} {P : Nat → Prop} {a : F} {s : Value} (h : GT w P a s) : ∃ ck, ∀ w', Below w.heap.size w w' → GAt w' P a ck ∧ Sc w' s a.len 2 ck := by
  obtain ⟨ck, h1, h2⟩ := h
  refine ⟨ck, fun w' hb => ?_⟩
  have g1 : GAt w' P a ck := h1.keep hb.size (fun k hp hk => ⟨hb.block k hk, hp⟩)
  have g2 : SL w' P s a.len ck := h2.keep h1.len hb.size (fun k hp hk => ⟨hb.block k hk, hp⟩)
  refine ⟨g1, g1.len, g1.one, ?_⟩
  rcases g2 with ⟨h2, h3⟩ | ⟨g, o, c, h2, h4, h5⟩
  · exact .inl ⟨h2, h3⟩
  · exact .inr ⟨_, _, h2, fun j u hj => by rw [Addr.add_lit]; exact h5 j u hj⟩
theorem opn_any {D : List Int} {c : Nat} {x : Pt} {k r : F} (h : x.kd = 1) : opn D c (.cons x k r) = some ((anys (nP D c)).app r) := by simp [opn, h]
theorem opn_of {D : List Int} {c : Nat} {x : Pt} {k r : F} (h : x.kd = 2) (hc : x.con = (c : Int)) : opn D c (.cons x k r) = some (k.app r) := by simp [opn, h, hc]
theorem opn_not {D : List Int} {c : Nat} {x : Pt} {k r : F} (h : x.kd = 2) (hc : x.con ≠ (c : Int)) : opn D c (.cons x k r) = none := by simp [opn, h, hc]
theorem nP_at {D : List Int} (hd : goodD D = true) {c : Nat} (hc : c < D.length) : D[c] = ((nP D c : Nat) : Int) := by
  have := goodD_parts hd hc
  unfold nP
  rw [List.getD_eq_getElem?_getD, List.getElem?_eq_getElem hc, Option.getD_some]; omega

set_option maxRecDepth 20000 in
set_option maxHeartbeats 8000000 in
theorem l8Narrow_any (vd : Value) (D : List Int) (v : Value) (R : List F) (c : Nat) (w : World) (hD : DRow w vd D) (hd : goodD D = true) (hc : c < D.length) (hR : RV w v R) (hok : ∀ b ∈ R, b.ok D ∧ 1 ≤ b.len ∧ b.len ≤ 1000) (h8 : R.length ≤ 8) :
    Calls Try.prog 39 #[vd, v, .int .i64 (c : Int)] w fun e w' => ∃ v', e = .returned v' ∧ RV w' v' (R.filterMap (opn D c)) ∧ Below w.heap.size w w' := by
  have HV := hide hR
  have Hok := hide hok
  have Hd := hide hd
  obtain ⟨ra, rc, rfl, -⟩ := hR.form
  obtain ⟨da, dc, rfl, hDr, hDl⟩ := hD
  obtain ⟨db, dO, rfl, hdb, hdc⟩ := IRow.iat hDr (Below.refl _ _) hc
  rw [nP_at hd hc] at hdc
  obtain ⟨p, hp⟩ : ∃ p, p = nP D c := ⟨_, rfl⟩
  have hp2 : p ≤ 2 := by rw [hp]; exact nP_le hd c
  rw [← hp] at hdc
  have HPp := hide hp
  have HDc := hide hdc
  have HB0 := hide (show Below w.heap.size w (w.alloc (.cells #[.slice (some ⟨db, dO, none⟩) D.length dc] 31)) from (Below.refl _ _).alloc (Nat.le_refl _) _)
  have HX0 := hide (Bx.new w #[.slice (some ⟨db, dO, none⟩) D.length dc] 31)
  have HE := hide (World.ownsRow_nil (w.alloc (.cells #[.slice (some ⟨db, dO, none⟩) D.length dc] 31)) (w.heap.size + 1) 70 1)
  obtain ⟨RN, hRN⟩ : ∃ RN, RN = R.length := ⟨_, rfl⟩
  rw [← hRN] at h8 HV ⊢
  have HRN := hide hRN
  have hc' : (c : Int) < (D.length : Int) := by omega
  clear hR hok hd hDr hdc hp hRN
  go_enter Try.func39, Try.ntmps39
  go_wp2_with fail
  go_loopw [7, 14] (fun s i w' => ∃ (j : Nat) (vs : List Value), j ≤ RN ∧ i = .int .i64 j ∧ ROs w' s vs ((R.take j).filterMap (opn D c)) ∧ w'.ownsRow (w.heap.size + 1) 70 1 s vs.length vs ∧ vs.length ≤ j ∧ Bx w' w.heap.size #[.slice (some ⟨db, dO, none⟩) D.length dc] 31 ∧ Below w.heap.size w w') (fun _ i _ => RN - (intOf i).toNat)
  case atStart => exact ⟨0, [], Nat.zero_le _, rfl, ROs.nil, HE.out, Nat.zero_le _, HX0.out, HB0.out⟩
  case round =>
    clear HE HX0 HB0
    obtain ⟨j, vs, hj, rfl, hRO, hO, hvj, hX, hB⟩ := hrel
    obtain ⟨oad, oc, hof⟩ := own_form hO
    subst hof
    have HRO := hide hRO
    have HO := hide hO
    have HOl := hide (fun k hk => hO.lt k hk)
    have HX := hide hX
    have xl := hX.lt
    have hsz := hB.size
    clear hRO hO hX
    by_cases hlt : j < RN
    · have hltR : j < R.length := by have := HRN.out; omega
      have hlt' : (j : Int) < (RN : Int) := by omega
      obtain ⟨b, o, rc', u, e1, hb, p0, gu, cu⟩ := RV.at HV.out hB hltR
      simp only [Value.slice.injEq] at e1
      obtain ⟨rfl, -, rfl⟩ := e1
      obtain ⟨ok, h1, h1000⟩ := Hok.out R[j] (List.getElem_mem hltR)
      have htk : (R.take (j + 1)).filterMap (opn D c) = (R.take j).filterMap (opn D c) ++ (opn D c R[j]).toList := by
        rw [List.take_succ_eq_append_getElem hltR, List.filterMap_append]
        cases h : opn D c R[j] with
        | none => simp [h]
        | some a' => simp [h]
      obtain ⟨a, ha⟩ : ∃ a, a = R[j] := ⟨_, rfl⟩
      rw [← ha] at gu ok h1 h1000 htk
      clear ha
      cases a with
      | nil => simp [F.len] at h1
      | cons x k r =>
        obtain ⟨g, o2, cc, sx, rfl, hcc, hgw, hgl, gk, q0, q1, tl⟩ := gu.head cu
        obtain ⟨xa, xc, hsx⟩ := gk.form
        subst hsx
        have HTl := hide tl
        have HGk := hide gk
        have HTk := hide htk
        have hrl : r.len + 1 ≤ 1000 := by simpa [F.len] using h1000
        have hkl : k.len ≤ 1000 := by
          have h2 := ok.2.1
          have h3 := ar_le Hd.out x
          omega
        obtain ⟨RL, hRL⟩ : ∃ RL, RL = r.len := ⟨_, rfl⟩
        obtain ⟨KL, hKL⟩ : ∃ KL, KL = k.len := ⟨_, rfl⟩
        rw [← hRL] at HTl hrl hcc p0
        rw [← hKL] at HGk hkl q1
        have HRL := hide hRL
        have HKL := hide hKL
        have d0 : wr.cell? ⟨db, dO + c, none⟩ = some (.int .i64 (p : Int)) := (hB.cell (p := ⟨db, dO + c, none⟩) hdb).trans HDc.out
        have d2 : ∀ o1 o2 : Obj, ((wr.alloc o1).alloc o2).cell? ⟨db, dO + c, none⟩ = some (.int .i64 (p : Int)) := fun o1 o2 => by
          have h1 : (wr.alloc o1).cell? ⟨db, dO + c, none⟩ = some (.int .i64 (p : Int)) := by rw [World.cell?_alloc_some _ _ _ (by rw [d0]; rfl)]; exact d0
          rw [World.cell?_alloc_some _ _ _ (by rw [h1]; rfl)]; exact h1
        have cx := HX.out.c
        have ok1 := ok.1
        have k1 : (1 : Int) ≤ (RL : Int) + 1 := by omega
        have k2 : (RL : Int) + 1 ≤ (cc : Int) := by omega
        clear tl gk htk h1 h1000 ok hRL hKL gu cu
        rcases good_kd ok1 with ⟨hx1, hx2⟩ | ⟨hx1, hx2, hx3⟩
        · have hopn := opn_any (D := D) (c := c) (k := k) (r := r) hx1
          have ht : tcon x = -1 := by simp [tcon, hx1]
          have HCa := hide (fun (w' : World) => l8Anys_any p w' (by omega))
          rw [ht] at q0
          have HOpn : Hid ((opn D c (.cons x k r)).toList = [(anys p).app r]) := hide (by rw [hopn, ← HPp.out]; rfl)
          obtain ⟨q, hq⟩ : ∃ q, q = if cc = 1 then o2 else o2 + 2 := ⟨_, rfl⟩
          have HQ := hide hq
          clear hopn hq hx1 hx2 ok1 ht
          go_wp2_with fail
          refine Calls.mono (HCa.out _) ?_
          rintro e W ⟨kv, rfl, hko, hbW⟩
          obtain ⟨ka, kc, rfl⟩ := own_form hko
          obtain ⟨W2, hW2⟩ : ∃ W2, W2 = (wr.alloc (.cells #[.slice (some ⟨g, o2, none⟩) (RL + 1) cc] 70)).alloc (.cells #[.int .i64 (-1), .slice xa KL xc] 56) := ⟨_, rfl⟩
          rw [← hW2] at hko hbW
          have s2 : W2.heap.size = wr.heap.size + 1 + 1 := by rw [hW2]; simp
          have hbr2 : Below wr.heap.size wr W2 := by rw [hW2]; exact ((Below.refl _ _).alloc (Nat.le_refl _) _).alloc (by simp) _
          have HBW : Hid (Below wr.heap.size wr W) := hide (hbr2.trans (hbW.mono hbr2.size))
          have HBW1 : Hid (wr.heap.size < W.heap.size) := hide (by have := hbW.size; omega)
          have b0 : W.cell? ⟨wr.heap.size, 0, none⟩ = some (.slice (some ⟨g, o2, none⟩) (RL + 1) cc) := by
            rw [hbW.cell (p := ⟨wr.heap.size, 0, none⟩) (show wr.heap.size < W2.heap.size by omega), hW2]
            have h1 : (wr.alloc (.cells #[.slice (some ⟨g, o2, none⟩) (RL + 1) cc] 70)).cell? ⟨wr.heap.size, 0, none⟩ = some (.slice (some ⟨g, o2, none⟩) (RL + 1) cc) := by rw [cell_of_blk (heap_alloc_new wr _)]; rfl
            rw [World.cell?_alloc_some _ _ _ (by rw [h1]; rfl)]; exact h1
          obtain ⟨ck, hck⟩ : ∃ ck, ck = anyC p := ⟨_, rfl⟩
          have HKs : Hid (∀ w', Below wr.heap.size wr w' → GAt w' (fun k => k < w.heap.size) (anys p) ck) := hide (fun w' hb => by rw [hck]; exact anyC_at p)
          have HSk : Hid (∀ w', Below W.heap.size W w' → Sc w' (.slice ka p kc) p 2 ck) := hide (fun w' hb => by
            rw [hck]
            exact own_sc (own_keep hko (fun k _ hk => hb.block k hk)) (GAt.one (w := w') (P := fun _ => True) (anyC_at p)))
          have HKN : Hid (p = (anys p).len) := hide (anys_len p).symm
          have hp1000 : p ≤ 1000 := by omega
          clear hko hbW hbr2 hW2 s2 hck HCa d2 d0 cx p0 q0 q1
          go_wp2_with fail
          obtain ⟨cr, HCr⟩ : ∃ cr, Hid (∀ w', Below wr.heap.size wr w' → GAt w' (fun k => k < w.heap.size) r cr ∧ Sc w' (.slice (some ⟨g, q, none⟩) RL (cc - 1)) RL 2 cr) := by
            obtain ⟨cr, h⟩ := GT.sc' (HTl.out q (by rw [HQ.out]; split <;> simp [*]))
            exact ⟨cr, hide (fun w' hb => by have := h w' hb; rw [← HRL.out] at this; exact this)⟩
          have xlW : wr.heap.size < W.heap.size := HBW1.out
          have HE : Hid ((W.drew.alloc (.cells #[] 56)).ownsRow W.heap.size 56 2 (.slice (some ⟨W.heap.size, 0, none⟩) 0 0) 0 []) := hide (World.ownsRow_lit W.drew #[] 0 (Nat.le_refl _) (Nat.zero_le _) rfl)
          have HBe : Hid (Below W.heap.size W (W.drew.alloc (.cells #[] 56))) := hide ((belowDrew8 (Below.refl _ _)).alloc (Nat.le_refl _) _)
          have HKe := hide (HSk.out _ HBe.out)
          have be : (W.drew.alloc (.cells #[] 56)).cell? ⟨wr.heap.size, 0, none⟩ = some (.slice (some ⟨g, o2, none⟩) (RL + 1) cc) := (HBe.out.cell (p := ⟨wr.heap.size, 0, none⟩) xlW).trans b0
          refine wp_region_noPanic ?_
          refine wp_region_held_drew (S := fun w' => w'.cell? ⟨wr.heap.size, 0, none⟩ = some (.slice (some ⟨g, o2, none⟩) (RL + 1) cc)) (by kernel_rfl) b0 (fun hHeld => ?_)
          refine wpAnyH_take (i := 0) (oi := _) (v := ?_) rfl (by kernel_rfl) (by kernel_rfl) (by kernel_rfl) (fun _ _ _ h => h) (Or.inl ⟨by rfl, ?_⟩) (by assumption) ?_
          rotate_left 1
          · (intro w hSw; (try dsimp only at hSw); (first | (go_simp; done) | (go_simp; with_reducible rfl)))
          try simp only [Act.put, List.getElem_toArray, List.getElem_cons_zero, List.getElem_cons_succ, List.setIfInBounds_toArray, List.set_cons_zero, List.set_cons_succ]
          refine wpAnyH_take (i := 2) (oi := _) (v := ?_) rfl (by kernel_rfl) (by kernel_rfl) (by kernel_rfl) (fun _ _ _ h => h) (Or.inl ⟨by rfl, ?_⟩) (by assumption) ?_
          rotate_left 1
          · (intro w hSw; (try dsimp only at hSw); (first | (go_simp; done) | (go_simp; with_reducible rfl)))
          try simp only [Act.put, List.getElem_toArray, List.getElem_cons_zero, List.getElem_cons_succ, List.setIfInBounds_toArray, List.set_cons_zero, List.set_cons_succ]
          refine wpAnyH_take (i := 4) (oi := _) (v := ?_) rfl (by kernel_rfl) (by kernel_rfl) (by kernel_rfl) (fun _ _ _ h => h) (Or.inl ⟨by rfl, ?_⟩) (by assumption) ?_
          rotate_left 1
          · (intro w hSw; (try dsimp only at hSw); (first | (go_simp; done) | (go_simp; with_reducible rfl)))
          try simp only [Act.put, List.getElem_toArray, List.getElem_cons_zero, List.getElem_cons_succ, List.setIfInBounds_toArray, List.set_cons_zero, List.set_cons_succ]
          refine wpAnyH_take (i := 5) (oi := _) (v := ?_) rfl (by kernel_rfl) (by kernel_rfl) (by kernel_rfl) (fun _ _ _ h => h) (Or.inl ⟨by rfl, ?_⟩) (by assumption) ?_
          rotate_left 1
          · (intro w hSw; (try dsimp only at hSw); (first | (go_simp; done) | (go_simp; with_reducible rfl)))
          try simp only [Act.put, List.getElem_toArray, List.getElem_cons_zero, List.getElem_cons_succ, List.setIfInBounds_toArray, List.set_cons_zero, List.set_cons_succ]
          refine wpAnyH_take (i := 6) (oi := _) (v := .slice (some ⟨g, q, none⟩) RL (cc - 1)) rfl (by kernel_rfl) (by kernel_rfl) (by kernel_rfl) (fun _ _ _ h => h) (Or.inl ⟨by rfl, ?_⟩) (by assumption) ?_
          · (intro w hSw; (try dsimp only at hSw); (go_simp; by_cases hc1 : cc = 1 <;> simp [hc1, HQ.out]))
          try simp only [Act.put, List.getElem_toArray, List.getElem_cons_zero, List.getElem_cons_succ, List.setIfInBounds_toArray, List.set_cons_zero, List.set_cons_succ]
          refine wpAnyH_ready (rs := [1]) (by kernel_rfl) (by simp) ?_
          refine AllReadyH.cons (o := _) rfl (fun K hK => ?_) AllReadyH.nil
          go_simp
          refine hK.out _ _ be (fun hHeld => ?_)
          clear hK K
          try simp only [Act.put, List.getElem_toArray, List.getElem_cons_zero, List.getElem_cons_succ, List.setIfInBounds_toArray, List.set_cons_zero, List.set_cons_succ]
          refine wpAnyH_ready (rs := [3]) (by kernel_rfl) (by simp) ?_
          refine AllReadyH.cons (o := _) rfl (fun K hK => ?_) AllReadyH.nil
          refine step_appT rfl _ _ rfl W.heap.size (.slice (some ⟨W.heap.size, 0, none⟩) 0 0) 0 [] rfl HE.out _ p ck rfl HKe.out ?_ ?_ ?_
          · omega
          · simp
          intro v1 w1 hown1 hgrow1 hap1
          have HB1 : Hid (Below W.heap.size W w1) := hide (HBe.out.grown hgrow1 HBe.out.size (fun k hk => by have h0 : W.heap.size = k := (by simpa [Value.ownBlock] using hk); omega))
          obtain ⟨v1a, v1c, rfl⟩ := own_form hown1
          have HO1 := hide hown1
          have HCr1 := hide (HCr.out w1 (HBW.out.trans (HB1.out.mono HBW.out.size)))
          have hs1 := HB1.out.size
          have f1 := (HB1.out.cell (p := ⟨wr.heap.size, 0, none⟩) xlW).trans b0
          have HL1 := hide (fun k hk => hown1.lt k hk)
          clear hown1 hgrow1 hap1
          refine hK.out _ _ f1 (fun hHeld => ?_)
          clear hK K
          try simp only [Act.put, List.getElem_toArray, List.getElem_cons_zero, List.getElem_cons_succ, List.setIfInBounds_toArray, List.set_cons_zero, List.set_cons_succ]
          refine wpAnyH_ready (rs := [7]) (by kernel_rfl) (by simp) ?_
          refine AllReadyH.cons (o := _) rfl (fun K hK => ?_) AllReadyH.nil
          refine step_appT rfl _ _ rfl W.heap.size _ (0 + p) ([] ++ ck) rfl HO1.out _ RL cr rfl HCr1.out.2 ?_ ?_ ?_
          · omega
          · omega
          intro v2 w2 hown2 hgrow2 hap2
          have HB2 : Hid (Below W.heap.size W w2) := hide (HB1.out.grown hgrow2 HB1.out.size (fun k hk => (HL1.out k hk).1))
          obtain ⟨v2a, v2c, rfl⟩ := own_form hown2
          have HO2 : Hid (w2.ownsRow W.heap.size 56 2 (.slice v2a (p + RL) v2c) (p + RL) (ck ++ cr)) := hide (by simpa using hown2)
          have hs2 := HB2.out.size
          have f2 := (HB2.out.cell (p := ⟨wr.heap.size, 0, none⟩) xlW).trans b0
          clear hown2 hgrow2 hap2 HL1
          refine hK.out _ _ f2 (fun hHeld => ?_)
          clear hK K
          try simp only [Act.put, List.getElem_toArray, List.getElem_cons_zero, List.getElem_cons_succ, List.setIfInBounds_toArray, List.set_cons_zero, List.set_cons_succ]
          refine wpAnyH_take (i := 8) (oi := _) (v := ?_) rfl (by kernel_rfl) (by kernel_rfl) (by kernel_rfl) (fun _ _ _ h => h) (Or.inl ⟨by rfl, ?_⟩) (by assumption) ?_
          rotate_left 1
          · (intro w hSw; (try dsimp only at hSw); (first | (go_simp; done) | (go_simp; with_reducible rfl)))
          try simp only [Act.put, List.getElem_toArray, List.getElem_cons_zero, List.getElem_cons_succ, List.setIfInBounds_toArray, List.set_cons_zero, List.set_cons_succ]
          obtain ⟨V2, hV2⟩ : ∃ V2, V2 = Value.slice v2a (p + RL) v2c := ⟨_, rfl⟩
          have HV2 := hide hV2
          have HBr2 : Hid (Below wr.heap.size wr w2) := hide (HBW.out.trans (HB2.out.mono HBW.out.size))
          have HG2 : Hid (GT w2 (fun k => (Value.slice oad vs.length oc).ownBlock ≠ some k) ((anys p).app r) V2) := hide (by
            rw [HV2.out]
            refine own_gt HO2.out (by rw [F.app_len, ← HRL.out, ← HKN.out]) ((GAt.app (HKs.out w2 HBr2.out) (HCr.out w2 HBr2.out).1).keep (Nat.le_refl _) (fun k hk _ => ⟨rfl, fun e => ?_⟩)) (fun k hk hb e => ?_)
            · have := (HOl.out k e).1; omega
            · have := (HOl.out k e).2; have := HBW.out.size; omega)
          have HCa2 : Hid (Cap V2) := hide (by rw [HV2.out]; exact own_cap HO2.out)
          have HSc6 : Hid (Sc (w2.alloc (.cells #[V2] 70)) (.slice (some ⟨w2.heap.size, 0, none⟩) 1 1) 1 1 [V2]) := hide (by
            have := sc_block (w := w2.alloc (.cells #[V2] 70)) (g := w2.heap.size) (m := 1) (size := 1) (cs := #[V2]) (heap_alloc_new _ _) rfl (by rw [HV2.out]; simp [Value.oneCell']) 1
            exact this)
          have HO6 : Hid ((w2.alloc (.cells #[V2] 70)).ownsRow (w.heap.size + 1) 70 1 (.slice oad vs.length oc) vs.length vs) := hide ((own_keep HO.out (fun k _ hk => HBr2.out.block k hk)).alloc _)
          have f6 : (w2.alloc (.cells #[V2] 70)).cell? ⟨wr.heap.size, 0, none⟩ = some (.slice (some ⟨g, o2, none⟩) (RL + 1) cc) := by rw [World.cell?_alloc_some _ _ _ (by rw [f2]; rfl)]; exact f2
          refine wpAnyH_ready (rs := [9]) (by kernel_rfl) (by simp) ?_
          refine AllReadyH.cons (o := _) rfl (fun K hK => ?_) AllReadyH.nil
          go_simp
          rw [← hV2]
          refine hK.out _ _ f6 (fun hHeld => ?_)
          clear hK K
          try simp only [Act.put, List.getElem_toArray, List.getElem_cons_zero, List.getElem_cons_succ, List.setIfInBounds_toArray, List.set_cons_zero, List.set_cons_succ]
          clear hV2
          refine wpAnyH_ready (rs := [10]) (by kernel_rfl) (by simp) ?_
          refine AllReadyH.cons (o := _) rfl (fun K hK => ?_) AllReadyH.nil
          refine step_appR rfl _ _ rfl (w.heap.size + 1) _ vs.length vs rfl HO6.out _ 1 [V2] rfl HSc6.out ?_ ?_ ?_
          · omega
          · simp; omega
          intro v7 w7 hown7 hgrow7 hap7
          have HB7 : Hid (Below (w.heap.size + 1) w2 w7) := hide (((Below.refl _ _).alloc (by omega) _).grown hgrow7 (by simp; omega) (fun k hk => (HOl.out k hk).1))
          have HRO7 : Hid (ROs w7 v7 (vs ++ [V2]) ((R.take (j + 1)).filterMap (opn D c))) := hide (by
            rw [HTk.out, HOpn.out]
            exact (HRO.out.below HBr2.out).app HG2.out HCa2.out (by simp) (fun k hk => heap_alloc_old _ _ hk) hgrow7 hap7)
          have HO7 : Hid (w7.ownsRow (w.heap.size + 1) 70 1 v7 (vs ++ [V2]).length (vs ++ [V2])) := hide (by simpa using hown7)
          have f7 : w7.cell? ⟨wr.heap.size, 0, none⟩ = some (.slice (some ⟨g, o2, none⟩) (RL + 1) cc) := by
            rw [World.cell?_of_block (a := ⟨wr.heap.size, 0, none⟩) (hgrow7.block wr.heap.size (by simp; omega) (fun e => by have := (HOl.out _ e.symm).2; omega))]
            exact f6
          have HX7 : Hid (Bx w7 w.heap.size #[.slice (some ⟨db, dO, none⟩) D.length dc] 31) := hide ((HX.out.below HBr2.out xl).below HB7.out (by omega))
          have HBw7 : Hid (Below w.heap.size w w7) := hide (hB.trans ((HBr2.out.mono hsz).trans (HB7.out.mono (by omega))))
          have hl7 : (vs ++ [V2]).length ≤ j + 1 := by simp; omega
          clear hown7 hgrow7 hap7 HB7
          refine hK.out _ _ f7 (fun hHeld => ?_)
          clear hK K
          try simp only [Act.put, List.getElem_toArray, List.getElem_cons_zero, List.getElem_cons_succ, List.setIfInBounds_toArray, List.set_cons_zero, List.set_cons_succ]
          refine wpAnyH_take (i := 11) (oi := _) (v := ?_) rfl (by kernel_rfl) (by kernel_rfl) (by kernel_rfl) (fun _ _ _ h => h) (Or.inl ⟨by rfl, ?_⟩) (by assumption) ?_
          rotate_left 1
          · (intro w hSw; (try dsimp only at hSw); (first | (go_simp; done) | (go_simp; with_reducible rfl)))
          try simp only [Act.put, List.getElem_toArray, List.getElem_cons_zero, List.getElem_cons_succ, List.setIfInBounds_toArray, List.set_cons_zero, List.set_cons_succ]
          refine wpAnyH_done (by kernel_rfl) ?_ _
          refine NoPanic.normal ?_
          clear HO6 f6 HSc6 f1 f2 be HO2 HO1 HCr HCr1 HKe HE HBe HG2 HCa2 HKs HSk b0 HB1 HB2
          go_wp2_with fail
          exact ⟨⟨j + 1, vs ++ [V2], by omega, by go_num, HRO7.out, HO7.out, hl7, HX7.out, HBw7.out⟩, by simp [intOf]; omega⟩
        · by_cases hxc : x.con = (c : Int)
          · have hopn := opn_of (D := D) (k := k) (r := r) hx1 hxc
            have ht : tcon x = (c : Int) := by simp [tcon, hx1, hxc]
            have HOpn : Hid ((opn D c (.cons x k r)).toList = [k.app r]) := hide (by rw [hopn]; rfl)
            obtain ⟨q, hq⟩ : ∃ q, q = if cc = 1 then o2 else o2 + 2 := ⟨_, rfl⟩
            have HQ := hide hq
            have hxn : ¬ (c : Int) = -1 := by omega
            have hxnb : ((c : Int) == -1) = false := beq_false_of_ne (by omega)
            obtain ⟨W, hW⟩ : ∃ W, W = (wr.alloc (.cells #[.slice (some ⟨g, o2, none⟩) (RL + 1) cc] 70)).alloc (.cells #[.int .i64 (c : Int), .slice xa KL xc] 56) := ⟨_, rfl⟩
            have s2 : W.heap.size = wr.heap.size + 1 + 1 := by rw [hW]; simp
            have hbr2 : Below wr.heap.size wr W := by rw [hW]; exact ((Below.refl _ _).alloc (Nat.le_refl _) _).alloc (by simp) _
            have HBW := hide hbr2
            have HBW1 : Hid (wr.heap.size < W.heap.size) := hide (by omega)
            have b0 : W.cell? ⟨wr.heap.size, 0, none⟩ = some (.slice (some ⟨g, o2, none⟩) (RL + 1) cc) := by
              rw [hW]
              have h1 : (wr.alloc (.cells #[.slice (some ⟨g, o2, none⟩) (RL + 1) cc] 70)).cell? ⟨wr.heap.size, 0, none⟩ = some (.slice (some ⟨g, o2, none⟩) (RL + 1) cc) := by rw [cell_of_blk (heap_alloc_new wr _)]; rfl
              rw [World.cell?_alloc_some _ _ _ (by rw [h1]; rfl)]; exact h1
            obtain ⟨ck, hck⟩ := GT.sc' HGk.out
            rw [← HKL.out] at hck
            have HKs : Hid (∀ w', Below wr.heap.size wr w' → GAt w' (fun k => k < w.heap.size) k ck) := hide (fun w' hb => (hck w' hb).1)
            have HSk : Hid (∀ w', Below W.heap.size W w' → Sc w' (.slice xa KL xc) KL 2 ck) := hide (fun w' hb => (hck w' (HBW.out.trans (hb.mono HBW.out.size))).2)
            have HKN : Hid (KL = k.len) := hide HKL.out
            have HW := hide hW
            rw [ht] at q0
            clear hopn hq hx1 hx2 hx3 ok1 ht hxc hW s2 hbr2 hck d2 d0 cx
            go_upto_region 10 with fail
            rw [← HW.out]
            obtain ⟨cr, HCr⟩ : ∃ cr, Hid (∀ w', Below wr.heap.size wr w' → GAt w' (fun k => k < w.heap.size) r cr ∧ Sc w' (.slice (some ⟨g, q, none⟩) RL (cc - 1)) RL 2 cr) := by
              obtain ⟨cr, h⟩ := GT.sc' (HTl.out q (by rw [HQ.out]; split <;> simp [*]))
              exact ⟨cr, hide (fun w' hb => by have := h w' hb; rw [← HRL.out] at this; exact this)⟩
            have xlW : wr.heap.size < W.heap.size := HBW1.out
            have HE : Hid ((W.drew.alloc (.cells #[] 56)).ownsRow W.heap.size 56 2 (.slice (some ⟨W.heap.size, 0, none⟩) 0 0) 0 []) := hide (World.ownsRow_lit W.drew #[] 0 (Nat.le_refl _) (Nat.zero_le _) rfl)
            have HBe : Hid (Below W.heap.size W (W.drew.alloc (.cells #[] 56))) := hide ((belowDrew8 (Below.refl _ _)).alloc (Nat.le_refl _) _)
            have HKe := hide (HSk.out _ HBe.out)
            have be : (W.drew.alloc (.cells #[] 56)).cell? ⟨wr.heap.size, 0, none⟩ = some (.slice (some ⟨g, o2, none⟩) (RL + 1) cc) := (HBe.out.cell (p := ⟨wr.heap.size, 0, none⟩) xlW).trans b0
            refine wp_region_noPanic ?_
            refine wp_region_held_drew (S := fun w' => w'.cell? ⟨wr.heap.size, 0, none⟩ = some (.slice (some ⟨g, o2, none⟩) (RL + 1) cc)) (by kernel_rfl) b0 (fun hHeld => ?_)
            refine wpAnyH_take (i := 0) (oi := _) (v := ?_) rfl (by kernel_rfl) (by kernel_rfl) (by kernel_rfl) (fun _ _ _ h => h) (Or.inl ⟨by rfl, ?_⟩) (by assumption) ?_
            rotate_left 1
            · (intro w hSw; (try dsimp only at hSw); (first | (go_simp; done) | (go_simp; with_reducible rfl)))
            try simp only [Act.put, List.getElem_toArray, List.getElem_cons_zero, List.getElem_cons_succ, List.setIfInBounds_toArray, List.set_cons_zero, List.set_cons_succ]
            refine wpAnyH_take (i := 2) (oi := _) (v := ?_) rfl (by kernel_rfl) (by kernel_rfl) (by kernel_rfl) (fun _ _ _ h => h) (Or.inl ⟨by rfl, ?_⟩) (by assumption) ?_
            rotate_left 1
            · (intro w hSw; (try dsimp only at hSw); (first | (go_simp; done) | (go_simp; with_reducible rfl)))
            try simp only [Act.put, List.getElem_toArray, List.getElem_cons_zero, List.getElem_cons_succ, List.setIfInBounds_toArray, List.set_cons_zero, List.set_cons_succ]
            refine wpAnyH_take (i := 4) (oi := _) (v := ?_) rfl (by kernel_rfl) (by kernel_rfl) (by kernel_rfl) (fun _ _ _ h => h) (Or.inl ⟨by rfl, ?_⟩) (by assumption) ?_
            rotate_left 1
            · (intro w hSw; (try dsimp only at hSw); (first | (go_simp; done) | (go_simp; with_reducible rfl)))
            try simp only [Act.put, List.getElem_toArray, List.getElem_cons_zero, List.getElem_cons_succ, List.setIfInBounds_toArray, List.set_cons_zero, List.set_cons_succ]
            refine wpAnyH_take (i := 5) (oi := _) (v := ?_) rfl (by kernel_rfl) (by kernel_rfl) (by kernel_rfl) (fun _ _ _ h => h) (Or.inl ⟨by rfl, ?_⟩) (by assumption) ?_
            rotate_left 1
            · (intro w hSw; (try dsimp only at hSw); (first | (go_simp; done) | (go_simp; with_reducible rfl)))
            try simp only [Act.put, List.getElem_toArray, List.getElem_cons_zero, List.getElem_cons_succ, List.setIfInBounds_toArray, List.set_cons_zero, List.set_cons_succ]
            refine wpAnyH_take (i := 6) (oi := _) (v := .slice (some ⟨g, q, none⟩) RL (cc - 1)) rfl (by kernel_rfl) (by kernel_rfl) (by kernel_rfl) (fun _ _ _ h => h) (Or.inl ⟨by rfl, ?_⟩) (by assumption) ?_
            · (intro w hSw; (try dsimp only at hSw); (go_simp; by_cases hc1 : cc = 1 <;> simp [hc1, HQ.out]))
            try simp only [Act.put, List.getElem_toArray, List.getElem_cons_zero, List.getElem_cons_succ, List.setIfInBounds_toArray, List.set_cons_zero, List.set_cons_succ]
            refine wpAnyH_ready (rs := [1]) (by kernel_rfl) (by simp) ?_
            refine AllReadyH.cons (o := _) rfl (fun K hK => ?_) AllReadyH.nil
            go_simp
            refine hK.out _ _ be (fun hHeld => ?_)
            clear hK K
            try simp only [Act.put, List.getElem_toArray, List.getElem_cons_zero, List.getElem_cons_succ, List.setIfInBounds_toArray, List.set_cons_zero, List.set_cons_succ]
            refine wpAnyH_ready (rs := [3]) (by kernel_rfl) (by simp) ?_
            refine AllReadyH.cons (o := _) rfl (fun K hK => ?_) AllReadyH.nil
            refine step_appT rfl _ _ rfl W.heap.size (.slice (some ⟨W.heap.size, 0, none⟩) 0 0) 0 [] rfl HE.out _ KL ck rfl HKe.out ?_ ?_ ?_
            · omega
            · simp
            intro v1 w1 hown1 hgrow1 hap1
            have HB1 : Hid (Below W.heap.size W w1) := hide (HBe.out.grown hgrow1 HBe.out.size (fun k hk => by have h0 : W.heap.size = k := (by simpa [Value.ownBlock] using hk); omega))
            obtain ⟨v1a, v1c, rfl⟩ := own_form hown1
            have HO1 := hide hown1
            have HCr1 := hide (HCr.out w1 (HBW.out.trans (HB1.out.mono HBW.out.size)))
            have hs1 := HB1.out.size
            have f1 := (HB1.out.cell (p := ⟨wr.heap.size, 0, none⟩) xlW).trans b0
            have HL1 := hide (fun k hk => hown1.lt k hk)
            clear hown1 hgrow1 hap1
            refine hK.out _ _ f1 (fun hHeld => ?_)
            clear hK K
            try simp only [Act.put, List.getElem_toArray, List.getElem_cons_zero, List.getElem_cons_succ, List.setIfInBounds_toArray, List.set_cons_zero, List.set_cons_succ]
            refine wpAnyH_ready (rs := [7]) (by kernel_rfl) (by simp) ?_
            refine AllReadyH.cons (o := _) rfl (fun K hK => ?_) AllReadyH.nil
            refine step_appT rfl _ _ rfl W.heap.size _ (0 + KL) ([] ++ ck) rfl HO1.out _ RL cr rfl HCr1.out.2 ?_ ?_ ?_
            · omega
            · omega
            intro v2 w2 hown2 hgrow2 hap2
            have HB2 : Hid (Below W.heap.size W w2) := hide (HB1.out.grown hgrow2 HB1.out.size (fun k hk => (HL1.out k hk).1))
            obtain ⟨v2a, v2c, rfl⟩ := own_form hown2
            have HO2 : Hid (w2.ownsRow W.heap.size 56 2 (.slice v2a (KL + RL) v2c) (KL + RL) (ck ++ cr)) := hide (by simpa using hown2)
            have hs2 := HB2.out.size
            have f2 := (HB2.out.cell (p := ⟨wr.heap.size, 0, none⟩) xlW).trans b0
            clear hown2 hgrow2 hap2 HL1
            refine hK.out _ _ f2 (fun hHeld => ?_)
            clear hK K
            try simp only [Act.put, List.getElem_toArray, List.getElem_cons_zero, List.getElem_cons_succ, List.setIfInBounds_toArray, List.set_cons_zero, List.set_cons_succ]
            refine wpAnyH_take (i := 8) (oi := _) (v := ?_) rfl (by kernel_rfl) (by kernel_rfl) (by kernel_rfl) (fun _ _ _ h => h) (Or.inl ⟨by rfl, ?_⟩) (by assumption) ?_
            rotate_left 1
            · (intro w hSw; (try dsimp only at hSw); (first | (go_simp; done) | (go_simp; with_reducible rfl)))
            try simp only [Act.put, List.getElem_toArray, List.getElem_cons_zero, List.getElem_cons_succ, List.setIfInBounds_toArray, List.set_cons_zero, List.set_cons_succ]
            obtain ⟨V2, hV2⟩ : ∃ V2, V2 = Value.slice v2a (KL + RL) v2c := ⟨_, rfl⟩
            have HV2 := hide hV2
            have HBr2 : Hid (Below wr.heap.size wr w2) := hide (HBW.out.trans (HB2.out.mono HBW.out.size))
            have HG2 : Hid (GT w2 (fun k => (Value.slice oad vs.length oc).ownBlock ≠ some k) (k.app r) V2) := hide (by
              rw [HV2.out]
              refine own_gt HO2.out (by rw [F.app_len, ← HRL.out, ← HKN.out]) ((GAt.app (HKs.out w2 HBr2.out) (HCr.out w2 HBr2.out).1).keep (Nat.le_refl _) (fun k hk _ => ⟨rfl, fun e => ?_⟩)) (fun k hk hb e => ?_)
              · have := (HOl.out k e).1; omega
              · have := (HOl.out k e).2; have := HBW.out.size; omega)
            have HCa2 : Hid (Cap V2) := hide (by rw [HV2.out]; exact own_cap HO2.out)
            have HSc6 : Hid (Sc (w2.alloc (.cells #[V2] 70)) (.slice (some ⟨w2.heap.size, 0, none⟩) 1 1) 1 1 [V2]) := hide (by
              have := sc_block (w := w2.alloc (.cells #[V2] 70)) (g := w2.heap.size) (m := 1) (size := 1) (cs := #[V2]) (heap_alloc_new _ _) rfl (by rw [HV2.out]; simp [Value.oneCell']) 1
              exact this)
            have HO6 : Hid ((w2.alloc (.cells #[V2] 70)).ownsRow (w.heap.size + 1) 70 1 (.slice oad vs.length oc) vs.length vs) := hide ((own_keep HO.out (fun k _ hk => HBr2.out.block k hk)).alloc _)
            have f6 : (w2.alloc (.cells #[V2] 70)).cell? ⟨wr.heap.size, 0, none⟩ = some (.slice (some ⟨g, o2, none⟩) (RL + 1) cc) := by rw [World.cell?_alloc_some _ _ _ (by rw [f2]; rfl)]; exact f2
            refine wpAnyH_ready (rs := [9]) (by kernel_rfl) (by simp) ?_
            refine AllReadyH.cons (o := _) rfl (fun K hK => ?_) AllReadyH.nil
            go_simp
            rw [← hV2]
            refine hK.out _ _ f6 (fun hHeld => ?_)
            clear hK K
            try simp only [Act.put, List.getElem_toArray, List.getElem_cons_zero, List.getElem_cons_succ, List.setIfInBounds_toArray, List.set_cons_zero, List.set_cons_succ]
            clear hV2
            refine wpAnyH_ready (rs := [10]) (by kernel_rfl) (by simp) ?_
            refine AllReadyH.cons (o := _) rfl (fun K hK => ?_) AllReadyH.nil
            refine step_appR rfl _ _ rfl (w.heap.size + 1) _ vs.length vs rfl HO6.out _ 1 [V2] rfl HSc6.out ?_ ?_ ?_
            · omega
            · simp; omega
            intro v7 w7 hown7 hgrow7 hap7
            have HB7 : Hid (Below (w.heap.size + 1) w2 w7) := hide (((Below.refl _ _).alloc (by omega) _).grown hgrow7 (by simp; omega) (fun k hk => (HOl.out k hk).1))
            have HRO7 : Hid (ROs w7 v7 (vs ++ [V2]) ((R.take (j + 1)).filterMap (opn D c))) := hide (by
              rw [HTk.out, HOpn.out]
              exact (HRO.out.below HBr2.out).app HG2.out HCa2.out (by simp) (fun k hk => heap_alloc_old _ _ hk) hgrow7 hap7)
            have HO7 : Hid (w7.ownsRow (w.heap.size + 1) 70 1 v7 (vs ++ [V2]).length (vs ++ [V2])) := hide (by simpa using hown7)
            have f7 : w7.cell? ⟨wr.heap.size, 0, none⟩ = some (.slice (some ⟨g, o2, none⟩) (RL + 1) cc) := by
              rw [World.cell?_of_block (a := ⟨wr.heap.size, 0, none⟩) (hgrow7.block wr.heap.size (by simp; omega) (fun e => by have := (HOl.out _ e.symm).2; omega))]
              exact f6
            have HX7 : Hid (Bx w7 w.heap.size #[.slice (some ⟨db, dO, none⟩) D.length dc] 31) := hide ((HX.out.below HBr2.out xl).below HB7.out (by omega))
            have HBw7 : Hid (Below w.heap.size w w7) := hide (hB.trans ((HBr2.out.mono hsz).trans (HB7.out.mono (by omega))))
            have hl7 : (vs ++ [V2]).length ≤ j + 1 := by simp; omega
            clear hown7 hgrow7 hap7 HB7
            refine hK.out _ _ f7 (fun hHeld => ?_)
            clear hK K
            try simp only [Act.put, List.getElem_toArray, List.getElem_cons_zero, List.getElem_cons_succ, List.setIfInBounds_toArray, List.set_cons_zero, List.set_cons_succ]
            refine wpAnyH_take (i := 11) (oi := _) (v := ?_) rfl (by kernel_rfl) (by kernel_rfl) (by kernel_rfl) (fun _ _ _ h => h) (Or.inl ⟨by rfl, ?_⟩) (by assumption) ?_
            rotate_left 1
            · (intro w hSw; (try dsimp only at hSw); (first | (go_simp; done) | (go_simp; with_reducible rfl)))
            try simp only [Act.put, List.getElem_toArray, List.getElem_cons_zero, List.getElem_cons_succ, List.setIfInBounds_toArray, List.set_cons_zero, List.set_cons_succ]
            refine wpAnyH_done (by kernel_rfl) ?_ _
            refine NoPanic.normal ?_
            clear HO6 f6 HSc6 f1 f2 be HO2 HO1 HCr HCr1 HKe HE HBe HG2 HCa2 HKs HSk b0 HB1 HB2
            go_wp2_with fail
            exact ⟨⟨j + 1, vs ++ [V2], by omega, by go_num, HRO7.out, HO7.out, hl7, HX7.out, HBw7.out⟩, by simp [intOf]; omega⟩
          · have hopn := opn_not (D := D) (k := k) (r := r) hx1 hxc
            have ht : tcon x = x.con := by simp [tcon, hx1]
            have hxn : ¬ x.con = -1 := by omega
            have hxnb : (x.con == -1) = false := beq_false_of_ne (by omega)
            have hxcb : (x.con == (c : Int)) = false := by simpa using hxc
            obtain ⟨W2, hW2⟩ : ∃ W2, W2 = (wr.alloc (.cells #[.slice (some ⟨g, o2, none⟩) (RL + 1) cc] 70)).alloc (.cells #[.int .i64 x.con, .slice xa KL xc] 56) := ⟨_, rfl⟩
            have hbr2 : Below wr.heap.size wr W2 := by rw [hW2]; exact ((Below.refl _ _).alloc (Nat.le_refl _) _).alloc (by simp) _
            have HRO2 : Hid (ROs W2 (.slice oad vs.length oc) vs ((R.take (j + 1)).filterMap (opn D c))) := hide (by rw [HTk.out, hopn]; simpa using HRO.out.below hbr2)
            have HO2 := hide (own_keep HO.out (fun k _ hk => hbr2.block k hk))
            have HX2 := hide (HX.out.below hbr2 xl)
            have HBw2 : Hid (Below w.heap.size w W2) := hide (hB.trans (hbr2.mono hsz))
            have HW2 := hide hW2
            rw [ht] at q0
            clear hopn ht ok1 hW2 hbr2 HRO HO HX hx1 hx2 hx3
            go_wp2_with fail
            rw [← HW2.out]
            exact ⟨⟨j + 1, vs, by omega, by go_num, HRO2.out, HO2.out, by omega, HX2.out, HBw2.out⟩, by simp [intOf]; omega⟩
    · obtain rfl : j = RN := by omega
      have HRV : Hid (RV wr (.slice oad vs.length oc) (R.filterMap (opn D c))) := hide (by
        have h1 := HRO.out.rv HO.out
        rw [HRN.out, List.take_length] at h1
        exact h1)
      clear HRO HO
      go_wp2_with fail
      go_ret
      exact ⟨_, rfl, HRV.out, hB⟩
end Go.Proofs.Ytfepljcblajfpab.W

/-
  The specification's LiveIn, LiveOut and DeadSets. Conditions: none but those that each theorem states.
-/
import Derived.Test.YtaniiolphghhiaaLvV
import Derived.Test.YtaniiolphghhiaaLvI
namespace Go.Proofs.Ytaniiolphghhiaa.W
open Go.ChangeShapes Go.WideShapes Go.ChangeAt Go.RowKit Go.Joins
set_option linter.unusedVariables false
set_option linter.unusedSimpArgs false
set_option maxRecDepth 20000

theorem QV.nilv (w : World) : QV w (.slice none 0 0) [] := ⟨none, 0, rfl, .inl rfl, ⟨by simp, by simp⟩, Nat.le_refl _⟩
theorem lvR_sm {D F : List (List Int)} (h : GF D F) : QSm (lvR D F) := by
  have := mapLst_sm (f := lv D F) h.1.2.1
  exact ⟨by have := this.1; unfold lvR; omega, fun l hl => by have := this.2 l hl; omega⟩

set_option maxHeartbeats 4000000 in
theorem specLiveIn_any (v : Value) (D : List (List Int)) (n : Nat) (F : List (List Int)) (w : World) (h : FRow w v D n F) :
    Calls Try.prog 14 #[v] w fun e w' => ∃ v', e = .returned (.tuple #[v', .bool (goodF D F)]) ∧ QV w' v' (liR D F) ∧ Below w.heap.size w w' := by
  have HGf := hide (fun (w' : World) (hb : Below w.heap.size w w') => specGoodF_any v D n F w' (h.below hb))
  have HLi := hide (fun (w' : World) (hb : Below w.heap.size w w') (hf : GF D F) => l12Live_any v D n F w' (h.below hb) hf)
  obtain ⟨ad, c, bd, bc, rfl, -⟩ := h
  obtain ⟨nd, hnd⟩ : ∃ nd, nd = D.length := ⟨_, rfl⟩
  have hB0 : Below w.heap.size w (w.alloc (.cells #[.slice ad D.length c, .slice bd n bc] 33)) := (Below.refl _ _).alloc (Nat.le_refl _) _
  have HX := hide (Bx.new w #[.slice ad D.length c, .slice bd n bc] 33)
  rw [← hnd] at HX hB0 HGf HLi ⊢
  have HND := hide hnd
  clear hnd
  go_enter Try.func14, Try.ntmps14
  go_upto_region 1 with fail
  obtain ⟨W1, hW1⟩ : ∃ W1, W1 = w.alloc (.cells #[.slice ad nd c, .slice bd n bc] 33) := ⟨_, rfl⟩
  obtain ⟨X, hX⟩ : ∃ X, X = w.heap.size := ⟨_, rfl⟩
  rw [← hW1] at HX hB0 ⊢
  rw [← hX] at HX ⊢
  clear hW1 hX
  have cX := HX.out.c
  go_wp2_with fail
  refine Calls.mono (HGf.out _ hB0) ?_
  rintro e w1 ⟨rfl, hb⟩
  have HB1 := hide (hB0.trans (hb.mono hB0.size))
  have HX1 := hide (HX.out.below hb HX.out.lt)
  clear cX hb HGf hB0 HX
  have cX := HX1.out.c
  by_cases hg : goodF D F = true
  · have HF := hide (goodF_iff.1 hg)
    have HR := hide (liR_yes hg)
    have HGe := hide hg
    rw [hg]
    clear hg
    go_wp2_with fail
    refine Calls.mono (HLi.out _ HB1.out HF.out) ?_
    rintro e w2 ⟨Z, rfl, -, hQ, hb⟩
    have HQ := hide hQ
    have HB2 := hide (HB1.out.trans (hb.mono HB1.out.size))
    have hl : (lvR D F).length = nd := by rw [lvR_len, HND.out]
    have HV := hide (hQ.qv (lvR_sm HF.out))
    rw [hl] at HV
    clear cX hQ hb HX1 HLi hl
    go_wp2_with fail
    exact bodyPost_ret (v := .tuple #[.slice (some ⟨Z, 0, none⟩) nd nd, .bool true]) (by simp [results, Try.results14, go_sem]) rfl ⟨_, by rw [HGe.out], by rw [HR.out]; exact HV.out, HB2.out⟩
  · have hgf : goodF D F = false := by simpa using hg
    have HR := hide (liR_no hgf)
    have HGe := hide hgf
    rw [hgf]
    clear hg hgf
    go_wp2_with fail
    exact bodyPost_ret (v := .tuple #[.slice none 0 0, .bool false]) (by simp [results, Try.results14, go_sem]) rfl ⟨_, by rw [HGe.out], by rw [HR.out]; exact QV.nilv _, HB1.out⟩
theorem wpList_append_r {w : World} {ops : Array Oper} {rest : List Oper} {o : Oper} {a : Act} {Q : Exit → Act → World → Prop} (hgd : o.guard = none) (s x : Operand)
    (ho : o.op = .call { callee := .builtin .append, args := #[s, x], argTypes := #[22, 22] })
    (base : Nat) (v : Value) (n : Nat) (xs : List Value) (hs : a.eval s = v) (hown : w.ownsRow base 42 1 v n xs) (g : Nat) (y : Value) (hx : a.eval x = .slice (some ⟨g, 0, none⟩) 1 1) (hy : w.cell? ⟨g, 0, none⟩ = some y) (h1 : y.oneCell' = true) (hnm : n + 1 ≤ 1048576) (hbase : base ≤ w.heap.size)
    (h : ∀ v' w', w'.ownsRow base 42 1 v' (n + 1) (xs ++ [y]) → w.grownBy w' v.ownBlock → wpList Try.prog ops Q rest (a.put o.dst v') w') : wpList Try.prog ops Q (o :: rest) a w := by
  obtain ⟨i0, hi0, hzz⟩ := Option.map_eq_some_iff.1 infoIS
  simp only [Prod.mk.injEq] at hzz
  obtain ⟨hz0, hz1, hz2⟩ := hzz
  refine wpList_plain hgd fun K hK => ?_
  obtain ⟨v', w', hr, g2, g3, -⟩ := run_append_sep (P := Try.prog) w base 22 o.type 42 i0 (.slice none 0 0) 1 24 Try.underlying22 hi0 hz0 hz1 hz2 (by simp [Value.cells]) (by decide) v n xs hown ⟨g, 0, none⟩ 1 1 [y] rfl (fun j u hu => by
    obtain rfl : j = 0 := by have := (List.getElem?_eq_some_iff.1 hu).1; simp at this; omega
    rw [Addr.add_lit]
    simp at hu
    rw [← hu]; exact hy) (fun u hu => by simp at hu; rw [hu]; exact h1) (by unfold maxLen; omega) (by omega) hbase
  unfold Oper.wp execOp
  simp only [ho, resolve, invoke, builtin, Sem.run_bind, Sem.run_pure, Result.andThen_ok, List.map_toArray, List.map_cons, List.map_nil, hs, hx, hr]
  exact hK _ _ (h v' w' g2 g3)

theorem ous_take {D L : List (List Int)} {k : Nat} (h : k < D.length) : (ous D L).take (k + 1) = (ous D L).take k ++ [ou D L k] := by
  rw [List.take_add_one, List.getElem?_eq_getElem (by rw [ous_len]; exact h)]
  simp [ous]

set_option maxHeartbeats 8000000 in
theorem specLiveOut_any (v : Value) (D : List (List Int)) (n : Nat) (F : List (List Int)) (w : World) (h : FRow w v D n F) :
    Calls Try.prog 20 #[v] w fun e w' => ∃ v', e = .returned (.tuple #[v', .bool (goodF D F)]) ∧ QV w' v' (loR D F) ∧ Below w.heap.size w w' := by
  have HGf := hide (fun (w' : World) (hb : Below w.heap.size w w') => specGoodF_any v D n F w' (h.below hb))
  have HLi := hide (fun (w' : World) (hb : Below w.heap.size w w') (hf : GF D F) => l12Live_any v D n F w' (h.below hb) hf)
  have HOu := hide (fun (Z k : Nat) (w' : World) (hb : Below w.heap.size w w') (hf : GF D F) (hQ : QSI w' Z (lvR D F)) (hk : k < D.length) => l12Out_any v (.slice (some ⟨Z, 0, none⟩) (lvR D F).length (lvR D F).length) D n F (lvR D F) k w' (h.below hb) hf.1 (hQ.qv (lvR_sm hf)) (lvR_len D F) (lvR_r8 D F) hk)
  rw [lvR_len] at HOu
  obtain ⟨ad, c, bd, bc, rfl, -, -, -, -, -, -, hF2⟩ := h
  obtain ⟨nd, hnd⟩ : ∃ nd, nd = D.length := ⟨_, rfl⟩
  have hB0 : Below w.heap.size w (w.alloc (.cells #[.slice ad D.length c, .slice bd n bc] 33)) := (Below.refl _ _).alloc (Nat.le_refl _) _
  have HX := hide (Bx.new w #[.slice ad D.length c, .slice bd n bc] 33)
  rw [← hnd] at HX hB0 HGf HLi HOu ⊢
  have HND := hide hnd
  have HF2 := hide hF2
  clear hnd hF2
  go_enter Try.func20, Try.ntmps20
  go_upto_region 1 with fail
  obtain ⟨W1, hW1⟩ : ∃ W1, W1 = w.alloc (.cells #[.slice ad nd c, .slice bd n bc] 33) := ⟨_, rfl⟩
  obtain ⟨X, hX⟩ : ∃ X, X = w.heap.size := ⟨_, rfl⟩
  rw [← hW1] at HX hB0 ⊢
  rw [← hX] at HX ⊢
  clear hW1 hX
  have cX := HX.out.c
  go_wp2_with fail
  refine Calls.mono (HGf.out _ hB0) ?_
  rintro e w1 ⟨rfl, hb⟩
  have HB1 := hide (hB0.trans (hb.mono hB0.size))
  have HX1 := hide (HX.out.below hb HX.out.lt)
  clear cX hb HGf hB0 HX
  have cX := HX1.out.c
  by_cases hg : goodF D F = true
  · have HF := hide (goodF_iff.1 hg)
    have HR := hide (loR_yes hg)
    have HGe := hide hg
    have HNn : Hid (n = nd) := hide (by rw [HND.out]; have := (goodF_iff.1 hg).2.1; have := HF2.out; omega)
    have hn12 : nd ≤ 12 := by rw [HND.out]; exact (goodF_iff.1 hg).1.2.1
    rw [hg]
    clear hg
    go_wp2_with fail
    refine Calls.mono (HLi.out _ HB1.out HF.out) ?_
    rintro e w2 ⟨Z, rfl, -, hQ, hb⟩
    have HQ := hide hQ
    have HB2 := hide (HB1.out.trans (hb.mono HB1.out.size))
    have HX2 := hide (HX1.out.below hb HX1.out.lt)
    clear cX hQ hb HX1 HLi HB1
    have cX := HX2.out.c
    go_wp2_with fail
    clear cX
    go_loopw [5, 15] (fun v i w' => ∃ (k : Nat), k ≤ nd ∧ i = .int .i64 k ∧ OO w' w2.heap.size v ((ous D (lvR D F)).take k) ∧ Below w2.heap.size w2 w') (fun _ i _ => nd - (intOf i).toNat)
    case atStart => exact ⟨0, by omega, rfl, by rw [List.take_zero]; exact OO.nil _ _, Below.refl _ _⟩
    case round =>
      obtain ⟨k, hk, rfl, hO, hB⟩ := hrel
      have HB := hide hB
      obtain ⟨vs, hvs⟩ := hO
      have HVs := hide hvs
      have hlen : ((ous D (lvR D F)).take k).length = k := by rw [List.length_take, ous_len, ← HND.out]; omega
      have HLen := hide hlen
      obtain ⟨av, cv, rfl⟩ := own_form hvs.own
      by_cases hlt : k < nd
      · have hlt' : (k : Int) < (nd : Int) := by omega
        have hltn : (k : Int) < (n : Int) := by have := HNn.out; omega
        have hkD : k < D.length := by rw [← HND.out]; exact hlt
        have HBw := hide (HB2.out.trans (hB.mono HB2.out.size))
        have HC := hide (HOu.out Z k wr HBw.out HF.out (HQ.out.below hB) hlt)
        have hbase : w2.heap.size ≤ wr.heap.size := hB.size
        have cX := (HX2.out.below hB HX2.out.lt).c
        have HE := hide (ous_take (L := lvR D F) hkD)
        rw [hlen]
        rw [hlen] at HVs
        clear hB hvs hlen
        go_wp2_with fail
        refine Calls.mono HC.out ?_
        rintro e w3 ⟨x, rfl, ho, hb⟩
        have HOx := hide ho
        obtain ⟨xa, xc, rfl⟩ := own_form ho
        obtain ⟨W4, hW4⟩ : ∃ W4, W4 = w3.alloc (.cells #[.slice xa (ou D (lvR D F) k).length xc] 42) := ⟨_, rfl⟩
        have hb34 : Below w3.heap.size w3 W4 := by rw [hW4]; exact (Below.refl _ _).alloc (Nat.le_refl _) _
        have hb1 : Below wr.heap.size wr W4 := hb.trans (hb34.mono hb.size)
        have hx1 : ON W4 wr.heap.size (.slice xa (ou D (lvR D F) k).length xc) (ou D (lvR D F) k) := ON.below HOx.out hb34
        have hy1 : W4.cell? ⟨w3.heap.size, 0, none⟩ = some (.slice xa (ou D (lvR D F) k).length xc) := by rw [hW4]; simp
        have hob := own_keep HVs.out.own (fun k _ hk => hb1.block k hk)
        have hWl : w2.heap.size ≤ W4.heap.size := Nat.le_trans hbase hb1.size
        have HW4 := hide hW4
        have Hb1 := hide hb1
        have Hx1 := hide hx1
        have Hy1 := hide hy1
        have Hob := hide hob
        have HWl := hide hWl
        have HK := hide HLen.out
        rw [HLen.out] at Hob
        clear hW4 hb34 hb1 hx1 hy1 hob ho hb HC cX hWl HOx
        go_wp2_with (at_builtin; rw [← HW4.out]; refine wpList_append_r rfl _ _ rfl w2.heap.size _ k _ rfl Hob.out w3.heap.size _ rfl Hy1.out rfl (by omega) HWl.out ?_)
        intro v6 w6 hO6 hg6
        have HO6 := hide (HVs.out.snoc (l := ou D (lvR D F) k) hbase Hb1.out Hx1.out (by rw [HLen.out]; exact hO6) hg6)
        rw [← HE.out] at HO6
        have HB6 := hide (HB.out.trans ((Hb1.out.mono hbase).trans (grown_below hg6 HWl.out (own_ge HVs.out.own))))
        obtain ⟨av6, cv6, rfl⟩ := own_form hO6
        clear hO6 hg6 Hob Hx1 Hy1 Hb1 HW4
        go_wp2_with fail
        go_roundw
        case rel => exact ⟨k + 1, by omega, by go_num, HO6.out, HB6.out⟩
        case measure => simp [intOf]; omega
      · obtain rfl : k = nd := by omega
        have hnk : ¬ ((k : Nat) : Int) < (n : Int) := by have := HNn.out; omega
        have HE : Hid ((ous D (lvR D F)).take k = ous D (lvR D F)) := hide (List.take_of_length_le (by rw [ous_len, ← HND.out]; exact Nat.le_refl _))
        have hOO : OO wr w2.heap.size (.slice av k cv) ((ous D (lvR D F)).take k) := ⟨vs, by rw [← hlen]; rw [hlen]; have := HVs.out; rw [hlen] at this; exact this⟩
        have hsm : QSm (ous D (lvR D F)) := by
          have := mapLst_sm (f := ouB D (lvR D F)) HF.out.1.2.1
          exact ⟨by have := this.1; unfold ous ou; omega, fun l hl => by have := this.2 l hl; omega⟩
        have HV := hide (OO.qv (HE.out ▸ hOO) hsm)
        have HBf := hide (HB2.out.trans (hB.mono HB2.out.size))
        rw [hlen]
        clear hsm hOO hB hvs hlen
        go_wp2_with fail
        exact bodyPost_ret (v := .tuple #[.slice av k cv, .bool true]) (by simp [results, Try.results20, go_sem]) rfl ⟨_, by rw [HGe.out], by rw [HR.out]; exact HV.out, HBf.out⟩
  · have hgf : goodF D F = false := by simpa using hg
    have HR := hide (loR_no hgf)
    have HGe := hide hgf
    rw [hgf]
    clear hg hgf
    go_wp2_with fail
    exact bodyPost_ret (v := .tuple #[.slice none 0 0, .bool false]) (by simp [results, Try.results20, go_sem]) rfl ⟨_, by rw [HGe.out], by rw [HR.out]; exact QV.nilv _, HB1.out⟩
end Go.Proofs.Ytaniiolphghhiaa.W

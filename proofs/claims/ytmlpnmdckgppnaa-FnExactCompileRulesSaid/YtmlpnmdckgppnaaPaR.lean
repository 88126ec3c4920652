/-
  The specification's reader of patterns: a row is read as a tree that lies in new memory. Conditions: good data, at most 1048576 cells. Written by wip/build/mk_pard.py.
-/
import Derived.Test.YtmlpnmdckgppnaaPaR0
namespace Go.Proofs.Ytmlpnmdckgppnaa.W
open Go.ChangeShapes Go.WideShapes Go.ChangeAt Go.RowKit
set_option linter.unusedVariables false

set_option maxRecDepth 20000 in
set_option maxHeartbeats 8000000 in
theorem l8ReadPat_node (f : Nat) (vd : Value) (D : List Int) (ad : Option Addr) (c : Nat) (l : List Pt) (at_ : Nat) (w : World) (ih : RdIHp f vd D ad c l) (hl : l.length ≤ 1048576) (hD : DRow w vd D) (hd : goodD D = true) (hR : PtRow w ad l) (hlt : at_ < l.length) (hf : l.length - at_ ≤ f + 1) (hk : l[at_].kd = 2 ∧ goodC D l[at_] = true) : RdGoal 34 vd D (.slice ad l.length c) l at_ w := by
  have IH := hide ih
  clear ih
  unfold RdGoal
  have HR := hide hR
  have HD := hide hD
  clear hR
  have hlt' : (at_ : Int) < (l.length : Int) := by omega
  have hnle : ¬ (l.length : Int) ≤ (at_ : Int) := by omega
  have hat0 : (0 : Int) ≤ (at_ : Int) := by omega
  obtain ⟨da, dc, rfl, hDi, hDl⟩ := hD
  obtain ⟨b, o, rfl, hb, p0, p1⟩ := PtRow.tok HR.out (Below.refl _ _) hlt
  have hdr : l.drop at_ = l[at_] :: l.drop (at_ + 1) := List.drop_eq_getElem_cons hlt
  obtain ⟨x, hx⟩ : ∃ x, x = l[at_] := ⟨_, rfl⟩
  rw [← hx] at p0 p1 hdr hk
  rw [hdr]
  have HAt := hide (show (l.length - (l.drop (at_ + 1)).length : Nat) = at_ + 1 by rw [List.length_drop]; omega)
  clear hx hdr
  obtain ⟨hk2, hg⟩ := hk
  rw [rt_1 hg]
  obtain ⟨ci, hci, hcon, hDa⟩ := ar_at hd hg (by omega)
  have hN2 := ar_le hd x
  obtain ⟨Rt, hRt⟩ : ∃ Rt, Rt = rt D (ar D x) (l.drop (at_ + 1)) := ⟨_, rfl⟩
  rw [← hRt]
  have HRt := hide hRt
  clear hRt hg
  obtain ⟨N, hN⟩ : ∃ N, N = ar D x := ⟨_, rfl⟩
  rw [← hN] at HRt hDa hN2
  have HDa := hide hDa
  clear hN hDa hd
  obtain ⟨xk, xn⟩ := x
  simp only at hcon hk2 p0 p1
  skip
  subst hcon hk2
  have hcl : (ci : Int) < (D.length : Int) := by omega
  have hcn0 : (0 : Int) ≤ (ci : Int) := by omega
  have hcnl : ¬ (D.length : Int) ≤ (ci : Int) := by omega
  obtain ⟨i0, hi0, hz0, hz1, hz2⟩ := infoPartsT infoT
  have Hi := hide hi0
  clear hi0
  go_enter Try.func34, Try.ntmps34
  go_upto_region 1 with fail
  have HB0 := hide (show Below w.heap.size w ((w.alloc (.cells #[.slice da D.length dc] 31)).alloc (.cells #[.int .i64 0, .slice none 0 0] 50)) from ((Below.refl _ _).alloc (Nat.le_refl _) _).alloc (by simp) _)
  have X0 := (Bx.new w #[.slice da D.length dc] 31).alloc (.cells #[.int .i64 0, .slice none 0 0] 50)
  have X1 := Bx.new (w.alloc (.cells #[.slice da D.length dc] 31)) #[.int .i64 0, .slice none 0 0] 50
  have hS0 : ((w.alloc (.cells #[.slice da D.length dc] 31)).alloc (.cells #[.int .i64 0, .slice none 0 0] 50)).heap.size = w.heap.size + 2 := by simp
  rw [show (w.alloc (.cells #[.slice da D.length dc] 31)).heap.size = w.heap.size + 1 by simp] at X1
  obtain ⟨w0, hw0⟩ : ∃ w0, w0 = ((w.alloc (.cells #[.slice da D.length dc] 31)).alloc (.cells #[.int .i64 0, .slice none 0 0] 50)) := ⟨_, rfl⟩
  rw [← hw0] at HB0 X0 X1 hS0 ⊢
  have HX0 := hide X0
  have HX1 := hide X1
  have HS0 := hide hS0
  have hS1 : w.heap.size + 1 < w0.heap.size := by omega
  clear hw0 X0 X1 hS0
  have q0 : w0.cell? ⟨b, o + at_ * 2, none⟩ = some (.int .i64 2) := (HB0.out.cell (p := ⟨b, o + at_ * 2, none⟩) hb).trans p0
  have q1 : w0.cell? ⟨b, o + at_ * 2 + 1, none⟩ = some (.int .i64 (ci : Int)) := (HB0.out.cell (p := ⟨b, o + at_ * 2 + 1, none⟩) hb).trans p1
  have cxx : w0.cell? ⟨w.heap.size, 0, none⟩ = some (.slice da D.length dc) := HX0.out.c 0
  have hxx : (w0.alloc (.cells #[.int .i64 2, .int .i64 (ci : Int)] 75)).heap.size = w.heap.size + 3 := by have := HS0.out; simp [this]
  have zc : ∀ i, w0.cell? ⟨w.heap.size + 1, i, none⟩ = #[.int .i64 0, .slice none 0 0][i]? := HX1.out.c
  have zf : ∀ i, w0.frozen? ⟨w.heap.size + 1, i, none⟩ = false := HX1.out.f
  have hS2 : w.heap.size < w0.heap.size := by omega
  have HBs : Hid (∀ (u v : Value) (X : Obj), Below w.heap.size w (((w0.setCell ⟨w.heap.size + 1, 0, none⟩ u).setCell ⟨w.heap.size + 1, 1, none⟩ v).alloc X)) := hide (fun u v X => ((HB0.out.setCell (p := ⟨w.heap.size + 1, 0, none⟩) (by simp) _).setCell (p := ⟨w.heap.size + 1, 1, none⟩) (by simp) _).alloc (by simp [World.setCell]; omega) _)
  have HBx := hide (show Below w.heap.size w (w0.alloc (.cells #[.int .i64 2, .int .i64 (ci : Int)] 75)) from HB0.out.alloc HB0.out.size _)
  have Hxx := hide hxx
  clear p0 p1 hxx
  have HBn := hide (show ∀ p : Obj, Below w.heap.size w ((w0.alloc (.cells #[.int .i64 2, .int .i64 (ci : Int)] 75)).alloc p) from fun p => HBx.out.alloc HBx.out.size _)
  go_wp2_with fail
  have hB := HBn.out (.cells #[.int .i64 (ci : Int), .slice none 0 0] 50)
  have hS : RdP ((w0.alloc (.cells #[.int .i64 2, .int .i64 (ci : Int)] 75)).alloc (.cells #[.int .i64 (ci : Int), .slice none 0 0] 50)) w.heap.size da dc D ⟨2, (ci : Int)⟩ (.slice none 0 0) := by
    refine ⟨(HX0.out.alloc _).alloc _, (HX1.out.alloc _).alloc _, ?_, ?_⟩
    · rw [← HS0.out]; exact (Bx.new w0 _ _).alloc _
    · rw [← Hxx.out]; exact Bx.new _ _ _
  rw [show w0.heap.size + 1 = w.heap.size + 3 by have := HS0.out; omega, HS0.out]
  obtain ⟨w1, hw1⟩ : ∃ w1, w1 = ((w0.alloc (.cells #[.int .i64 2, .int .i64 (ci : Int)] 75)).alloc (.cells #[.int .i64 (ci : Int), .slice none 0 0] 50)) := ⟨_, rfl⟩
  rw [← hw1] at hB hS ⊢
  have HS1 := hide hS
  clear hw1 hS HBn HBx HBs HB0 Hxx cxx zc zf q0 q1 HX0 HX1 hS1 hS2
  go_loopw [2, 10] (fun a1 m8 w' => ∃ (done : F) (r : List Pt) (s : Value) (cs : List Value), done.len ≤ N ∧ r.length < l.length - at_ ∧ r = l.drop (l.length - r.length) ∧ a1 = .int .i64 ((l.length - r.length : Nat) : Int) ∧ m8 = .int .i64 (done.len : Int) ∧
    Rt = (rt D (N - done.len) r).map (fun p => (done.app p.1, p.2)) ∧ Below w.heap.size w w' ∧ RdP w' w.heap.size da dc D ⟨2, (ci : Int)⟩ s ∧
    KidsAt w' (fun g => w.heap.size + 3 < g ∧ s.ownBlock ≠ some g) done cs ∧ w'.ownsRow (w.heap.size + 3 + 1) 50 2 s done.len cs ∧ Holds w' (fun g => w.heap.size + 3 < g) s done.len cs) (fun _ m8 _ => N - (intOf m8).toNat)
  case atStart =>
    refine ⟨.nil, l.drop (at_ + 1), _, [], by simp [F.len], by rw [List.length_drop]; omega, by rw [HAt.out], by rw [HAt.out]; simp, rfl, ?_, hB, HS1.out, rfl, World.ownsRow_nil _ _ _ _, .inl ⟨rfl, rfl⟩⟩
    rw [HRt.out]
    show rt D N (l.drop (at_ + 1)) = (rt D N (l.drop (at_ + 1))).map _
    cases rt D N (l.drop (at_ + 1)) with
    | none => rfl
    | some p => rfl
  case round =>
    obtain ⟨done, r, s, cs, hM, hrl, hr, rfl, rfl, hRt, hBr, hS, hK, hO, hH⟩ := hrel
    clear HS1 hB
    have HK := hide hK
    have HO := hide hO
    have HH := hide hH
    have HS := hide hS
    have Hr := hide hr
    have HRt2 := hide hRt
    have hTr := hS.lt
    clear hK hO hH hS hr hRt
    obtain ⟨sad, sn, sc, rfl⟩ : ∃ sad sn sc, s = .slice sad sn sc := by
      rcases HH.out with ⟨_, e⟩ | ⟨_, g, cap, e, _⟩ <;> exact ⟨_, _, _, e⟩
    obtain ⟨db, dof, hda, hdb, pD⟩ := IRow.iat hDi hBr hci
    rw [HDa.out] at pD
    subst hda
    have e0 := HS.out.1.c
    have y0 := HS.out.p.c
    have e2 := HS.out.2.2.1.c
    have hcl' : (ci : Int) < (D.length : Int) := by omega
    have hb1 : w.heap.size < wr.heap.size := by omega
    have hb2 : w.heap.size + 1 < wr.heap.size := by omega
    have hb3 : w.heap.size + 2 < wr.heap.size := by omega
    by_cases hM0 : done.len = N
    · have zf := HS.out.2.1.f
      have zc := HS.out.2.1.c
      have e1 : Rt = some (done, r) := by rw [HRt2.out, hM0, Nat.sub_self, rt_0]; simp [F.app_nil]
      have HE1 := hide e1
      clear e1
      have hM0' : ¬ ((done.len : Nat) : Int) < (N : Int) := by omega
      have HM0 := hide hM0
      clear hM0
      go_wp2_with fail
      refine bodyPost_ret (v := .tuple #[.agg #[.int .i64 (ci : Int), .slice sad sn sc], .int .i64 ((l.length - r.length : Nat) : Int)]) (by simp [results, Try.results34, go_sem, *]) rfl ⟨(hBr.setCell (p := ⟨w.heap.size + 1, 0, none⟩) (by simp) _).setCell (p := ⟨w.heap.size + 1, 1, none⟩) (by simp) _, ?_⟩
      rw [HE1.out]
      refine ⟨⟨2, (ci : Int)⟩, done, _, rfl, rfl, ?_⟩
      have hkk : KidT wr (fun g => w.heap.size + 3 < g) done (.slice sad sn sc) := ⟨cs, HK.out.keep (Nat.le_refl _) (fun k hk _ => ⟨rfl, hk.1⟩), HH.out⟩
      refine hkk.keep (by simp [World.setCell]) (fun k hk1 hk2 => ⟨?_, by omega⟩)
      have hkn : k ≠ w.heap.size + 1 := by omega
      rw [Below.heap_setCell _ _ _ _ hkn, Below.heap_setCell _ _ _ _ hkn]
    · have hMp : ((done.len : Nat) : Int) < (N : Int) := by omega
      have HRt3 : Hid (Rt = (match rt D 1 r with | none => none | some (t, r2) => (rt D (N - (done.len + 1)) r2).map fun p => (done.app (t.app p.1), p.2))) := hide (by
        rw [HRt2.out, show N - done.len = (N - (done.len + 1)) + 1 by omega, rt_succ]
        cases rt D 1 r with
        | none => rfl
        | some q => simp only [Option.map_map]; rfl)
      obtain ⟨E0, hE0⟩ : ∃ E0, E0 = l.length - r.length := ⟨_, rfl⟩
      have HE0 := hide hE0
      rw [← hE0] at Hr ⊢
      have hE0l : E0 ≤ l.length := by omega
      have hE0f : l.length - E0 ≤ f := by omega
      clear hE0 HRt2
      obtain ⟨DL, hDL⟩ : ∃ DL, DL = done.len := ⟨_, rfl⟩
      rw [← hDL] at hMp HO HH HRt3 ⊢
      have HDL := hide hDL
      have hDL2 : DL < N := by omega
      have hDL3 : DL < 2 := by omega
      clear hDL
      go_wp2_with fail
      refine Calls.mono (IH.out E0 _ (HD.out.below hBr) (RRow.below HR.out hBr) hE0l hE0f) ?_
      rintro e w3 ⟨hb3', ho3⟩
      rw [← Hr.out] at ho3
      have hsz3 := hb3'.size
      have hB3 : Below w.heap.size w w3 := hBr.trans (hb3'.mono hBr.size)
      have HS3 := hide (HS.out.keep (w' := w3) (fun k hk => hb3'.block k (by omega)))
      clear e0 y0 e2 pD
      have hlt3 : w.heap.size + 3 < w3.heap.size := by omega
      cases hrd : rt D 1 r with
      | none =>
        rw [hrd] at ho3
        have e1 : Rt = none := by rw [HRt3.out, hrd]
        subst e1
        have ho3' : e = .returned (.tuple #[.agg #[.int .i64 0, .slice none 0 0], .int .i64 0]) := ho3
        subst ho3'
        clear ho3 hrd
        have zf := HS3.out.2.1.f
        have zc := HS3.out.2.1.c
        have hlt4 : w.heap.size + 1 < w3.heap.size := by omega
        go_wp2_with fail
        exact bodyPost_ret (v := .tuple #[.agg #[.int .i64 0, .slice none 0 0], .int .i64 0]) (by simp [results, Try.results34, go_sem, *]) rfl ⟨((hB3.setCell (p := ⟨w.heap.size + 1, 0, none⟩) (by simp) _).setCell (p := ⟨w.heap.size + 1, 1, none⟩) (by simp) _).alloc (by simp; omega) _, rfl⟩
      | some q =>
        obtain ⟨a, r'⟩ := q
        rw [hrd] at ho3
        obtain ⟨y, ky, sy, rfl, rfl, hTy⟩ := ho3
        have hrf := rt_flat hrd
        have hrl' : r'.length < r.length := by have := congrArg List.length hrf.1; simp [F.flat] at this; omega
        have hr' : r' = l.drop (l.length - r'.length) := rt_end (by rw [Hr.out] at hrf; exact hrf.1)
        have HRd := hide hrd
        have HR' := hide hr'
        clear hrd hrf hr'
        obtain ⟨yad, yc, rfl⟩ := hTy.form
        obtain ⟨yn, hyn⟩ : ∃ yn, yn = ky.len := ⟨_, rfl⟩
        rw [← hyn] at hTy ⊢
        clear hyn
        have HTy := hide hTy
        clear hTy
        have y1 := HS3.out.p.c 1
        have fy := HS3.out.p.f
        simp only [List.getElem?_toArray, List.getElem?_cons_zero, List.getElem?_cons_succ] at y1
        have hne : ¬ ((l.length - r'.length : Nat) : Int) = 0 := by omega
        obtain ⟨E1, hE1⟩ : ∃ E1, E1 = l.length - r'.length := ⟨_, rfl⟩
        rw [← hE1] at hne ⊢
        have HE1 := hide hE1
        clear hE1
        obtain ⟨Y, hY⟩ : ∃ Y, Y = tcon y := ⟨_, rfl⟩
        rw [← hY]
        have HYc := hide hY
        clear hY
        have hO3 := tOwn_keep HO.out (w' := w3) (fun k _ hk => hb3'.block k hk)
        have hol := HO.out.lt
        have HOl := hide hol
        clear hol
        go_wp2_with (at_builtin; refine wpList_append_sep rfl _ _ 45 rfl (w.heap.size + 3 + 1) 50 i0 (.agg #[.int .i64 0, .slice none 0 0]) 2 32 Try.underlying45 Hi.out hz0 hz1 hz2 rfl (by decide) _ _ _ rfl ((hO3.alloc _).alloc _) ⟨w3.heap.size + 1, 0, none⟩ 1 1 (tC y (.slice yad yn yc)) rfl rfl ?c1 ?c2 ?c3 ?c4 ?c5 ?_)
        case c1 => exact tC_cells (by have := heap_alloc_new (w3.alloc (.cells #[.int .i64 Y, .slice yad yn yc] 50)) (.cells #[.int .i64 Y, .slice yad yn yc] 50); rw [← HYc.out]; simpa using this)
        case c2 => exact tC_one _ _ rfl
        case c3 => unfold maxLen; omega
        case c4 => omega
        case c5 => simp; omega
        intro v' w4 hown4 hgrow hap
        have hb4 : Below (w.heap.size + 3 + 1) w3 w4 := (((Below.refl _ _).alloc (by omega) _).alloc (by simp; omega) _).grown hgrow (by simp; omega) (fun k hk => (HOl.out k hk).1)
        have hk4 : ∀ k, (Value.slice sad sn sc).ownBlock ≠ some k → k < w3.heap.size → w4.heap[k]? = w3.heap[k]? := fun k hk hlt => by
          rw [hgrow.block k (by simp; omega) (fun e => hk e.symm), heap_alloc_old _ _ (by simp; omega), heap_alloc_old _ _ hlt]
        have hap' : ∀ k, k < w3.heap.size → (Value.slice sad sn sc).ownBlock ≠ some k → v'.ownBlock ≠ some k := fun k hk hn e => by
          rcases hap k e with h | h
          · exact hn h
          · simp at h; omega
        have hsz4 : w3.heap.size ≤ w4.heap.size := hb4.size
        have HS4 := hide (HS3.out.keep (w' := w4) (fun k hk => hb4.block k (by omega)))
        obtain ⟨g, cap, rfl, hg0, hg1, hgc⟩ := tOwn_lies hown4 (by omega)
        have HL := hide hgc
        have HK4 := hide hk4
        have HO4 := hide hown4
        have HAp := hide hap'
        clear hown4 hO3 hgrow hgc hap hk4 hap' y1 fy
        have y1 := HS4.out.p.c 1
        have fy := HS4.out.p.f
        simp only [List.getElem?_toArray, List.getElem?_cons_zero, List.getElem?_cons_succ] at y1
        go_wp2_with fail
        have hbf : ∀ k, k ≠ w.heap.size + 3 → (w4.setCell ⟨w.heap.size + 3, 1, none⟩ (.slice (some ⟨g, 0, none⟩) (DL + 1) cap)).heap[k]? = w4.heap[k]? := fun k hk => Below.heap_setCell _ _ _ _ hk
        have hss : (w4.setCell ⟨w.heap.size + 3, 1, none⟩ (.slice (some ⟨g, 0, none⟩) (DL + 1) cap)).heap.size = w4.heap.size := by simp [World.setCell]
        have hdl : (done.app (.cons y ky .nil)).len = DL + 1 := by rw [F.app_len, ← HDL.out]; rfl
        refine ⟨⟨done.app (.cons y ky .nil), r', .slice (some ⟨g, 0, none⟩) (DL + 1) cap, cs ++ tC y (.slice yad yn yc), by omega, by omega, HR'.out, by rw [HE1.out], by rw [hdl]; go_num, ?_, (hB3.trans (hb4.mono (by omega))).setCell (by simp <;> omega) _, ?_, ?_, ?_, ?_⟩, by simp [intOf]; omega⟩
        · rw [HRt3.out, HRd.out, hdl]
          simp only
          congr 1
          funext p
          simp [F.app_assoc]
        · obtain ⟨k0, k1, k2, k3⟩ := HS4.out
          refine ⟨k0.setne _ _ _ (by omega), k1.setne _ _ _ (by omega), k2.setne _ _ _ (by omega), ?_⟩
          exact k3.set 1 _
        · have hown : ∀ k, wr.heap.size ≤ k → (Value.slice sad sn sc).ownBlock ≠ some k := fun k hk e => by have := (HOl.out k e).2; omega
          have k1 : KidsAt (w4.setCell ⟨w.heap.size + 3, 1, none⟩ (.slice (some ⟨g, 0, none⟩) (DL + 1) cap)) (fun k => w.heap.size + 3 < k ∧ (Value.slice (some ⟨g, 0, none⟩) (DL + 1) cap).ownBlock ≠ some k) done cs := by
            refine HK.out.keep (by rw [hss]; omega) (fun k hk1 hk2 => ⟨?_, hk1.1, ?_⟩)
            · rw [hbf k (by omega), HK4.out k hk1.2 (by omega), hb3'.block k hk2]
            · exact HAp.out k (by omega) hk1.2
          have k2 : KidT (w4.setCell ⟨w.heap.size + 3, 1, none⟩ (.slice (some ⟨g, 0, none⟩) (DL + 1) cap)) (fun k => w.heap.size + 3 < k ∧ (Value.slice (some ⟨g, 0, none⟩) (DL + 1) cap).ownBlock ≠ some k) ky (.slice yad yn yc) := by
            refine HTy.out.keep (by rw [hss]; omega) (fun k hk1 hk2 => ⟨?_, by omega, ?_⟩)
            · rw [hbf k (by omega), HK4.out k (hown k hk1) hk2]
            · exact HAp.out k hk2 (hown k hk1)
          exact KidsAt.app k1 ⟨.slice yad yn yc, [], (List.append_nil _).symm, k2, rfl⟩
        · rw [hdl]
          exact tOwn_keep HO4.out (fun k hk1 hk2 => hbf k (by omega))
        · rw [hdl]
          refine .inr ⟨by omega, g, cap, rfl, by omega, by rw [hss]; omega, fun j v hj => ?_⟩
          rw [World.cell?_of_block (w := w4) (hbf g (by omega))]
          exact HL.out j v hj

theorem l8ReadPat_all : ∀ (f : Nat) (vd : Value) (D : List Int) (ad : Option Addr) (c : Nat) (l : List Pt) (at_ : Nat) (w : World), l.length ≤ 1048576 → goodD D = true → DRow w vd D → PtRow w ad l → at_ ≤ l.length → l.length - at_ ≤ f → RdGoal 34 vd D (.slice ad l.length c) l at_ w
  | 0, vd, D, ad, c, l, at_, w, hl, _, hD, _, ha, hf => l8ReadPat_none vd D ad c l at_ w hl hD (by omega) ha
  | f + 1, vd, D, ad, c, l, at_, w, hl, hd, hD, h, ha, hf => by
    by_cases hlt : at_ < l.length
    · by_cases h1 : l[at_].kd = 1
      · exact l8ReadPat_any vd D ad c l at_ w hl hD h hlt h1
      · cases hg : goodC D l[at_] with
        | false => exact l8ReadPat_bad vd D ad c l at_ w hl hD h hlt ⟨h1, hg⟩
        | true => exact l8ReadPat_node f vd D ad c l at_ w (fun at' w' a1 a2 a3 a4 => l8ReadPat_all f vd D ad c l at' w' hl hd a1 a2 a3 a4) hl hD hd h hlt hf ⟨by simp only [goodC, if_neg h1, Bool.and_eq_true, decide_eq_true_eq] at hg; exact hg.1, hg⟩
    · exact l8ReadPat_none vd D ad c l at_ w hl hD (by omega) ha
end Go.Proofs.Ytmlpnmdckgppnaa.W

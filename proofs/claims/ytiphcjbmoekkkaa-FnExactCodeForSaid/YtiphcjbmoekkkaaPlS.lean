/-
  The specification's reader of trees: contracts of l13Read, l13Tree and GoodComp: a row of cells is read as a tree that lies in new memory. Conditions: at most 1048576 cells.
-/
import Derived.Test.YtiphcjbmoekkkaaPlS1
namespace Go.Proofs.Ytiphcjbmoekkkaa.L
open Go.Proofs.Ytiphcjbmoekkkaa.W
open Go.ChangeShapes Go.WideShapes Go.ChangeAt Go.RowKit
set_option linter.unusedVariables false


/-- What stands at the loop's head: the answer's place, the cell, the tree. -/
def Rd3 (w' : World) (b0 : Nat) (k p : Int) (s : Value) : Prop :=
  w'.heap[b0]? = some (.cells #[.int .i64 0, .int .i64 0, .int .i64 0, .slice none 0 0] 51 (0, 0)) ∧ w'.heap[b0 + 1]? = some (.cells #[.int .i64 k, .int .i64 0] 55 (0, 0)) ∧ w'.heap[b0 + 2]? = some (.cells #[.int .i64 k, .int .i64 0, .int .i64 p, s] 51 (0, 0))
theorem rd3_start (w : World) (k p : Int) : Rd3 (((w.alloc (.cells #[.int .i64 0, .int .i64 0, .int .i64 0, .slice none 0 0] 51)).alloc (.cells #[.int .i64 k, .int .i64 0] 55)).alloc (.cells #[.int .i64 k, .int .i64 0, .int .i64 p, .slice none 0 0] 51)) w.heap.size k p (.slice none 0 0) := by
  refine ⟨?_, ?_, ?_⟩
  · rw [heap_alloc_old _ _ (by simp; omega), heap_alloc_old _ _ (by simp)]; exact heap_alloc_new w _
  · rw [heap_alloc_old _ _ (by simp)]
    have := heap_alloc_new (w.alloc (.cells #[.int .i64 0, .int .i64 0, .int .i64 0, .slice none 0 0] 51)) (.cells #[.int .i64 k, .int .i64 0] 55)
    simpa using this
  · have := heap_alloc_new ((w.alloc (.cells #[.int .i64 0, .int .i64 0, .int .i64 0, .slice none 0 0] 51)).alloc (.cells #[.int .i64 k, .int .i64 0] 55)) (.cells #[.int .i64 k, .int .i64 0, .int .i64 p, .slice none 0 0] 51)
    simpa using this
theorem Rd3.keep {w w' : World} {b0 : Nat} {k p : Int} {s : Value} (h : Rd3 w b0 k p s) (hb : ∀ k, k < b0 + 3 → w'.heap[k]? = w.heap[k]?) : Rd3 w' b0 k p s :=
  ⟨(hb _ (by omega)).trans h.1, (hb _ (by omega)).trans h.2.1, (hb _ (by omega)).trans h.2.2⟩
theorem Rd3.lt {w : World} {b0 : Nat} {k p : Int} {s : Value} (h : Rd3 w b0 k p s) : b0 + 2 < w.heap.size := (Array.getElem?_eq_some_iff.1 h.2.2).1

set_option maxRecDepth 20000 in
set_option maxHeartbeats 4000000 in
theorem l13Read_fun (f : Nat) (ad : Option Addr) (c : Nat) (l : List Cc) (at_ : Nat) (w : World) (ih : TRdIH f ad c l) (hl : l.length ≤ 1048576) (hR : CRow w ad l) (hlt : at_ < l.length) (hf : l.length - at_ ≤ f + 1) (h3 : goodC l[at_] = true) (h4 : l[at_].k ≠ 1) :
    TRdGoal ad c l at_ w := by
  unfold TRdGoal
  have IH := hide ih
  have HR := hide hR
  clear ih hR
  have hlt' : (at_ : Int) < (l.length : Int) := by omega
  have hnle : ¬ l.length ≤ at_ := by omega
  obtain ⟨b, o, rfl, hb, p0, p1⟩ := HR.out.tok (Below.refl _ _) hlt
  have hd : l.drop at_ = l[at_] :: l.drop (at_ + 1) := List.drop_eq_getElem_cons hlt
  obtain ⟨x, hx⟩ : ∃ x, x = l[at_] := ⟨_, rfl⟩
  rw [← hx] at p0 p1 hd h3 h4
  rw [hd]
  have hat1 : (l.length - (l.drop (at_ + 1)).length : Nat) = at_ + 1 := by rw [List.length_drop]; omega
  have HAt := hide hat1
  clear hx hd hat1
  have q0 : ∀ B : Obj, (w.alloc B).cell? ⟨b, o + at_ * 2, none⟩ = some (.int .i64 x.k) := fun B => by rw [((Below.refl w.heap.size w).alloc (Nat.le_refl _) _).cell hb]; exact p0
  have q1 : ∀ B : Obj, (w.alloc B).cell? ⟨b, o + at_ * 2 + 1, none⟩ = some (.int .i64 x.n) := fun B => by rw [((Below.refl w.heap.size w).alloc (Nat.le_refl _) _).cell hb]; exact p1
  obtain ⟨xk, xn⟩ := x
  simp only at *
  have hg := h3
  simp only [goodC, if_neg h4, Bool.and_eq_true, decide_eq_true_eq] at h3
  obtain ⟨hn, rfl⟩ := h3
  have HB3 : Hid (∀ o1 o2 o3 : Obj, Below w.heap.size w (((w.alloc o1).alloc o2).alloc o3)) := hide (fun o1 o2 o3 => (((Below.refl _ _).alloc (Nat.le_refl _) _).alloc (by simp) _).alloc (by simp; omega) _)
  have HS := hide (rd3_start w xk (at_ : Int))
  have HC := hide (l1In_any xk 2 4)
  rw [hn] at HC
  have har : ar xk = 2 := by unfold ar; rw [if_neg h4]
  rw [rt_1 hg, har]
  obtain ⟨Rt, hRt⟩ : ∃ Rt, Rt = rt 2 (l.drop (at_ + 1)) := ⟨_, rfl⟩
  rw [← hRt]
  have HRt := hide hRt
  clear hRt hg hn har
  obtain ⟨i0, hi0, hz0, hz1, hz2⟩ := infoPartsT infoT
  have Hi := hide hi0
  clear hi0
  go_enter Try.func56, Try.ntmps56
  go_wp2_with fail
  refine (HC.out _).mono ?_
  rintro e w' ⟨rfl, rfl⟩
  go_wp2_with fail
  have hB := HB3.out (.cells #[.int .i64 0, .int .i64 0, .int .i64 0, .slice none 0 0] 51) (.cells #[.int .i64 xk, .int .i64 0] 55) (.cells #[.int .i64 xk, .int .i64 0, .int .i64 (at_ : Int), .slice none 0 0] 51)
  have hS := HS.out
  obtain ⟨w1, hw1⟩ : ∃ w1, w1 = (((w.alloc (.cells #[.int .i64 0, .int .i64 0, .int .i64 0, .slice none 0 0] 51)).alloc (.cells #[.int .i64 xk, .int .i64 0] 55)).alloc (.cells #[.int .i64 xk, .int .i64 0, .int .i64 (at_ : Int), .slice none 0 0] 51)) := ⟨_, rfl⟩
  rw [← hw1] at hB hS ⊢
  have HS1 := hide hS
  clear hw1 hS HS HB3 q0 q1 p0 p1
  go_loopw [1, 8] (fun a1 m8 w' => ∃ (done : F) (r : List Cc) (s : Value) (cs : List Value), done.len ≤ 2 ∧ r.length < l.length - at_ ∧ r = l.drop (l.length - r.length) ∧ a1 = .int .i64 ((l.length - r.length : Nat) : Int) ∧ m8 = .int .i64 (done.len : Int) ∧
    Rt = (rt (2 - done.len) r).map (fun p => (done.app p.1, p.2)) ∧ Below w.heap.size w w' ∧ Rd3 w' w.heap.size xk (at_ : Int) s ∧
    KidsAt w' (fun g => w.heap.size + 2 < g ∧ s.ownBlock ≠ some g) done (at_ + 1) cs ∧ at_ + 1 + done.flat.length = l.length - r.length ∧ w'.ownsRow (w.heap.size + 2 + 1) 51 4 s done.len cs ∧ Holds w' (fun g => w.heap.size + 2 < g) s done.len cs) (fun _ m8 _ => 2 - (intOf m8).toNat)
  case atStart =>
    refine ⟨.nil, l.drop (at_ + 1), _, [], by simp [F.len], by rw [List.length_drop]; omega, by rw [HAt.out], by rw [HAt.out]; simp, rfl, ?_, hB, HS1.out, rfl, by rw [HAt.out]; rfl, World.ownsRow_nil _ _ _ _, .inl ⟨rfl, rfl⟩⟩
    rw [HRt.out]
    show rt 2 (l.drop (at_ + 1)) = (rt 2 (l.drop (at_ + 1))).map _
    cases rt 2 (l.drop (at_ + 1)) with
    | none => rfl
    | some p => rfl
  case round =>
    obtain ⟨done, r, s, cs, hM, hrl, hr, rfl, rfl, hRt, hBr, hS, hK, hPos, hO, hH⟩ := hrel
    clear HS1 hB
    have HPos := hide hPos
    clear hPos
    have HK := hide hK
    have HO := hide hO
    have HH := hide hH
    have HS := hide hS
    have Hr := hide hr
    have HRt2 := hide hRt
    have hTr := hS.lt
    clear hK hO hH hS hr hRt
    obtain ⟨sad, sn, sc, rfl⟩ : ∃ sad sn sc, s = .slice sad sn sc := by
      rcases HH.out with ⟨_, e⟩ | ⟨_, g, cap, e, _⟩ <;> exact ⟨_, _, _, e⟩
    by_cases hM0 : done.len = 2
    · have z0 := cell_of_blk HS.out.1 0
      have z1 := cell_of_blk HS.out.1 1
      have z2 := cell_of_blk HS.out.1 2
      have z3 := cell_of_blk HS.out.1 3
      have fz := unfrozen_of_blk HS.out.1
      have y0 := cell_of_blk HS.out.2.2 0
      have y1 := cell_of_blk HS.out.2.2 1
      have y2 := cell_of_blk HS.out.2.2 2
      have y3 := cell_of_blk HS.out.2.2 3
      simp only [List.getElem?_toArray, List.getElem?_cons_zero, List.getElem?_cons_succ] at z0 z1 z2 z3 y0 y1 y2 y3
      have e1 : Rt = some (done, r) := by rw [HRt2.out, hM0, rt_0]; simp [F.app_nil]
      have HE1 := hide e1
      clear e1
      have hM0' : ((done.len : Nat) : Int) = 2 := by omega
      rw [hM0']
      go_wp2_with fail
      refine bodyPost_ret (v := .tuple #[.agg #[.int .i64 xk, .int .i64 0, .int .i64 (at_ : Int), .slice sad sn sc], .int .i64 ((l.length - r.length : Nat) : Int)]) (by simp [results, Try.results56, go_sem, *]) rfl ⟨(((hBr.setCell (p := ⟨w.heap.size, 0, none⟩) (Nat.le_refl _) _).setCell (p := ⟨w.heap.size, 1, none⟩) (Nat.le_refl _) _).setCell (p := ⟨w.heap.size, 2, none⟩) (Nat.le_refl _) _).setCell (p := ⟨w.heap.size, 3, none⟩) (Nat.le_refl _) _, ?_⟩
      rw [HE1.out]
      refine ⟨⟨xk, 0⟩, done, _, rfl, rfl, ?_⟩
      have hkk : KidT wr (fun g => w.heap.size + 2 < g) done (at_ + 1) (.slice sad sn sc) := ⟨cs, HK.out.keep (Nat.le_refl _) (fun k hk _ => ⟨rfl, hk.1⟩), HH.out⟩
      refine hkk.keep (by simp [World.setCell]) (fun k hk1 hk2 => ⟨?_, by omega⟩)
      have hkn : k ≠ w.heap.size := by omega
      rw [Below.heap_setCell _ _ _ _ hkn, Below.heap_setCell _ _ _ _ hkn, Below.heap_setCell _ _ _ _ hkn, Below.heap_setCell _ _ _ _ hkn]
    · have hMp : ((done.len : Nat) : Int) < 2 := by omega
      have HRt3 : Hid (Rt = (match rt 1 r with | none => none | some (t, r2) => (rt (2 - (done.len + 1)) r2).map fun p => (done.app (t.app p.1), p.2))) := hide (by
        rw [HRt2.out, show 2 - done.len = (2 - (done.len + 1)) + 1 by omega, rt_succ]
        cases rt 1 r with
        | none => rfl
        | some q => simp only [Option.map_map]; rfl)
      obtain ⟨E0, hE0⟩ : ∃ E0, E0 = l.length - r.length := ⟨_, rfl⟩
      have HE0 := hide hE0
      rw [← hE0] at Hr HPos ⊢
      have hE0l : E0 ≤ l.length := by omega
      have hE0f : l.length - E0 ≤ f := by omega
      clear hE0 HRt2
      obtain ⟨DL, hDL⟩ : ∃ DL, DL = done.len := ⟨_, rfl⟩
      rw [← hDL] at hMp HO HH HRt3 ⊢
      have HDL := hide hDL
      have hDL2 : DL < 2 := by omega
      clear hDL
      go_wp2_with fail
      refine Calls.mono (IH.out E0 _ (HR.out.below hBr) hE0l hE0f) ?_
      rintro e w3 ⟨hb3, ho3⟩
      rw [← Hr.out] at ho3
      have hsz3 := hb3.size
      have hB3 : Below w.heap.size w w3 := hBr.trans (hb3.mono hBr.size)
      have HS3 := hide (HS.out.keep (w' := w3) (fun k hk => hb3.block k (by omega)))
      cases hrd : rt 1 r with
      | none =>
        rw [hrd] at ho3
        have e1 : Rt = none := by rw [HRt3.out, hrd]
        subst e1
        have ho3' : e = .returned (.tuple #[.agg #[.int .i64 0, .int .i64 0, .int .i64 0, .slice none 0 0], .int .i64 0]) := ho3
        subst ho3'
        clear ho3 hrd
        have z0 := cell_of_blk HS3.out.1 0
        have z1 := cell_of_blk HS3.out.1 1
        have z2 := cell_of_blk HS3.out.1 2
        have z3 := cell_of_blk HS3.out.1 3
        have fz := unfrozen_of_blk HS3.out.1
        simp only [List.getElem?_toArray, List.getElem?_cons_zero, List.getElem?_cons_succ] at z0 z1 z2 z3
        have hlt3 : w.heap.size < w3.heap.size := (Array.getElem?_eq_some_iff.1 HS3.out.1).1
        go_wp2_with fail
        exact bodyPost_ret (v := .tuple #[.agg #[.int .i64 0, .int .i64 0, .int .i64 0, .slice none 0 0], .int .i64 0]) (by simp [results, Try.results56, go_sem, *]) rfl ⟨((((hB3.setCell (p := ⟨w.heap.size, 0, none⟩) (Nat.le_refl _) _).setCell (p := ⟨w.heap.size, 1, none⟩) (Nat.le_refl _) _).setCell (p := ⟨w.heap.size, 2, none⟩) (Nat.le_refl _) _).setCell (p := ⟨w.heap.size, 3, none⟩) (Nat.le_refl _) _).alloc (by simp; omega) _, rfl⟩
      | some q =>
        obtain ⟨a, r'⟩ := q
        rw [hrd] at ho3
        obtain ⟨y, ky, sy, rfl, rfl, hTy⟩ := ho3
        have hrf := rt_flat hrd
        have hrc : r.length = 1 + ky.flat.length + r'.length := by have := congrArg List.length hrf.1; simp [F.flat] at this; omega
        have HRc := hide hrc
        clear hrc
        have hrl' : r'.length < r.length := by have := congrArg List.length hrf.1; simp [F.flat] at this; omega
        have hr' : r' = l.drop (l.length - r'.length) := rt_end (by rw [Hr.out] at hrf; exact hrf.1)
        have HRd := hide hrd
        have HR' := hide hr'
        clear hrd hrf hr'
        obtain ⟨yad, yc, rfl⟩ := hTy.form
        obtain ⟨yn, hyn⟩ : ∃ yn, yn = ky.len := ⟨_, rfl⟩
        rw [← hyn] at hTy ⊢
        clear hyn
        have HTy := hide hTy
        clear hTy
        have y0 := cell_of_blk HS3.out.2.2 0
        have y1 := cell_of_blk HS3.out.2.2 1
        have y2 := cell_of_blk HS3.out.2.2 2
        have y3 := cell_of_blk HS3.out.2.2 3
        have fy := unfrozen_of_blk HS3.out.2.2
        simp only [List.getElem?_toArray, List.getElem?_cons_zero, List.getElem?_cons_succ] at y0 y1 y2 y3
        have hne : ¬ ((l.length - r'.length : Nat) : Int) = 0 := by omega
        obtain ⟨E1, hE1⟩ : ∃ E1, E1 = l.length - r'.length := ⟨_, rfl⟩
        rw [← hE1] at hne ⊢
        have HE1 := hide hE1
        clear hE1
        have hlt3 : w.heap.size + 2 < w3.heap.size := HS3.out.lt
        have hlt31 : w.heap.size + 1 < w3.heap.size := by omega
        have hO3 := tOwn_keep HO.out (w' := w3) (fun k _ hk => hb3.block k hk)
        have hol := HO.out.lt
        have HOl := hide hol
        clear hol
        go_wp2_with (at_builtin; refine wpList_append_sep rfl _ _ 49 rfl (w.heap.size + 2 + 1) 51 i0 (.agg #[.int .i64 0, .int .i64 0, .int .i64 0, .slice none 0 0]) 4 48 Try.underlying49 Hi.out hz0 hz1 hz2 rfl (by decide) _ _ _ rfl ((hO3.alloc _).alloc _) ⟨w3.heap.size + 1, 0, none⟩ 1 1 (tC y E0 (.slice yad yn yc)) rfl rfl ?c1 ?c2 ?c3 ?c4 ?c5 ?_)
        case c1 => exact tC_cells (by have := heap_alloc_new (w3.alloc (.cells #[.int .i64 y.k, .int .i64 y.n, .int .i64 (E0 : Int), .slice yad yn yc] 51)) (.cells #[.int .i64 y.k, .int .i64 y.n, .int .i64 (E0 : Int), .slice yad yn yc] 51); simpa using this)
        case c2 => exact tC_one _ _ _ rfl
        case c3 => unfold maxLen; omega
        case c4 => omega
        case c5 => simp; omega
        intro v' w4 hown4 hgrow hap
        have hb4 : Below (w.heap.size + 2 + 1) w3 w4 := (((Below.refl _ _).alloc (by omega) _).alloc (by simp; omega) _).grown hgrow (by simp; omega) (fun k hk => (HOl.out k hk).1)
        have hk4 : ∀ k, (Value.slice sad sn sc).ownBlock ≠ some k → k < w3.heap.size → w4.heap[k]? = w3.heap[k]? := fun k hk hlt => by
          rw [hgrow.block k (by simp; omega) (fun e => hk e.symm), heap_alloc_old _ _ (by simp; omega), heap_alloc_old _ _ hlt]
        have hap' : ∀ k, k < w3.heap.size → (Value.slice sad sn sc).ownBlock ≠ some k → v'.ownBlock ≠ some k := fun k hk hn e => by
          rcases hap k e with h | h
          · exact hn h
          · simp at h; omega
        have hsz4 : w3.heap.size ≤ w4.heap.size := hb4.size
        have HS4 := hide (HS3.out.keep (w' := w4) (fun k hk => hb4.block k (by omega)))
        obtain ⟨g, cap, rfl, hg0, hg1, hgc⟩ := tOwn_lies hown4 (by omega)
        have HL := hide hgc
        have HK4 := hide hk4
        have HO4 := hide hown4
        have HAp := hide hap'
        clear hown4 hO3 hgrow hgc hap hk4 hap' y0 y1 y2 y3 fy
        have y3 := cell_of_blk HS4.out.2.2 3
        have fy := unfrozen_of_blk HS4.out.2.2 3
        simp only [List.getElem?_toArray, List.getElem?_cons_zero, List.getElem?_cons_succ] at y3
        go_wp2_with fail
        have hbf : ∀ k, k ≠ w.heap.size + 2 → (w4.setCell ⟨w.heap.size + 2, 3, none⟩ (.slice (some ⟨g, 0, none⟩) (DL + 1) cap)).heap[k]? = w4.heap[k]? := fun k hk => Below.heap_setCell _ _ _ _ hk
        have hss : (w4.setCell ⟨w.heap.size + 2, 3, none⟩ (.slice (some ⟨g, 0, none⟩) (DL + 1) cap)).heap.size = w4.heap.size := by simp [World.setCell]
        have hdl : (done.app (.cons y ky .nil)).len = DL + 1 := by rw [F.app_len, ← HDL.out]; rfl
        refine ⟨⟨done.app (.cons y ky .nil), r', .slice (some ⟨g, 0, none⟩) (DL + 1) cap, cs ++ tC y E0 (.slice yad yn yc), by omega, by omega, HR'.out, by rw [HE1.out], by rw [hdl]; go_num, ?_, (hB3.trans (hb4.mono (by omega))).setCell (by simp; omega) _, ⟨?_, ?_, ?_⟩, ?_, ?_, ?_, ?_⟩, by simp [intOf]; omega⟩
        · rw [HRt3.out, HRd.out, hdl]
          simp only
          congr 1
          funext p
          simp [F.app_assoc]
        · rw [hbf _ (by omega)]; exact HS4.out.1
        · rw [hbf _ (by omega)]; exact HS4.out.2.1
        · rw [blk_setCell HS4.out.2.2]; rfl
        · have hown : ∀ k, wr.heap.size ≤ k → (Value.slice sad sn sc).ownBlock ≠ some k := fun k hk e => by have := (HOl.out k e).2; omega
          have k1 : KidsAt (w4.setCell ⟨w.heap.size + 2, 3, none⟩ (.slice (some ⟨g, 0, none⟩) (DL + 1) cap)) (fun k => w.heap.size + 2 < k ∧ (Value.slice (some ⟨g, 0, none⟩) (DL + 1) cap).ownBlock ≠ some k) done (at_ + 1) cs := by
            refine HK.out.keep (by rw [hss]; omega) (fun k hk1 hk2 => ⟨?_, hk1.1, ?_⟩)
            · rw [hbf k (by omega), HK4.out k hk1.2 (by omega), hb3.block k hk2]
            · exact HAp.out k (by omega) hk1.2
          have k2 : KidT (w4.setCell ⟨w.heap.size + 2, 3, none⟩ (.slice (some ⟨g, 0, none⟩) (DL + 1) cap)) (fun k => w.heap.size + 2 < k ∧ (Value.slice (some ⟨g, 0, none⟩) (DL + 1) cap).ownBlock ≠ some k) ky (E0 + 1) (.slice yad yn yc) := by
            refine HTy.out.keep (by rw [hss]; omega) (fun k hk1 hk2 => ⟨?_, by omega, ?_⟩)
            · rw [hbf k (by omega), HK4.out k (hown k hk1) hk2]
            · exact HAp.out k hk2 (hown k hk1)
          refine KidsAt.app k1 ?_
          rw [HPos.out]
          exact ⟨.slice yad yn yc, [], (List.append_nil _).symm, k2, rfl⟩
        · have e1 := HPos.out
          have e2 := HRc.out
          have e3 := HE0.out
          rw [F.app_flat, List.length_append]
          simp only [F.flat, List.append_nil, List.length_cons]
          omega
        · rw [hdl]
          exact tOwn_keep HO4.out (fun k hk1 hk2 => hbf k (by omega))
        · rw [hdl]
          refine .inr ⟨by omega, g, cap, rfl, by omega, by rw [hss]; omega, fun j v hj => ?_⟩
          rw [World.cell?_of_block (w := w4) (hbf g (by omega))]
          exact HL.out j v hj

theorem l13Read_some (f : Nat) (ad : Option Addr) (c : Nat) (l : List Cc) (at_ : Nat) (w : World) (ih : TRdIH f ad c l) (hl : l.length ≤ 1048576) (hR : CRow w ad l) (hlt : at_ < l.length) (hf : l.length - at_ ≤ f + 1) : TRdGoal ad c l at_ w := by
  by_cases h1 : l[at_].k = 1
  · exact l13Read_leaf ad c l at_ w hl hR hlt (.inl h1)
  · cases hg : goodC l[at_] with
    | true => exact l13Read_fun f ad c l at_ w ih hl hR hlt hf hg h1
    | false => exact l13Read_leaf ad c l at_ w hl hR hlt (.inr hg)

theorem l13Read_any : ∀ (f : Nat) (ad : Option Addr) (c : Nat) (l : List Cc) (at_ : Nat) (w : World), l.length ≤ 1048576 → CRow w ad l → at_ ≤ l.length → l.length - at_ ≤ f → TRdGoal ad c l at_ w
  | 0, ad, c, l, at_, w, hl, _, ha, hf => l13Read_none ad c l at_ w hl (by omega) ha
  | f + 1, ad, c, l, at_, w, hl, h, ha, hf => by
    by_cases hlt : at_ < l.length
    · exact l13Read_some f ad c l at_ w (fun at' w' h1 h2 h3 => l13Read_any f ad c l at' w' hl h1 h2 h3) hl h hlt hf
    · exact l13Read_none ad c l at_ w hl (by omega) ha

/-- What l13Tree tells. -/
def TTrOut (w' : World) (lo : Nat) (e : Ending) : Option F → Prop
  | none => ∃ (k n p : Int) (sad : Option Addr) (sn sc : Nat), e = .returned (.tuple #[.agg #[.int .i64 k, .int .i64 n, .int .i64 p, .slice sad sn sc], .bool false])
  | some a => ∃ x k s, a = .cons x k .nil ∧ e = .returned (.tuple #[.agg #[.int .i64 x.k, .int .i64 x.n, .int .i64 0, s], .bool true]) ∧ KidT w' (fun g => lo ≤ g) k 1 s

set_option maxRecDepth 20000 in
set_option maxHeartbeats 2000000 in
theorem l13Tree_any (ad : Option Addr) (c : Nat) (l : List Cc) (w : World) (hl : l.length ≤ 1048576) (h : CRow w ad l) :
    Calls Try.prog 33 #[.slice ad l.length c] w fun e w' => Below w.heap.size w w' ∧ TTrOut w' w.heap.size e (treeT l) := by
  have HR := hide h
  clear h
  by_cases h6 : l.length ≤ 40
  · have h6' : ¬ (40 : Int) < (l.length : Int) := by omega
    obtain ⟨T, hT⟩ : ∃ T, T = treeT l := ⟨_, rfl⟩
    rw [← hT]
    have HT := hide hT
    clear hT
    go_enter Try.func33, Try.ntmps33
    go_wp2_with fail
    refine Calls.mono (l13Read_any l.length ad c l 0 _ hl (HR.out.below ((Below.refl _ _).alloc (Nat.le_refl _) _)) (by omega) (by omega)) ?_
    rintro e w1 ⟨hb1, ho1⟩
    rw [List.drop_zero] at ho1
    have ho1 : TRdOut w1 _ _ 0 e _ := ho1
    have H0 := hide ((hb1.block w.heap.size (by simp)).trans (heap_alloc_new _ _))
    have hB1 : Below w.heap.size w w1 := ((Below.refl _ _).alloc (Nat.le_refl _) _).trans (hb1.mono (by simp))
    have hsz1 : w.heap.size < w1.heap.size := by have := hb1.size; simp at this; omega
    clear hb1
    have z0 := cell_of_blk H0.out 0
    have z1 := cell_of_blk H0.out 1
    have z2 := cell_of_blk H0.out 2
    have z3 := cell_of_blk H0.out 3
    have fz := unfrozen_of_blk H0.out
    simp only [List.getElem?_toArray, List.getElem?_cons_zero, List.getElem?_cons_succ] at z0 z1 z2 z3
    cases hr : rt 1 l with
    | none =>
      rw [hr] at ho1
      have e1 : T = none := by rw [HT.out]; unfold treeT; rw [if_pos h6, hr]
      subst e1
      have ho1' : e = .returned (.tuple #[.agg #[.int .i64 0, .int .i64 0, .int .i64 0, .slice none 0 0], .int .i64 0]) := ho1
      subst ho1'
      clear ho1 hr
      go_wp2_with fail
      exact bodyPost_ret (v := .tuple #[.agg #[.int .i64 0, .int .i64 0, .int .i64 0, .slice none 0 0], .bool false]) (by simp [results, Try.results33, go_sem, *]) rfl ⟨((((hB1.setCell (p := ⟨w.heap.size, 0, none⟩) (Nat.le_refl _) _).setCell (p := ⟨w.heap.size, 1, none⟩) (Nat.le_refl _) _).setCell (p := ⟨w.heap.size, 2, none⟩) (Nat.le_refl _) _).setCell (p := ⟨w.heap.size, 3, none⟩) (Nat.le_refl _) _).alloc (by simp; omega) _, _, _, _, _, _, _, rfl⟩
    | some q =>
      obtain ⟨t, r⟩ := q
      rw [hr] at ho1
      obtain ⟨x, k, s, rfl, rfl, hTr⟩ := ho1
      have hrf := rt_flat hr
      have hrl : r.length < l.length := by have := congrArg List.length hrf.1; simp [F.flat] at this; omega
      obtain ⟨sad, sc, rfl⟩ := hTr.form
      obtain ⟨sn, hsn⟩ : ∃ sn, sn = k.len := ⟨_, rfl⟩
      rw [← hsn] at hTr ⊢
      have HTr := hide hTr
      clear hTr hsn hrf
      by_cases hr0 : r.length = 0
      · have e1 : T = some (.cons x k .nil) := by
          rw [HT.out]; unfold treeT; rw [if_pos h6, hr, List.length_eq_zero_iff.1 hr0]
        subst e1
        have he : ((l.length - r.length : Nat) : Int) = (l.length : Int) := by omega
        rw [he]
        have hpos : (0 : Int) < (l.length : Int) := by omega
        clear hr
        go_wp2_with fail
        refine bodyPost_ret (v := .tuple #[.agg #[.int .i64 x.k, .int .i64 x.n, .int .i64 0, .slice sad sn sc], .bool true]) (by simp [results, Try.results33, go_sem, *]) rfl ⟨((((hB1.setCell (p := ⟨w.heap.size, 0, none⟩) (Nat.le_refl _) _).setCell (p := ⟨w.heap.size, 1, none⟩) (Nat.le_refl _) _).setCell (p := ⟨w.heap.size, 2, none⟩) (Nat.le_refl _) _).setCell (p := ⟨w.heap.size, 3, none⟩) (Nat.le_refl _) _).alloc (by simp; omega) _, x, k, .slice sad sn sc, rfl, rfl, ?_⟩
        refine HTr.out.keep (by simp [World.setCell]) (fun g hk1 hk2 => ?_)
        simp at hk1
        have hkn : g ≠ w.heap.size := by omega
        exact ⟨by rw [heap_alloc_old _ _ (by simp [World.setCell]; omega), Below.heap_setCell _ _ _ _ hkn, Below.heap_setCell _ _ _ _ hkn, Below.heap_setCell _ _ _ _ hkn, Below.heap_setCell _ _ _ _ hkn], by omega⟩
      · have e1 : T = none := by
          rw [HT.out]; unfold treeT; rw [if_pos h6, hr]
          cases r with
          | nil => simp at hr0
          | cons y r => rfl
        subst e1
        have hne : ¬ ((l.length - r.length : Nat) : Int) = (l.length : Int) := by omega
        have hpos : (0 : Int) < ((l.length - r.length : Nat) : Int) := by omega
        obtain ⟨E1, hE1⟩ : ∃ E1, E1 = l.length - r.length := ⟨_, rfl⟩
        rw [← hE1] at hne hpos ⊢
        have hnb : ((E1 : Int) == (l.length : Int)) = false := by simp; omega
        clear hr hE1
        go_wp2_with fail
        exact bodyPost_ret (v := .tuple #[.agg #[.int .i64 x.k, .int .i64 x.n, .int .i64 0, .slice sad sn sc], .bool false]) (by simp [results, Try.results33, go_sem, *]) rfl ⟨((((hB1.setCell (p := ⟨w.heap.size, 0, none⟩) (Nat.le_refl _) _).setCell (p := ⟨w.heap.size, 1, none⟩) (Nat.le_refl _) _).setCell (p := ⟨w.heap.size, 2, none⟩) (Nat.le_refl _) _).setCell (p := ⟨w.heap.size, 3, none⟩) (Nat.le_refl _) _).alloc (by simp; omega) _, _, _, _, _, _, _, rfl⟩
  · have h6' : (40 : Int) < (l.length : Int) := by omega
    have ht : treeT l = none := by unfold treeT; rw [if_neg h6]
    rw [ht]
    go_enter Try.func33, Try.ntmps33
    go_wp2_with fail
    exact bodyPost_ret (v := .tuple #[.agg #[.int .i64 0, .int .i64 0, .int .i64 0, .slice none 0 0], .bool false]) (by simp [results, Try.results33, go_sem]) rfl ⟨(Below.refl _ _).alloc (Nat.le_refl _) _, _, _, _, _, _, _, rfl⟩

set_option maxHeartbeats 1000000 in
theorem specGoodT_any (ad : Option Addr) (c : Nat) (l : List Cc) (w : World) (hl : l.length ≤ 1048576) (h : CRow w ad l) :
    Calls Try.prog 10 #[.slice ad l.length c] w fun e w' => e = .returned (.bool (goodT l)) ∧ Below w.heap.size w w' := by
  unfold goodT
  have HC := hide (l13Tree_any ad c l w hl h)
  clear h
  obtain ⟨T, hT⟩ : ∃ T, T = treeT l := ⟨_, rfl⟩
  rw [← hT] at HC ⊢
  clear hT
  go_enter Try.func10, Try.ntmps10
  go_wp2_with fail
  refine Calls.mono HC.out ?_
  rintro e w1 ⟨hb1, ho⟩
  clear HC
  cases T with
  | none =>
    obtain ⟨k, n, p, sad, sn, sc, rfl⟩ := ho
    go_wp2_with fail
    go_ret
    exact ⟨rfl, hb1.alloc hb1.size _⟩
  | some t =>
    obtain ⟨x, k, s, -, rfl, hT⟩ := ho
    obtain ⟨sad, sc, rfl⟩ := hT.form
    clear hT
    go_wp2_with fail
    go_ret
    exact ⟨rfl, hb1.alloc hb1.size _⟩
end Go.Proofs.Ytiphcjbmoekkkaa.L

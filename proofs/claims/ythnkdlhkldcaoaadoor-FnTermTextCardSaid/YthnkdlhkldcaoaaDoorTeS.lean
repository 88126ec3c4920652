/-
  The specification's reader of terms: contracts of l3Read, l3Tree and GoodTerm: a row of cells is read as a tree that lies in new memory. Conditions: at most 1048576 cells.
-/
import Derived.Test.YthnkdlhkldcaoaaDoorTeM
import Derived.Test.YthnkdlhkldcaoaaDoorTeG
import Derived.Test.YthnkdlhkldcaoaaDoorApS
namespace Go.Proofs.YthnkdlhkldcaoaaDoor.W
open Go.ChangeShapes Go.WideShapes Go.ChangeAt Go.RowKit
set_option linter.unusedVariables false

/-- What l3Read tells of what is read. -/
def TRdOut (w' : World) (lo n : Nat) (e : Ending) : Option (F × List Cc) → Prop
  | none => e = .returned (.tuple #[.agg #[.int .i64 0, .int .i64 0, .slice none 0 0], .int .i64 0])
  | some (a, r) => ∃ x k s, a = .cons x k .nil ∧ e = .returned (.tuple #[.agg #[.int .i64 x.k, .int .i64 x.n, s], .int .i64 ((n - r.length : Nat) : Int)]) ∧ KidT w' (fun g => lo ≤ g) k s

theorem good_ar {x : Cc} (h : goodC x = true) : inB x.k 1 7 = true := by
  unfold goodC at h
  simp only [inB, Bool.and_eq_true, decide_eq_true_eq] at h ⊢
  split at h
  · omega
  · split at h
    · omega
    · simp only [Bool.and_eq_true, decide_eq_true_eq] at h; omega
theorem rt_end {l a r : List Cc} {n : Nat} (h : l.drop n = a ++ r) : r = l.drop (l.length - r.length) := by
  have hl : (l.drop n).length = a.length + r.length := by rw [h]; simp
  rw [List.length_drop] at hl
  by_cases hn : n ≤ l.length
  · have : l.drop (n + a.length) = r := by rw [← List.drop_drop, h]; simp
    rw [← this]
    congr 1
    rw [List.length_drop]; omega
  · have h0 : r = [] := List.eq_nil_of_length_eq_zero (by omega)
    rw [h0]; simp

def TRdGoal (ad : Option Addr) (c : Nat) (l : List Cc) (at_ : Nat) (w : World) : Prop :=
    Calls Tryd.prog 47 #[.slice ad l.length c, .int .i64 at_] w fun e w' => Below w.heap.size w w' ∧ TRdOut w' w.heap.size l.length e (rt 1 (l.drop at_))
def TRdIH (f : Nat) (ad : Option Addr) (c : Nat) (l : List Cc) : Prop := ∀ (at' : Nat) (w' : World), CRow w' ad l → at' ≤ l.length → l.length - at' ≤ f → TRdGoal ad c l at' w'

set_option maxHeartbeats 1000000 in
theorem l3Read_none (ad : Option Addr) (c : Nat) (l : List Cc) (at_ : Nat) (w : World) (hl : l.length ≤ 1048576) (hge : l.length ≤ at_) (ha : at_ ≤ l.length) : TRdGoal ad c l at_ w := by
  unfold TRdGoal
  have hr : rt 1 (l.drop at_) = none := by rw [List.drop_eq_nil_of_le hge]; rfl
  rw [hr]
  have hge' : ¬ (at_ : Int) < (l.length : Int) := by omega
  go_enter Tryd.func47, Tryd.ntmps47
  go_wp2_with fail
  exact bodyPost_ret (v := .tuple #[.agg #[.int .i64 0, .int .i64 0, .slice none 0 0], .int .i64 0]) (by simp [results, Tryd.results47, go_sem]) rfl ⟨(Below.refl _ _).alloc (Nat.le_refl _) _, rfl⟩

set_option maxRecDepth 20000 in
set_option maxHeartbeats 4000000 in
theorem l3Read_some (f : Nat) (ad : Option Addr) (c : Nat) (l : List Cc) (at_ : Nat) (w : World) (ih : TRdIH f ad c l) (hl : l.length ≤ 1048576) (hR : CRow w ad l) (hlt : at_ < l.length) (hf : l.length - at_ ≤ f + 1) :
    TRdGoal ad c l at_ w := by
  unfold TRdGoal
  have IH := hide ih
  have HR := hide hR
  clear ih hR
  have hlt' : (at_ : Int) < (l.length : Int) := by omega
  have hnle : ¬ l.length ≤ at_ := by omega
  obtain ⟨b, o, rfl, hb, p0, p1⟩ := HR.out.tok (Below.refl _ _) hlt
  have hd : l.drop at_ = l[at_] :: l.drop (at_ + 1) := List.drop_eq_getElem_cons hlt
  obtain ⟨x, hx⟩ : ∃ x, x = l[at_] := ⟨_, rfl⟩
  rw [← hx] at p0 p1 hd
  rw [hd]
  clear hx hd
  have hne : ∀ (B : Obj), (w.alloc B).heap[w.heap.size]? = some B := fun B => heap_alloc_new w B
  by_cases hg : goodC x = true
  · rw [rt_1 hg]
    obtain ⟨Rt, hRt⟩ : ∃ Rt, Rt = rt (ar x.k) (l.drop (at_ + 1)) := ⟨_, rfl⟩
    rw [← hRt]
    have HRt := hide hRt
    clear hRt
    have hc := l3Cell_any x
    rw [hg] at hc
    have HC := hide hc
    have HN := hide hne
    clear hc hne
    go_enter Tryd.func47, Tryd.ntmps47
    go_wp2_with fail
    refine (HC.out _).mono ?_
    rintro e w1 ⟨rfl, hb1⟩
    have H0 := hide ((hb1.block w.heap.size (by simp)).trans (HN.out _))
    have hB : Below w.heap.size w w1 := ((Below.refl _ _).alloc (Nat.le_refl _) _).trans (hb1.mono (by simp))
    have q0 : w1.cell? ⟨b, o + at_ * 2, none⟩ = some (.int .i64 x.k) := by rw [hB.cell hb]; exact p0
    have q1 : w1.cell? ⟨b, o + at_ * 2 + 1, none⟩ = some (.int .i64 x.n) := by rw [hB.cell hb]; exact p1
    clear hb1 p0 p1 HC HN
    have hat0 : (0 : Int) ≤ (at_ : Int) := by omega
    have hb1 : b < w1.heap.size := Nat.lt_of_lt_of_le hb hB.size
    have q2 : (w1.alloc (.cells #[.int .i64 0, .int .i64 0, .slice none 0 0] 58)).cell? ⟨b, o + at_ * 2, none⟩ = some (.int .i64 x.k) := by rw [((Below.refl w1.heap.size w1).alloc (Nat.le_refl _) _).cell hb1]; exact q0
    have q3 : (w1.alloc (.cells #[.int .i64 0, .int .i64 0, .slice none 0 0] 58)).cell? ⟨b, o + at_ * 2 + 1, none⟩ = some (.int .i64 x.n) := by rw [((Below.refl w1.heap.size w1).alloc (Nat.le_refl _) _).cell hb1]; exact q1
    go_wp2_with fail
    go_region
    go_wp2_with fail
    have hS0 : w.heap.size < w1.heap.size := (Array.getElem?_eq_some_iff.1 H0.out).1
    have HE := hide (good_ar hg)
    refine (l3Arity_any _ _).mono ?_
    rintro e w2 ⟨rfl, hw2⟩
    have hB2 : Below w1.heap.size w1 w2 := by
      rw [hw2]
      exact ⟨rfl, rfl, rfl, by show w1.heap.size ≤ (w1.alloc _).heap.size; simp, fun k hk => show (w1.alloc _).heap[k]? = w1.heap[k]? from heap_alloc_old _ _ hk⟩
    have hT2 : w2.heap[w1.heap.size]? = some (.cells #[.int .i64 x.k, .int .i64 x.n, .slice none 0 0] 58 (0, 0)) := by rw [hw2]; exact heap_alloc_new w1 (.cells #[.int .i64 x.k, .int .i64 x.n, .slice none 0 0] 58)
    have hBB : Below w.heap.size w w2 := hB.trans (hB2.mono hB.size)
    have H02 := hide ((hB2.block _ hS0).trans H0.out)
    have HT2 := hide hT2
    have hsz2 : w1.heap.size < w2.heap.size := (Array.getElem?_eq_some_iff.1 hT2).1
    clear hw2 hT2 q0 q1 q2 q3 H0 hat0 hb1 hB hB2
    obtain ⟨T0, hT0⟩ : ∃ T0, T0 = w1.heap.size := ⟨_, rfl⟩
    rw [← hT0] at hS0 HT2 hsz2 ⊢
    clear hT0
    rw [if_pos HE.out]
    have hat1 : (l.length - (l.drop (at_ + 1)).length : Nat) = at_ + 1 := by rw [List.length_drop]; omega
    have HAt := hide hat1
    clear hat1 HE
    obtain ⟨i0, hi0, hz0, hz1, hz2⟩ := infoPartsT infoT
    have Hi := hide hi0
    clear hi0
    have har := ar_le x.k
    obtain ⟨A0, hA0⟩ : ∃ A0, A0 = ar x.k := ⟨_, rfl⟩
    rw [← hA0] at har HRt ⊢
    have HA0 := hide hA0
    clear hA0
    go_wp2_with fail
    go_loopw [1, 7] (fun a1 m7 w' => ∃ (done : F) (r : List Cc) (M : Nat) (s : Value) (cs : List Value), M + done.len = A0 ∧ r.length < l.length - at_ ∧ r = l.drop (l.length - r.length) ∧ a1 = .int .i64 ((l.length - r.length : Nat) : Int) ∧ m7 = .int .i64 M ∧
      Rt = (rt M r).map (fun p => (done.app p.1, p.2)) ∧ Below w.heap.size w w' ∧ T0 < w'.heap.size ∧ w'.heap[w.heap.size]? = some (.cells #[.int .i64 0, .int .i64 0, .slice none 0 0] 58 (0, 0)) ∧ w'.heap[T0]? = some (.cells #[.int .i64 x.k, .int .i64 x.n, s] 58 (0, 0)) ∧
      KidsAt w' (fun g => T0 < g ∧ s.ownBlock ≠ some g) done cs ∧ w'.ownsRow (T0 + 1) 58 3 s done.len cs ∧ Holds w' (fun g => T0 < g) s done.len cs) (fun _ m7 _ => (intOf m7).toNat)
    case atStart =>
      refine ⟨.nil, l.drop (at_ + 1), A0, _, [], by simp [F.len], by rw [List.length_drop]; omega, by rw [HAt.out], by rw [HAt.out]; simp, rfl, ?_, hBB, hsz2, H02.out, HT2.out, rfl, World.ownsRow_nil _ _ _ _, .inl ⟨rfl, rfl⟩⟩
      rw [HRt.out]
      cases rt A0 (l.drop (at_ + 1)) with
      | none => rfl
      | some p => rfl
    case round =>
      obtain ⟨done, r, M, s, cs, hM, hrl, hr, rfl, rfl, hRt, hBr, hTr, hZ, hT, hK, hO, hH⟩ := hrel
      clear H02 HT2 hBB hsz2
      have HK := hide hK
      have HO := hide hO
      have HH := hide hH
      have HZ := hide hZ
      have HT := hide hT
      have Hr := hide hr
      have HRt2 := hide hRt
      clear hK hO hH hZ hT hr hRt
      obtain ⟨sad, sn, sc, rfl⟩ : ∃ sad sn sc, s = .slice sad sn sc := by
        rcases HH.out with ⟨_, e⟩ | ⟨_, g, cap, e, _⟩ <;> exact ⟨_, _, _, e⟩
      cases M with
      | zero =>
        have z0 := cell_of_blk HZ.out 0
        have z1 := cell_of_blk HZ.out 1
        have z2 := cell_of_blk HZ.out 2
        have fz := unfrozen_of_blk HZ.out
        have y0 := cell_of_blk HT.out 0
        have y1 := cell_of_blk HT.out 1
        have y2 := cell_of_blk HT.out 2
        simp only [List.getElem?_toArray, List.getElem?_cons_zero, List.getElem?_cons_succ] at z0 z1 z2 y0 y1 y2
        go_wp2_with fail
        refine bodyPost_ret (v := .tuple #[.agg #[.int .i64 x.k, .int .i64 x.n, .slice sad sn sc], .int .i64 ((l.length - r.length : Nat) : Int)]) (by simp [results, Tryd.results47, go_sem, *]) rfl ⟨((hBr.setCell (p := ⟨w.heap.size, 0, none⟩) (Nat.le_refl _) _).setCell (p := ⟨w.heap.size, 1, none⟩) (Nat.le_refl _) _).setCell (p := ⟨w.heap.size, 2, none⟩) (Nat.le_refl _) _, ?_⟩
        have e1 : Rt = some (done, r) := by rw [HRt2.out, rt_0]; simp [F.app_nil]
        rw [e1]
        refine ⟨x, done, _, rfl, rfl, ?_⟩
        have hkk : KidT wr (fun g => T0 < g) done (.slice sad sn sc) := ⟨cs, HK.out.keep (Nat.le_refl _) (fun k hk _ => ⟨rfl, hk.1⟩), HH.out⟩
        refine hkk.keep (by simp [World.setCell]) (fun k hk1 hk2 => ⟨?_, by omega⟩)
        have hkn : k ≠ w.heap.size := by omega
        rw [Below.heap_setCell _ _ _ _ hkn, Below.heap_setCell _ _ _ _ hkn, Below.heap_setCell _ _ _ _ hkn]
      | succ M =>
        have hMp : (0 : Int) < ((M + 1 : Nat) : Int) := by omega
        obtain ⟨E0, hE0⟩ : ∃ E0, E0 = l.length - r.length := ⟨_, rfl⟩
        have HE0 := hide hE0
        rw [← hE0] at Hr ⊢
        have hE0l : E0 ≤ l.length := by omega
        have hE0f : l.length - E0 ≤ f := by omega
        clear hE0
        go_wp2_with fail
        refine Calls.mono (IH.out E0 _ (HR.out.below hBr) hE0l hE0f) ?_
        rintro e w3 ⟨hb3, ho3⟩
        rw [← Hr.out] at ho3
        have hsz3 := hb3.size
        have hB3 : Below w.heap.size w w3 := hBr.trans (hb3.mono hBr.size)
        have HZ3 := hide ((hb3.block _ (by omega)).trans HZ.out)
        have HT3 := hide ((hb3.block _ hTr).trans HT.out)
        cases hrd : rt 1 r with
        | none =>
          rw [hrd] at ho3
          have e1 : Rt = none := by rw [HRt2.out, rt_succ, hrd]; rfl
          subst e1
          have ho3' : e = .returned (.tuple #[.agg #[.int .i64 0, .int .i64 0, .slice none 0 0], .int .i64 0]) := ho3
          subst ho3'
          clear ho3 hrd
          have z0 := cell_of_blk HZ3.out 0
          have z1 := cell_of_blk HZ3.out 1
          have z2 := cell_of_blk HZ3.out 2
          have fz := unfrozen_of_blk HZ3.out
          simp only [List.getElem?_toArray, List.getElem?_cons_zero, List.getElem?_cons_succ] at z0 z1 z2
          have hlt3 : w.heap.size < w3.heap.size := (Array.getElem?_eq_some_iff.1 HZ3.out).1
          go_wp2_with fail
          exact bodyPost_ret (v := .tuple #[.agg #[.int .i64 0, .int .i64 0, .slice none 0 0], .int .i64 0]) (by simp [results, Tryd.results47, go_sem, *]) rfl ⟨(((hB3.setCell (p := ⟨w.heap.size, 0, none⟩) (Nat.le_refl _) _).setCell (p := ⟨w.heap.size, 1, none⟩) (Nat.le_refl _) _).setCell (p := ⟨w.heap.size, 2, none⟩) (Nat.le_refl _) _).alloc (by simp; omega) _, rfl⟩
        | some q =>
          obtain ⟨a, r'⟩ := q
          rw [hrd] at ho3
          obtain ⟨y, ky, sy, rfl, rfl, hTy⟩ := ho3
          have hrf := rt_flat hrd
          have hrl' : r'.length < r.length := by have := congrArg List.length hrf.1; simp [F.flat] at this; omega
          have hr' : r' = l.drop (l.length - r'.length) := rt_end (by rw [Hr.out] at hrf; exact hrf.1)
          have HRd := hide hrd
          have HR' := hide hr'
          clear hrd hrf hr'
          obtain ⟨yad, yc, rfl⟩ := hTy.form
          obtain ⟨yn, hyn⟩ : ∃ yn, yn = ky.len := ⟨_, rfl⟩
          rw [← hyn] at hTy ⊢
          clear hyn
          have HTy := hide hTy
          clear hTy
          have y0 := cell_of_blk HT3.out 0
          have y1 := cell_of_blk HT3.out 1
          have y2 := cell_of_blk HT3.out 2
          have fy := unfrozen_of_blk HT3.out
          simp only [List.getElem?_toArray, List.getElem?_cons_zero, List.getElem?_cons_succ] at y0 y1 y2
          have hne : ¬ ((l.length - r'.length : Nat) : Int) = 0 := by omega
          obtain ⟨E1, hE1⟩ : ∃ E1, E1 = l.length - r'.length := ⟨_, rfl⟩
          rw [← hE1] at hne ⊢
          have HE1 := hide hE1
          clear hE1
          have hlt3 : T0 < w3.heap.size := (Array.getElem?_eq_some_iff.1 HT3.out).1
          have hO3 := tOwn_keep HO.out (w' := w3) (fun k _ hk => hb3.block k hk)
          have hol := HO.out.lt
          have HOl := hide hol
          clear hol
          go_wp2_with (at_builtin; refine wpList_append_sep rfl _ _ 56 rfl (T0 + 1) 58 i0 (.agg #[.int .i64 0, .int .i64 0, .slice none 0 0]) 3 40 Tryd.underlying56 Hi.out hz0 hz1 hz2 rfl (by decide) _ _ _ rfl ((hO3.alloc _).alloc _) ⟨w3.heap.size + 1, 0, none⟩ 1 1 (tC y (.slice yad yn yc)) rfl rfl ?c1 ?c2 ?c3 ?c4 ?c5 ?_)
          case c1 => exact tC_cells (by have := heap_alloc_new (w3.alloc (.cells #[.int .i64 y.k, .int .i64 y.n, .slice yad yn yc] 58)) (.cells #[.int .i64 y.k, .int .i64 y.n, .slice yad yn yc] 58); simpa using this)
          case c2 => exact tC_one _ _ rfl
          case c3 => unfold maxLen; omega
          case c4 => omega
          case c5 => simp; omega
          intro v' w4 hown4 hgrow hap
          have hb4 : Below (T0 + 1) w3 w4 := (((Below.refl _ _).alloc (by omega) _).alloc (by simp; omega) _).grown hgrow (by simp; omega) (fun k hk => (HOl.out k hk).1)
          have hk4 : ∀ k, (Value.slice sad sn sc).ownBlock ≠ some k → k < w3.heap.size → w4.heap[k]? = w3.heap[k]? := fun k hk hlt => by
            rw [hgrow.block k (by simp; omega) (fun e => hk e.symm), heap_alloc_old _ _ (by simp; omega), heap_alloc_old _ _ hlt]
          have hap' : ∀ k, k < w3.heap.size → (Value.slice sad sn sc).ownBlock ≠ some k → v'.ownBlock ≠ some k := fun k hk hn e => by
            rcases hap k e with h | h
            · exact hn h
            · simp at h; omega
          have hsz4 : w3.heap.size ≤ w4.heap.size := hb4.size
          have HT4 := hide ((hb4.block T0 (by omega)).trans HT3.out)
          have HZ4 := hide ((hb4.block w.heap.size (by omega)).trans HZ3.out)
          obtain ⟨g, cap, rfl, hg0, hg1, hgc⟩ := tOwn_lies hown4 (by omega)
          have HL := hide hgc
          have HK4 := hide hk4
          have HO4 := hide hown4
          have HAp := hide hap'
          clear hown4 hO3 hgrow hgc hap hk4 hap' y0 y1 y2 fy
          have y2 := cell_of_blk HT4.out 2
          have fy := unfrozen_of_blk HT4.out 2
          simp only [List.getElem?_toArray, List.getElem?_cons_zero, List.getElem?_cons_succ] at y2
          go_wp2_with fail
          have hbf : ∀ k, k ≠ T0 → (w4.setCell ⟨T0, 2, none⟩ (.slice (some ⟨g, 0, none⟩) (done.len + 1) cap)).heap[k]? = w4.heap[k]? := fun k hk => Below.heap_setCell _ _ _ _ hk
          have hss : (w4.setCell ⟨T0, 2, none⟩ (.slice (some ⟨g, 0, none⟩) (done.len + 1) cap)).heap.size = w4.heap.size := by simp [World.setCell]
          have hdl : (done.app (.cons y ky .nil)).len = done.len + 1 := by rw [F.app_len]; rfl
          refine ⟨⟨done.app (.cons y ky .nil), r', M, .slice (some ⟨g, 0, none⟩) (done.len + 1) cap, cs ++ tC y (.slice yad yn yc), by omega, by omega, HR'.out, by rw [HE1.out], by go_num, ?_, (hB3.trans (hb4.mono (by omega))).setCell (by simp; omega) _, by rw [hss]; omega, ?_, ?_, ?_, ?_, ?_⟩, by simp [intOf]⟩
          · rw [HRt2.out, rt_succ, HRd.out]
            simp only [Option.map_map]
            congr 1
            funext p
            simp [F.app_assoc]
          · rw [hbf _ (by omega)]; exact HZ4.out
          · rw [blk_setCell HT4.out]; rfl
          · have hown : ∀ k, wr.heap.size ≤ k → (Value.slice sad sn sc).ownBlock ≠ some k := fun k hk e => by have := (HOl.out k e).2; omega
            have k1 : KidsAt (w4.setCell ⟨T0, 2, none⟩ (.slice (some ⟨g, 0, none⟩) (done.len + 1) cap)) (fun k => T0 < k ∧ (Value.slice (some ⟨g, 0, none⟩) (done.len + 1) cap).ownBlock ≠ some k) done cs := by
              refine HK.out.keep (by rw [hss]; omega) (fun k hk1 hk2 => ⟨?_, hk1.1, ?_⟩)
              · rw [hbf k (by omega), HK4.out k hk1.2 (by omega), hb3.block k hk2]
              · exact HAp.out k (by omega) hk1.2
            have k2 : KidT (w4.setCell ⟨T0, 2, none⟩ (.slice (some ⟨g, 0, none⟩) (done.len + 1) cap)) (fun k => T0 < k ∧ (Value.slice (some ⟨g, 0, none⟩) (done.len + 1) cap).ownBlock ≠ some k) ky (.slice yad yn yc) := by
              refine HTy.out.keep (by rw [hss]; omega) (fun k hk1 hk2 => ⟨?_, by omega, ?_⟩)
              · rw [hbf k (by omega), HK4.out k (hown k hk1) hk2]
              · exact HAp.out k hk2 (hown k hk1)
            exact KidsAt.app k1 ⟨.slice yad yn yc, [], (List.append_nil _).symm, k2, rfl⟩
          · rw [hdl]
            exact tOwn_keep HO4.out (fun k hk1 hk2 => hbf k (by omega))
          · rw [hdl]
            refine .inr ⟨by omega, g, cap, rfl, by omega, by rw [hss]; omega, fun j v hj => ?_⟩
            rw [World.cell?_of_block (w := w4) (hbf g (by omega))]
            exact HL.out j v hj
  · rw [Bool.not_eq_true] at hg
    rw [rt_bad hg]
    have hc := l3Cell_any x
    rw [hg] at hc
    have HC := hide hc
    have HN := hide hne
    clear hc hne
    go_enter Tryd.func47, Tryd.ntmps47
    go_wp2_with fail
    refine (HC.out _).mono ?_
    rintro e w1 ⟨rfl, hb1⟩
    have H0 := hide ((hb1.block w.heap.size (by simp)).trans (HN.out _))
    have hB : Below w.heap.size w w1 := ((Below.refl _ _).alloc (Nat.le_refl _) _).trans (hb1.mono (by simp))
    clear hb1 p0 p1 HC HN
    have z0 := cell_of_blk H0.out 0
    have z1 := cell_of_blk H0.out 1
    have z2 := cell_of_blk H0.out 2
    have fz := unfrozen_of_blk H0.out
    simp only [List.getElem?_toArray, List.getElem?_cons_zero, List.getElem?_cons_succ] at z0 z1 z2
    go_wp2_with fail
    exact bodyPost_ret (v := .tuple #[.agg #[.int .i64 0, .int .i64 0, .slice none 0 0], .int .i64 0]) (by simp [results, Tryd.results47, go_sem, *]) rfl ⟨((hB.setCell (p := ⟨w.heap.size, 0, none⟩) (Nat.le_refl _) _).setCell (p := ⟨w.heap.size, 1, none⟩) (Nat.le_refl _) _).setCell (p := ⟨w.heap.size, 2, none⟩) (Nat.le_refl _) _, rfl⟩

theorem l3Read_any : ∀ (f : Nat) (ad : Option Addr) (c : Nat) (l : List Cc) (at_ : Nat) (w : World), l.length ≤ 1048576 → CRow w ad l → at_ ≤ l.length → l.length - at_ ≤ f → TRdGoal ad c l at_ w
  | 0, ad, c, l, at_, w, hl, _, ha, hf => l3Read_none ad c l at_ w hl (by omega) ha
  | f + 1, ad, c, l, at_, w, hl, h, ha, hf => by
    by_cases hlt : at_ < l.length
    · exact l3Read_some f ad c l at_ w (fun at' w' h1 h2 h3 => l3Read_any f ad c l at' w' hl h1 h2 h3) hl h hlt hf
    · exact l3Read_none ad c l at_ w hl (by omega) ha

/-- What l3Tree tells. -/
def TTrOut (w' : World) (lo : Nat) (e : Ending) : Option F → Prop
  | none => ∃ (k n : Int) (sad : Option Addr) (sn sc : Nat), e = .returned (.tuple #[.agg #[.int .i64 k, .int .i64 n, .slice sad sn sc], .bool false])
  | some a => ∃ x k s, a = .cons x k .nil ∧ e = .returned (.tuple #[.agg #[.int .i64 x.k, .int .i64 x.n, s], .bool true]) ∧ KidT w' (fun g => lo ≤ g) k s

set_option maxRecDepth 20000 in
set_option maxHeartbeats 2000000 in
theorem l3Tree_any (ad : Option Addr) (c : Nat) (l : List Cc) (w : World) (hl : l.length ≤ 1048576) (h : CRow w ad l) :
    Calls Tryd.prog 31 #[.slice ad l.length c] w fun e w' => Below w.heap.size w w' ∧ TTrOut w' w.heap.size e (treeT l) := by
  have HR := hide h
  clear h
  by_cases h6 : l.length ≤ 600
  · have h6' : ¬ (600 : Int) < (l.length : Int) := by omega
    obtain ⟨T, hT⟩ : ∃ T, T = treeT l := ⟨_, rfl⟩
    rw [← hT]
    have HT := hide hT
    clear hT
    go_enter Tryd.func31, Tryd.ntmps31
    go_wp2_with fail
    refine Calls.mono (l3Read_any l.length ad c l 0 _ hl (HR.out.below ((Below.refl _ _).alloc (Nat.le_refl _) _)) (by omega) (by omega)) ?_
    rintro e w1 ⟨hb1, ho1⟩
    rw [List.drop_zero] at ho1
    have H0 := hide ((hb1.block w.heap.size (by simp)).trans (heap_alloc_new _ _))
    have hB1 : Below w.heap.size w w1 := ((Below.refl _ _).alloc (Nat.le_refl _) _).trans (hb1.mono (by simp))
    have hsz1 : w.heap.size < w1.heap.size := by have := hb1.size; simp at this; omega
    clear hb1
    have z0 := cell_of_blk H0.out 0
    have z1 := cell_of_blk H0.out 1
    have z2 := cell_of_blk H0.out 2
    have fz := unfrozen_of_blk H0.out
    simp only [List.getElem?_toArray, List.getElem?_cons_zero, List.getElem?_cons_succ] at z0 z1 z2
    cases hr : rt 1 l with
    | none =>
      rw [hr] at ho1
      have e1 : T = none := by rw [HT.out]; unfold treeT; rw [if_pos h6, hr]
      subst e1
      have ho1' : e = .returned (.tuple #[.agg #[.int .i64 0, .int .i64 0, .slice none 0 0], .int .i64 0]) := ho1
      subst ho1'
      clear ho1 hr
      go_wp2_with fail
      exact bodyPost_ret (v := .tuple #[.agg #[.int .i64 0, .int .i64 0, .slice none 0 0], .bool false]) (by simp [results, Tryd.results31, go_sem, *]) rfl ⟨(((hB1.setCell (p := ⟨w.heap.size, 0, none⟩) (Nat.le_refl _) _).setCell (p := ⟨w.heap.size, 1, none⟩) (Nat.le_refl _) _).setCell (p := ⟨w.heap.size, 2, none⟩) (Nat.le_refl _) _).alloc (by simp; omega) _, _, _, _, _, _, rfl⟩
    | some q =>
      obtain ⟨t, r⟩ := q
      rw [hr] at ho1
      obtain ⟨x, k, s, rfl, rfl, hTr⟩ := ho1
      have hrf := rt_flat hr
      have hrl : r.length < l.length := by have := congrArg List.length hrf.1; simp [F.flat] at this; omega
      obtain ⟨sad, sc, rfl⟩ := hTr.form
      obtain ⟨sn, hsn⟩ : ∃ sn, sn = k.len := ⟨_, rfl⟩
      rw [← hsn] at hTr ⊢
      have HTr := hide hTr
      clear hTr hsn hrf
      by_cases hr0 : r.length = 0
      · have e1 : T = some (.cons x k .nil) := by
          rw [HT.out]; unfold treeT; rw [if_pos h6, hr, List.length_eq_zero_iff.1 hr0]
        subst e1
        have he : ((l.length - r.length : Nat) : Int) = (l.length : Int) := by omega
        rw [he]
        have hpos : (0 : Int) < (l.length : Int) := by omega
        clear hr
        go_wp2_with fail
        refine bodyPost_ret (v := .tuple #[.agg #[.int .i64 x.k, .int .i64 x.n, .slice sad sn sc], .bool true]) (by simp [results, Tryd.results31, go_sem, *]) rfl ⟨(((hB1.setCell (p := ⟨w.heap.size, 0, none⟩) (Nat.le_refl _) _).setCell (p := ⟨w.heap.size, 1, none⟩) (Nat.le_refl _) _).setCell (p := ⟨w.heap.size, 2, none⟩) (Nat.le_refl _) _).alloc (by simp; omega) _, x, k, .slice sad sn sc, rfl, rfl, ?_⟩
        refine HTr.out.keep (by simp [World.setCell]) (fun g hk1 hk2 => ?_)
        simp at hk1
        have hkn : g ≠ w.heap.size := by omega
        exact ⟨by rw [heap_alloc_old _ _ (by simp [World.setCell]; omega), Below.heap_setCell _ _ _ _ hkn, Below.heap_setCell _ _ _ _ hkn, Below.heap_setCell _ _ _ _ hkn], by omega⟩
      · have e1 : T = none := by
          rw [HT.out]; unfold treeT; rw [if_pos h6, hr]
          cases r with
          | nil => simp at hr0
          | cons y r => rfl
        subst e1
        have hne : ¬ ((l.length - r.length : Nat) : Int) = (l.length : Int) := by omega
        have hpos : (0 : Int) < ((l.length - r.length : Nat) : Int) := by omega
        obtain ⟨E1, hE1⟩ : ∃ E1, E1 = l.length - r.length := ⟨_, rfl⟩
        rw [← hE1] at hne hpos ⊢
        have hnb : ((E1 : Int) == (l.length : Int)) = false := by simp; omega
        clear hr hE1
        go_wp2_with fail
        exact bodyPost_ret (v := .tuple #[.agg #[.int .i64 x.k, .int .i64 x.n, .slice sad sn sc], .bool false]) (by simp [results, Tryd.results31, go_sem, *]) rfl ⟨(((hB1.setCell (p := ⟨w.heap.size, 0, none⟩) (Nat.le_refl _) _).setCell (p := ⟨w.heap.size, 1, none⟩) (Nat.le_refl _) _).setCell (p := ⟨w.heap.size, 2, none⟩) (Nat.le_refl _) _).alloc (by simp; omega) _, _, _, _, _, _, rfl⟩
  · have h6' : (600 : Int) < (l.length : Int) := by omega
    have ht : treeT l = none := by unfold treeT; rw [if_neg h6]
    rw [ht]
    go_enter Tryd.func31, Tryd.ntmps31
    go_wp2_with fail
    exact bodyPost_ret (v := .tuple #[.agg #[.int .i64 0, .int .i64 0, .slice none 0 0], .bool false]) (by simp [results, Tryd.results31, go_sem]) rfl ⟨(Below.refl _ _).alloc (Nat.le_refl _) _, _, _, _, _, _, rfl⟩

set_option maxHeartbeats 1000000 in
theorem specGoodT_any (ad : Option Addr) (c : Nat) (l : List Cc) (w : World) (hl : l.length ≤ 1048576) (h : CRow w ad l) :
    Calls Tryd.prog 17 #[.slice ad l.length c] w fun e w' => e = .returned (.bool (goodT l)) ∧ Below w.heap.size w w' := by
  unfold goodT
  have HC := hide (l3Tree_any ad c l w hl h)
  clear h
  obtain ⟨T, hT⟩ : ∃ T, T = treeT l := ⟨_, rfl⟩
  rw [← hT] at HC ⊢
  clear hT
  go_enter Tryd.func17, Tryd.ntmps17
  go_wp2_with fail
  refine Calls.mono HC.out ?_
  rintro e w1 ⟨hb1, ho⟩
  clear HC
  cases T with
  | none =>
    obtain ⟨k, n, sad, sn, sc, rfl⟩ := ho
    go_wp2_with fail
    go_ret
    exact ⟨rfl, hb1.alloc hb1.size _⟩
  | some t =>
    obtain ⟨x, k, s, -, rfl, hT⟩ := ho
    obtain ⟨sad, sc, rfl⟩ := hT.form
    clear hT
    go_wp2_with fail
    go_ret
    exact ⟨rfl, hb1.alloc hb1.size _⟩
end Go.Proofs.YthnkdlhkldcaoaaDoor.W

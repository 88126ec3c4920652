/-
  The program's ParseExpr tells pxT. Written by build/mk_pxh.py. Conditions: the table of signs as its text lays it; a text of at most 2^63 - 1 bytes.
-/
import Derived.Test.YtmnicilgenpnfaaDoorPxG
namespace Go.Proofs.YtmnicilgenpnfaaDoor.W
open Go.ChangeShapes Go.WideShapes Go.ChangeAt Go.RowKit
set_option linter.unusedVariables false
set_option linter.unusedSimpArgs false

theorem pxT_of {s : ByteArray} (h : ¬ 300 < s.size) : pxT s = cls s.size (tksOf s) (enOf s) (lexT s).2.2 (zOf s) := if_neg h
theorem PX.of {w w' : World} {r : List Xx × Int × Bool} {l : List Xx} {n : Int} {b : Bool} {v : Value} (hr : r = (l, n, b)) (ho : w'.ownsRow w.heap.size 47 3 v l.length (xcv l)) (hb : Below w.heap.size w w') : PX w r (.returned (.tuple #[v, .int .i64 n, .bool b])) w' := by
  subst hr
  exact ⟨v, rfl, ho, hb⟩
theorem PX.nil {w w' : World} {r : List Xx × Int × Bool} {n : Int} {b : Bool} (hr : r = ([], n, b)) (hb : Below w.heap.size w w') : PX w r (.returned (.tuple #[.slice none 0 0, .int .i64 n, .bool b])) w' :=
  PX.of hr (World.ownsRow_nil _ _ _ _) hb
theorem cls_at {n en : Nat} {l : List T.Tk} {wh : Bool} {e : E} {q : Nat} (h : q < l.length) : cls n l en wh (.ok e q) = ([], l[q].a, false) := by unfold cls; simp only; rw [List.getElem?_eq_getElem h]
theorem cls_atb {n en : Nat} {l : List T.Tk} {wh : Bool} {q : Nat} (h : q < l.length) : cls n l en wh (.bad q false) = ([], l[q].a, false) := by unfold cls; simp only [Bool.false_eq_true, if_false]; rw [List.getElem?_eq_getElem h]
theorem cls_endb {n en : Nat} {l : List T.Tk} {wh : Bool} {q : Nat} (h : ¬ q < l.length) : cls n l en wh (.bad q false) = ([], (en : Int), false) := by unfold cls; simp only [Bool.false_eq_true, if_false]; rw [List.getElem?_eq_none (by omega)]
theorem cls_deep {n en : Nat} {l : List T.Tk} {wh : Bool} {q : Nat} : cls n l en wh (.bad q true) = ([], (n : Int), false) := rfl
theorem cls_part {n en : Nat} {l : List T.Tk} {e : E} {q : Nat} (h : ¬ q < l.length) : cls n l en false (.ok e q) = ([], (en : Int), false) := by unfold cls; simp only; rw [List.getElem?_eq_none (by omega)]; rfl
theorem cls_long {n en : Nat} {l : List T.Tk} {e : E} {q : Nat} (h : ¬ q < l.length) (hb : 40 < e.flat.length) : cls n l en true (.ok e q) = ([], (n : Int), false) := by unfold cls; simp only; rw [List.getElem?_eq_none (by omega)]; simp only [if_true]; rw [if_pos hb]
theorem cls_fine {n en : Nat} {l : List T.Tk} {e : E} {q : Nat} (h : ¬ q < l.length) (hb : ¬ 40 < e.flat.length) : cls n l en true (.ok e q) = (e.flat, 0, true) := by unfold cls; simp only; rw [List.getElem?_eq_none (by omega)]; simp only [if_true]; rw [if_neg hb]

set_option maxRecDepth 20000 in
set_option maxHeartbeats 4000000 in
theorem pe_w_deep (s : ByteArray) (w : World) (hs : s.size ≤ maxLen) (ht : SgTab w) (h3 : ¬ 300 < s.size) (hw : (lexT s).2.2 = true) (q : Nat) (hz : zOf s = .bad q true) :
    Calls Tryd.prog 5 #[.string s] w (PX w (pxT s)) := by
  have h3' : ¬ (300 : Int) < (s.size : Int) := by omega
  have hPE : pxT s = cls s.size (tksOf s) (enOf s) true (.bad q true) := by rw [pxT_of h3, hw, hz]
  rw [cls_deep] at hPE
  have hA := zOf_after s
  rw [hz] at hA
  have hL := tksOf_len s
  have HC := hide (implLex_any s w hs)
  have HT := hide ht
  obtain ⟨R, hR⟩ : ∃ R, R = pxT s := ⟨_, rfl⟩
  rw [← hR] at hPE ⊢
  clear hR
  have hK : tksOf s = tkL (lexT s).1 := by unfold tksOf; rw [if_pos hw]
  have hE : enOf s = s.size := by unfold enOf; rw [if_pos hw]
  rw [hw] at HC
  have HZ := hide (show rFrom (tksOf s) (4 * (tksOf s).length + 2) 1 0 0 = .bad q true from hz)
  obtain ⟨TK, hTK⟩ : ∃ TK, TK = tksOf s := ⟨_, rfl⟩
  rw [← hTK] at HZ hL hA hK
  have HR := hide hPE
  obtain ⟨FT, hFT⟩ : ∃ FT, FT = (lexT s).2.1 := ⟨_, rfl⟩
  rw [← hFT] at HC
  clear hPE hTK hFT hE hw hz ht h3
  go_enter Tryd.func5, Tryd.ntmps5
  go_wp2_with fail
  refine Calls.mono HC.out ?_
  rintro e1 w1 ⟨v, rfl, ho, hb⟩
  obtain ⟨ta, tc, rfl, hrow, hblk⟩ := row_of_own ho
  rw [← hK] at hrow ⊢
  have HB1 := hide hb
  have HRow := hide hrow
  have HBlk := hide hblk
  clear ho hb hrow hblk HC hK
  have hBA : Below w1.heap.size w1 (w1.alloc (.cells (rdC ta TK.length tc 0 0 false) 40)) := (Below.refl _ _).alloc (Nat.le_refl _) _
  have hT1 := HT.out.below HB1.out
  have HEnv : Hid (Env (w1.alloc (.cells (rdC ta TK.length tc 0 0 false) 40)) w1.heap.size ta TK) := hide ⟨HRow.out.below hBA, hT1.below hBA, fun b o e => by have := HBlk.out b o e; omega, by obtain ⟨t, fr, hr⟩ := hT1.row; have := (Array.getElem?_eq_some_iff.1 hr).1; omega⟩
  have HP := hide (readFrom_any w1.heap.size ta tc TK (by omega) _ HEnv.out (heap_alloc_new w1 _))
  rw [HZ.out] at HP
  unfold PO at HP
  simp only at HP
  clear HEnv hBA hT1 HT HBlk HZ
  have hs1 : w.heap.size ≤ w1.heap.size := HB1.out.size
  go_wp2_with fail
  refine Calls.mono HP.out ?_
  rintro e3 w2 ⟨rfl, ⟨d', hb2⟩, hg2⟩
  have HBf : Hid (Below w.heap.size w w2) := hide (bel_box HB1.out hg2)
  have hrow2 := HRow.out.below (bel_box (Below.refl w1.heap.size w1) hg2)
  have c := hb2.c
  have fz := hb2.f
  unfold rdC at c
  have hq0 : (0 : Int) ≤ (q : Int) := by omega
  clear hb2 hg2 hrow2 HP HRow HB1
  go_wp2_with fail
  exact bodyPost_ret (v := .tuple #[.slice none 0 0, .int .i64 (s.size : Int), .bool false]) (by simp [results, Tryd.results5, go_sem]) rfl (PX.nil HR.out HBf.out)

set_option maxRecDepth 20000 in
set_option maxHeartbeats 4000000 in
theorem pe_w_atb (s : ByteArray) (w : World) (hs : s.size ≤ maxLen) (ht : SgTab w) (h3 : ¬ 300 < s.size) (hw : (lexT s).2.2 = true) (q : Nat) (hz : zOf s = .bad q false) (hq : q < (tksOf s).length) :
    Calls Tryd.prog 5 #[.string s] w (PX w (pxT s)) := by
  have h3' : ¬ (300 : Int) < (s.size : Int) := by omega
  have hPE : pxT s = cls s.size (tksOf s) (enOf s) true (.bad q false) := by rw [pxT_of h3, hw, hz]
  rw [cls_atb hq] at hPE
  have hA := zOf_after s
  rw [hz] at hA
  have hL := tksOf_len s
  have HC := hide (implLex_any s w hs)
  have HT := hide ht
  obtain ⟨R, hR⟩ : ∃ R, R = pxT s := ⟨_, rfl⟩
  rw [← hR] at hPE ⊢
  clear hR
  have hK : tksOf s = tkL (lexT s).1 := by unfold tksOf; rw [if_pos hw]
  have hE : enOf s = s.size := by unfold enOf; rw [if_pos hw]
  rw [hw] at HC
  have HZ := hide (show rFrom (tksOf s) (4 * (tksOf s).length + 2) 1 0 0 = .bad q false from hz)
  obtain ⟨TK, hTK⟩ : ∃ TK, TK = tksOf s := ⟨_, rfl⟩
  rw [← hTK] at HZ hL hA hK hq
  have hPE2 : R = ([], TK[q].a, false) := by subst hTK; exact hPE
  clear hPE
  have hPE := hPE2
  clear hPE2
  obtain ⟨X, hXe⟩ : ∃ X, X = TK[q].a := ⟨_, rfl⟩
  rw [← hXe] at hPE
  have HX := hide hXe
  clear hXe
  have HR := hide hPE
  obtain ⟨FT, hFT⟩ : ∃ FT, FT = (lexT s).2.1 := ⟨_, rfl⟩
  rw [← hFT] at HC
  clear hPE hTK hFT hE hw hz ht h3
  go_enter Tryd.func5, Tryd.ntmps5
  go_wp2_with fail
  refine Calls.mono HC.out ?_
  rintro e1 w1 ⟨v, rfl, ho, hb⟩
  obtain ⟨ta, tc, rfl, hrow, hblk⟩ := row_of_own ho
  rw [← hK] at hrow ⊢
  have HB1 := hide hb
  have HRow := hide hrow
  have HBlk := hide hblk
  clear ho hb hrow hblk HC hK
  have hBA : Below w1.heap.size w1 (w1.alloc (.cells (rdC ta TK.length tc 0 0 false) 40)) := (Below.refl _ _).alloc (Nat.le_refl _) _
  have hT1 := HT.out.below HB1.out
  have HEnv : Hid (Env (w1.alloc (.cells (rdC ta TK.length tc 0 0 false) 40)) w1.heap.size ta TK) := hide ⟨HRow.out.below hBA, hT1.below hBA, fun b o e => by have := HBlk.out b o e; omega, by obtain ⟨t, fr, hr⟩ := hT1.row; have := (Array.getElem?_eq_some_iff.1 hr).1; omega⟩
  have HP := hide (readFrom_any w1.heap.size ta tc TK (by omega) _ HEnv.out (heap_alloc_new w1 _))
  rw [HZ.out] at HP
  unfold PO at HP
  simp only at HP
  clear HEnv hBA hT1 HT HBlk HZ
  have hs1 : w.heap.size ≤ w1.heap.size := HB1.out.size
  go_wp2_with fail
  refine Calls.mono HP.out ?_
  rintro e3 w2 ⟨rfl, ⟨d', hb2⟩, hg2⟩
  have HBf : Hid (Below w.heap.size w w2) := hide (bel_box HB1.out hg2)
  have hrow2 := HRow.out.below (bel_box (Below.refl w1.heap.size w1) hg2)
  have c := hb2.c
  have fz := hb2.f
  unfold rdC at c
  have hq0 : (0 : Int) ≤ (q : Int) := by omega
  have hq' : (q : Int) < (TK.length : Int) := by omega
  obtain ⟨b, o, rfl, hbl, -, -, -, q3⟩ := hrow2.tok (Below.refl _ _) hq
  rw [← HX.out] at q3
  clear hb2 hg2 hrow2 HP HRow HB1 HX
  go_wp2_with fail
  go_quiet (fail)
  go_wp2_with fail
  exact bodyPost_ret (v := .tuple #[.slice none 0 0, .int .i64 X, .bool false]) (by simp [results, Tryd.results5, go_sem]) rfl (PX.nil HR.out (HBf.out.trans ((belDrewN _).mono HBf.out.size)))

set_option maxRecDepth 20000 in
set_option maxHeartbeats 4000000 in
theorem pe_w_endb (s : ByteArray) (w : World) (hs : s.size ≤ maxLen) (ht : SgTab w) (h3 : ¬ 300 < s.size) (hw : (lexT s).2.2 = true) (q : Nat) (hz : zOf s = .bad q false) (hq : ¬ q < (tksOf s).length) :
    Calls Tryd.prog 5 #[.string s] w (PX w (pxT s)) := by
  have h3' : ¬ (300 : Int) < (s.size : Int) := by omega
  have hPE : pxT s = cls s.size (tksOf s) (enOf s) true (.bad q false) := by rw [pxT_of h3, hw, hz]
  rw [cls_endb hq] at hPE
  have hA := zOf_after s
  rw [hz] at hA
  have hL := tksOf_len s
  have HC := hide (implLex_any s w hs)
  have HT := hide ht
  obtain ⟨R, hR⟩ : ∃ R, R = pxT s := ⟨_, rfl⟩
  rw [← hR] at hPE ⊢
  clear hR
  have hK : tksOf s = tkL (lexT s).1 := by unfold tksOf; rw [if_pos hw]
  have hE : enOf s = s.size := by unfold enOf; rw [if_pos hw]
  rw [hw] at HC
  have HZ := hide (show rFrom (tksOf s) (4 * (tksOf s).length + 2) 1 0 0 = .bad q false from hz)
  obtain ⟨TK, hTK⟩ : ∃ TK, TK = tksOf s := ⟨_, rfl⟩
  rw [← hTK] at HZ hL hA hK hq
  rw [hE] at hPE
  have HR := hide hPE
  obtain ⟨FT, hFT⟩ : ∃ FT, FT = (lexT s).2.1 := ⟨_, rfl⟩
  rw [← hFT] at HC
  clear hPE hTK hFT hE hw hz ht h3
  go_enter Tryd.func5, Tryd.ntmps5
  go_wp2_with fail
  refine Calls.mono HC.out ?_
  rintro e1 w1 ⟨v, rfl, ho, hb⟩
  obtain ⟨ta, tc, rfl, hrow, hblk⟩ := row_of_own ho
  rw [← hK] at hrow ⊢
  have HB1 := hide hb
  have HRow := hide hrow
  have HBlk := hide hblk
  clear ho hb hrow hblk HC hK
  have hBA : Below w1.heap.size w1 (w1.alloc (.cells (rdC ta TK.length tc 0 0 false) 40)) := (Below.refl _ _).alloc (Nat.le_refl _) _
  have hT1 := HT.out.below HB1.out
  have HEnv : Hid (Env (w1.alloc (.cells (rdC ta TK.length tc 0 0 false) 40)) w1.heap.size ta TK) := hide ⟨HRow.out.below hBA, hT1.below hBA, fun b o e => by have := HBlk.out b o e; omega, by obtain ⟨t, fr, hr⟩ := hT1.row; have := (Array.getElem?_eq_some_iff.1 hr).1; omega⟩
  have HP := hide (readFrom_any w1.heap.size ta tc TK (by omega) _ HEnv.out (heap_alloc_new w1 _))
  rw [HZ.out] at HP
  unfold PO at HP
  simp only at HP
  clear HEnv hBA hT1 HT HBlk HZ
  have hs1 : w.heap.size ≤ w1.heap.size := HB1.out.size
  go_wp2_with fail
  refine Calls.mono HP.out ?_
  rintro e3 w2 ⟨rfl, ⟨d', hb2⟩, hg2⟩
  have HBf : Hid (Below w.heap.size w w2) := hide (bel_box HB1.out hg2)
  have hrow2 := HRow.out.below (bel_box (Below.refl w1.heap.size w1) hg2)
  have c := hb2.c
  have fz := hb2.f
  unfold rdC at c
  have hq0 : (0 : Int) ≤ (q : Int) := by omega
  have hq' : ¬ (q : Int) < (TK.length : Int) := by omega
  clear hb2 hg2 hrow2 HP HRow HB1
  go_wp2_with fail
  exact bodyPost_ret (v := .tuple #[.slice none 0 0, .int .i64 (s.size : Int), .bool false]) (by simp [results, Tryd.results5, go_sem]) rfl (PX.nil HR.out HBf.out)

set_option maxRecDepth 20000 in
set_option maxHeartbeats 4000000 in
theorem pe_w_at (s : ByteArray) (w : World) (hs : s.size ≤ maxLen) (ht : SgTab w) (h3 : ¬ 300 < s.size) (hw : (lexT s).2.2 = true) (q : Nat) (e : E) (hz : zOf s = .ok e q) (hq : q < (tksOf s).length) :
    Calls Tryd.prog 5 #[.string s] w (PX w (pxT s)) := by
  have h3' : ¬ (300 : Int) < (s.size : Int) := by omega
  have hPE : pxT s = cls s.size (tksOf s) (enOf s) true (.ok e q) := by rw [pxT_of h3, hw, hz]
  rw [cls_at hq] at hPE
  have hA := zOf_after s
  rw [hz] at hA
  have hL := tksOf_len s
  have HC := hide (implLex_any s w hs)
  have HT := hide ht
  obtain ⟨R, hR⟩ : ∃ R, R = pxT s := ⟨_, rfl⟩
  rw [← hR] at hPE ⊢
  clear hR
  have hK : tksOf s = tkL (lexT s).1 := by unfold tksOf; rw [if_pos hw]
  have hE : enOf s = s.size := by unfold enOf; rw [if_pos hw]
  rw [hw] at HC
  have HZ := hide (show rFrom (tksOf s) (4 * (tksOf s).length + 2) 1 0 0 = .ok e q from hz)
  obtain ⟨TK, hTK⟩ : ∃ TK, TK = tksOf s := ⟨_, rfl⟩
  rw [← hTK] at HZ hL hA hK hq
  have hPE2 : R = ([], TK[q].a, false) := by subst hTK; exact hPE
  clear hPE
  have hPE := hPE2
  clear hPE2
  obtain ⟨X, hXe⟩ : ∃ X, X = TK[q].a := ⟨_, rfl⟩
  rw [← hXe] at hPE
  have HX := hide hXe
  clear hXe
  have HR := hide hPE
  obtain ⟨FT, hFT⟩ : ∃ FT, FT = (lexT s).2.1 := ⟨_, rfl⟩
  rw [← hFT] at HC
  clear hPE hTK hFT hE hw hz ht h3
  go_enter Tryd.func5, Tryd.ntmps5
  go_wp2_with fail
  refine Calls.mono HC.out ?_
  rintro e1 w1 ⟨v, rfl, ho, hb⟩
  obtain ⟨ta, tc, rfl, hrow, hblk⟩ := row_of_own ho
  rw [← hK] at hrow ⊢
  have HB1 := hide hb
  have HRow := hide hrow
  have HBlk := hide hblk
  clear ho hb hrow hblk HC hK
  have hBA : Below w1.heap.size w1 (w1.alloc (.cells (rdC ta TK.length tc 0 0 false) 40)) := (Below.refl _ _).alloc (Nat.le_refl _) _
  have hT1 := HT.out.below HB1.out
  have HEnv : Hid (Env (w1.alloc (.cells (rdC ta TK.length tc 0 0 false) 40)) w1.heap.size ta TK) := hide ⟨HRow.out.below hBA, hT1.below hBA, fun b o e => by have := HBlk.out b o e; omega, by obtain ⟨t, fr, hr⟩ := hT1.row; have := (Array.getElem?_eq_some_iff.1 hr).1; omega⟩
  have HP := hide (readFrom_any w1.heap.size ta tc TK (by omega) _ HEnv.out (heap_alloc_new w1 _))
  rw [HZ.out] at HP
  unfold PO at HP
  simp only at HP
  clear HEnv hBA hT1 HT HBlk HZ
  have hs1 : w.heap.size ≤ w1.heap.size := HB1.out.size
  go_wp2_with fail
  refine Calls.mono HP.out ?_
  rintro e3 w2 ⟨v3, rfl, ho3, hb2, hg2⟩
  obtain ⟨va, vc, rfl⟩ := own_form' ho3
  have HO3 := hide (own_lower' ho3 (base' := w.heap.size) (by simp; omega))
  obtain ⟨FL, hFL⟩ : ∃ FL, FL = e.flat := ⟨_, rfl⟩
  rw [← hFL] at HO3 ⊢
  obtain ⟨FN, hFN⟩ : ∃ FN, FN = FL.length := ⟨_, rfl⟩
  rw [← hFN] at HO3 ⊢
  have HFN := hide hFN
  clear ho3 hFL hFN
  have HBf : Hid (Below w.heap.size w w2) := hide (bel_box HB1.out hg2)
  have hrow2 := HRow.out.below (bel_box (Below.refl w1.heap.size w1) hg2)
  have c := hb2.c
  have fz := hb2.f
  unfold rdC at c
  have hq0 : (0 : Int) ≤ (q : Int) := by omega
  have hq' : (q : Int) < (TK.length : Int) := by omega
  obtain ⟨b, o, rfl, hbl, -, -, -, q3⟩ := hrow2.tok (Below.refl _ _) hq
  rw [← HX.out] at q3
  clear hb2 hg2 hrow2 HP HRow HB1 HX
  go_wp2_with fail
  go_quiet (fail)
  go_wp2_with fail
  exact bodyPost_ret (v := .tuple #[.slice none 0 0, .int .i64 X, .bool false]) (by simp [results, Tryd.results5, go_sem]) rfl (PX.nil HR.out (HBf.out.trans ((belDrewN _).mono HBf.out.size)))

set_option maxRecDepth 20000 in
set_option maxHeartbeats 4000000 in
theorem pe_w_long (s : ByteArray) (w : World) (hs : s.size ≤ maxLen) (ht : SgTab w) (h3 : ¬ 300 < s.size) (hw : (lexT s).2.2 = true) (q : Nat) (e : E) (hz : zOf s = .ok e q) (hq : ¬ q < (tksOf s).length) (hlong : 40 < e.flat.length) :
    Calls Tryd.prog 5 #[.string s] w (PX w (pxT s)) := by
  have h3' : ¬ (300 : Int) < (s.size : Int) := by omega
  have hPE : pxT s = cls s.size (tksOf s) (enOf s) true (.ok e q) := by rw [pxT_of h3, hw, hz]
  rw [cls_long hq hlong] at hPE
  have hA := zOf_after s
  rw [hz] at hA
  have hL := tksOf_len s
  have HC := hide (implLex_any s w hs)
  have HT := hide ht
  obtain ⟨R, hR⟩ : ∃ R, R = pxT s := ⟨_, rfl⟩
  rw [← hR] at hPE ⊢
  clear hR
  have hK : tksOf s = tkL (lexT s).1 := by unfold tksOf; rw [if_pos hw]
  have hE : enOf s = s.size := by unfold enOf; rw [if_pos hw]
  rw [hw] at HC
  have HZ := hide (show rFrom (tksOf s) (4 * (tksOf s).length + 2) 1 0 0 = .ok e q from hz)
  obtain ⟨TK, hTK⟩ : ∃ TK, TK = tksOf s := ⟨_, rfl⟩
  rw [← hTK] at HZ hL hA hK hq
  have HR := hide hPE
  obtain ⟨FT, hFT⟩ : ∃ FT, FT = (lexT s).2.1 := ⟨_, rfl⟩
  rw [← hFT] at HC
  clear hPE hTK hFT hE hw hz ht h3
  go_enter Tryd.func5, Tryd.ntmps5
  go_wp2_with fail
  refine Calls.mono HC.out ?_
  rintro e1 w1 ⟨v, rfl, ho, hb⟩
  obtain ⟨ta, tc, rfl, hrow, hblk⟩ := row_of_own ho
  rw [← hK] at hrow ⊢
  have HB1 := hide hb
  have HRow := hide hrow
  have HBlk := hide hblk
  clear ho hb hrow hblk HC hK
  have hBA : Below w1.heap.size w1 (w1.alloc (.cells (rdC ta TK.length tc 0 0 false) 40)) := (Below.refl _ _).alloc (Nat.le_refl _) _
  have hT1 := HT.out.below HB1.out
  have HEnv : Hid (Env (w1.alloc (.cells (rdC ta TK.length tc 0 0 false) 40)) w1.heap.size ta TK) := hide ⟨HRow.out.below hBA, hT1.below hBA, fun b o e => by have := HBlk.out b o e; omega, by obtain ⟨t, fr, hr⟩ := hT1.row; have := (Array.getElem?_eq_some_iff.1 hr).1; omega⟩
  have HP := hide (readFrom_any w1.heap.size ta tc TK (by omega) _ HEnv.out (heap_alloc_new w1 _))
  rw [HZ.out] at HP
  unfold PO at HP
  simp only at HP
  clear HEnv hBA hT1 HT HBlk HZ
  have hs1 : w.heap.size ≤ w1.heap.size := HB1.out.size
  go_wp2_with fail
  refine Calls.mono HP.out ?_
  rintro e3 w2 ⟨v3, rfl, ho3, hb2, hg2⟩
  obtain ⟨va, vc, rfl⟩ := own_form' ho3
  have HO3 := hide (own_lower' ho3 (base' := w.heap.size) (by simp; omega))
  obtain ⟨FL, hFL⟩ : ∃ FL, FL = e.flat := ⟨_, rfl⟩
  rw [← hFL] at HO3 hlong ⊢
  obtain ⟨FN, hFN⟩ : ∃ FN, FN = FL.length := ⟨_, rfl⟩
  rw [← hFN] at HO3 hlong ⊢
  have HFN := hide hFN
  clear ho3 hFL hFN
  have HBf : Hid (Below w.heap.size w w2) := hide (bel_box HB1.out hg2)
  have hrow2 := HRow.out.below (bel_box (Below.refl w1.heap.size w1) hg2)
  have c := hb2.c
  have fz := hb2.f
  unfold rdC at c
  have hq0 : (0 : Int) ≤ (q : Int) := by omega
  have hq' : ¬ (q : Int) < (TK.length : Int) := by omega
  have hlong' : (40 : Int) < (FN : Int) := by omega
  clear hb2 hg2 hrow2 HP HRow HB1
  go_wp2_with fail
  exact bodyPost_ret (v := .tuple #[.slice none 0 0, .int .i64 (s.size : Int), .bool false]) (by simp [results, Tryd.results5, go_sem]) rfl (PX.nil HR.out HBf.out)

set_option maxRecDepth 20000 in
set_option maxHeartbeats 4000000 in
theorem pe_w_fine (s : ByteArray) (w : World) (hs : s.size ≤ maxLen) (ht : SgTab w) (h3 : ¬ 300 < s.size) (hw : (lexT s).2.2 = true) (q : Nat) (e : E) (hz : zOf s = .ok e q) (hq : ¬ q < (tksOf s).length) (hlong : ¬ 40 < e.flat.length) :
    Calls Tryd.prog 5 #[.string s] w (PX w (pxT s)) := by
  have h3' : ¬ (300 : Int) < (s.size : Int) := by omega
  have hPE : pxT s = cls s.size (tksOf s) (enOf s) true (.ok e q) := by rw [pxT_of h3, hw, hz]
  rw [cls_fine hq hlong] at hPE
  have hA := zOf_after s
  rw [hz] at hA
  have hL := tksOf_len s
  have HC := hide (implLex_any s w hs)
  have HT := hide ht
  obtain ⟨R, hR⟩ : ∃ R, R = pxT s := ⟨_, rfl⟩
  rw [← hR] at hPE ⊢
  clear hR
  have hK : tksOf s = tkL (lexT s).1 := by unfold tksOf; rw [if_pos hw]
  have hE : enOf s = s.size := by unfold enOf; rw [if_pos hw]
  rw [hw] at HC
  have HZ := hide (show rFrom (tksOf s) (4 * (tksOf s).length + 2) 1 0 0 = .ok e q from hz)
  obtain ⟨TK, hTK⟩ : ∃ TK, TK = tksOf s := ⟨_, rfl⟩
  rw [← hTK] at HZ hL hA hK hq
  have HR := hide hPE
  obtain ⟨FT, hFT⟩ : ∃ FT, FT = (lexT s).2.1 := ⟨_, rfl⟩
  rw [← hFT] at HC
  clear hPE hTK hFT hE hw hz ht h3
  go_enter Tryd.func5, Tryd.ntmps5
  go_wp2_with fail
  refine Calls.mono HC.out ?_
  rintro e1 w1 ⟨v, rfl, ho, hb⟩
  obtain ⟨ta, tc, rfl, hrow, hblk⟩ := row_of_own ho
  rw [← hK] at hrow ⊢
  have HB1 := hide hb
  have HRow := hide hrow
  have HBlk := hide hblk
  clear ho hb hrow hblk HC hK
  have hBA : Below w1.heap.size w1 (w1.alloc (.cells (rdC ta TK.length tc 0 0 false) 40)) := (Below.refl _ _).alloc (Nat.le_refl _) _
  have hT1 := HT.out.below HB1.out
  have HEnv : Hid (Env (w1.alloc (.cells (rdC ta TK.length tc 0 0 false) 40)) w1.heap.size ta TK) := hide ⟨HRow.out.below hBA, hT1.below hBA, fun b o e => by have := HBlk.out b o e; omega, by obtain ⟨t, fr, hr⟩ := hT1.row; have := (Array.getElem?_eq_some_iff.1 hr).1; omega⟩
  have HP := hide (readFrom_any w1.heap.size ta tc TK (by omega) _ HEnv.out (heap_alloc_new w1 _))
  rw [HZ.out] at HP
  unfold PO at HP
  simp only at HP
  clear HEnv hBA hT1 HT HBlk HZ
  have hs1 : w.heap.size ≤ w1.heap.size := HB1.out.size
  go_wp2_with fail
  refine Calls.mono HP.out ?_
  rintro e3 w2 ⟨v3, rfl, ho3, hb2, hg2⟩
  obtain ⟨va, vc, rfl⟩ := own_form' ho3
  have HO3 := hide (own_lower' ho3 (base' := w.heap.size) (by simp; omega))
  obtain ⟨FL, hFL⟩ : ∃ FL, FL = e.flat := ⟨_, rfl⟩
  rw [← hFL] at HO3 hlong ⊢
  have HR2 : Hid (R = (FL, 0, true)) := hide (by rw [hFL]; exact HR.out)
  obtain ⟨FN, hFN⟩ : ∃ FN, FN = FL.length := ⟨_, rfl⟩
  rw [← hFN] at HO3 hlong ⊢
  have HFN := hide hFN
  clear ho3 hFL hFN
  have HBf : Hid (Below w.heap.size w w2) := hide (bel_box HB1.out hg2)
  have hrow2 := HRow.out.below (bel_box (Below.refl w1.heap.size w1) hg2)
  have c := hb2.c
  have fz := hb2.f
  unfold rdC at c
  have hq0 : (0 : Int) ≤ (q : Int) := by omega
  have hq' : ¬ (q : Int) < (TK.length : Int) := by omega
  have hlong' : ¬ (40 : Int) < (FN : Int) := by omega
  clear hb2 hg2 hrow2 HP HRow HB1
  go_wp2_with fail
  exact bodyPost_ret (v := .tuple #[.slice va FN vc, .int .i64 0, .bool true]) (by simp [results, Tryd.results5, go_sem]) rfl (PX.of HR2.out (by rw [← HFN.out]; exact HO3.out) HBf.out)

set_option maxRecDepth 20000 in
set_option maxHeartbeats 4000000 in
theorem pe_p_deep (s : ByteArray) (w : World) (hs : s.size ≤ maxLen) (ht : SgTab w) (h3 : ¬ 300 < s.size) (hw : (lexT s).2.2 = false) (q : Nat) (hz : zOf s = .bad q true) :
    Calls Tryd.prog 5 #[.string s] w (PX w (pxT s)) := by
  have h3' : ¬ (300 : Int) < (s.size : Int) := by omega
  have hPE : pxT s = cls s.size (tksOf s) (enOf s) false (.bad q true) := by rw [pxT_of h3, hw, hz]
  rw [cls_deep] at hPE
  have hA := zOf_after s
  rw [hz] at hA
  have hL := tksOf_len s
  have HC := hide (implLex_any s w hs)
  have HT := hide ht
  obtain ⟨R, hR⟩ : ∃ R, R = pxT s := ⟨_, rfl⟩
  rw [← hR] at hPE ⊢
  clear hR
  have hK : tksOf s = tkL (lexT (s.extract 0 (lexT s).2.1)).1 := by unfold tksOf; rw [if_neg (by rw [hw]; simp)]
  have hE : enOf s = (lexT s).2.1 := by unfold enOf; rw [if_neg (by rw [hw]; simp)]
  have hF := (lexT_bd s).2
  have HC2 := hide (fun w' => implLex_any (s.extract 0 (lexT s).2.1) w' (by simp only [ByteArray.size_extract]; unfold maxLen at hs ⊢; omega))
  rw [hw] at HC
  have HZ := hide (show rFrom (tksOf s) (4 * (tksOf s).length + 2) 1 0 0 = .bad q true from hz)
  obtain ⟨TK, hTK⟩ : ∃ TK, TK = tksOf s := ⟨_, rfl⟩
  rw [← hTK] at HZ hL hA hK
  have HR := hide hPE
  obtain ⟨FT, hFT⟩ : ∃ FT, FT = (lexT s).2.1 := ⟨_, rfl⟩
  rw [← hFT] at HC HC2 hK hF hE
  clear hPE hTK hFT hE hw hz ht h3
  have hf0 : (0 : Int) ≤ (FT : Int) := by omega
  have hf1 : (FT : Int) ≤ (s.size : Int) := by omega
  obtain ⟨C2, hC2⟩ : ∃ C2, C2 = s.extract 0 FT := ⟨_, rfl⟩
  go_enter Tryd.func5, Tryd.ntmps5
  go_wp2_with fail
  refine Calls.mono HC.out ?_
  rintro e1 w1 ⟨v, rfl, ho, hb⟩
  obtain ⟨a0, c0, rfl⟩ := own_form ho
  obtain ⟨N0, hN0⟩ : ∃ N0, N0 = (lexT s).1.length := ⟨_, rfl⟩
  rw [← hN0]
  have HB0 := hide hb
  clear ho hb HC hN0
  go_wp2_with fail
  rw [← hC2]
  refine Calls.mono (by rw [hC2]; exact HC2.out _) ?_
  rintro e2 w1 ⟨v, rfl, ho, hb⟩
  obtain ⟨ta, tc, rfl, hrow, hblk⟩ := row_of_own ho
  rw [← hK] at hrow ⊢
  have HB1 := hide (HB0.out.trans (hb.mono HB0.out.size))
  have HRow := hide hrow
  have HBlk := hide hblk
  clear ho hb hrow hblk HC2 hK HB0
  have hBA : Below w1.heap.size w1 (w1.alloc (.cells (rdC ta TK.length tc 0 0 false) 40)) := (Below.refl _ _).alloc (Nat.le_refl _) _
  have hT1 := HT.out.below HB1.out
  have HEnv : Hid (Env (w1.alloc (.cells (rdC ta TK.length tc 0 0 false) 40)) w1.heap.size ta TK) := hide ⟨HRow.out.below hBA, hT1.below hBA, fun b o e => by have := HBlk.out b o e; omega, by obtain ⟨t, fr, hr⟩ := hT1.row; have := (Array.getElem?_eq_some_iff.1 hr).1; omega⟩
  have HP := hide (readFrom_any w1.heap.size ta tc TK (by omega) _ HEnv.out (heap_alloc_new w1 _))
  rw [HZ.out] at HP
  unfold PO at HP
  simp only at HP
  clear HEnv hBA hT1 HT HBlk HZ
  have hs1 : w.heap.size ≤ w1.heap.size := HB1.out.size
  go_wp2_with fail
  refine Calls.mono HP.out ?_
  rintro e3 w2 ⟨rfl, ⟨d', hb2⟩, hg2⟩
  have HBf : Hid (Below w.heap.size w w2) := hide (bel_box HB1.out hg2)
  have hrow2 := HRow.out.below (bel_box (Below.refl w1.heap.size w1) hg2)
  have c := hb2.c
  have fz := hb2.f
  unfold rdC at c
  have hq0 : (0 : Int) ≤ (q : Int) := by omega
  clear hb2 hg2 hrow2 HP HRow HB1
  go_wp2_with fail
  exact bodyPost_ret (v := .tuple #[.slice none 0 0, .int .i64 (s.size : Int), .bool false]) (by simp [results, Tryd.results5, go_sem]) rfl (PX.nil HR.out HBf.out)

set_option maxRecDepth 20000 in
set_option maxHeartbeats 4000000 in
theorem pe_p_atb (s : ByteArray) (w : World) (hs : s.size ≤ maxLen) (ht : SgTab w) (h3 : ¬ 300 < s.size) (hw : (lexT s).2.2 = false) (q : Nat) (hz : zOf s = .bad q false) (hq : q < (tksOf s).length) :
    Calls Tryd.prog 5 #[.string s] w (PX w (pxT s)) := by
  have h3' : ¬ (300 : Int) < (s.size : Int) := by omega
  have hPE : pxT s = cls s.size (tksOf s) (enOf s) false (.bad q false) := by rw [pxT_of h3, hw, hz]
  rw [cls_atb hq] at hPE
  have hA := zOf_after s
  rw [hz] at hA
  have hL := tksOf_len s
  have HC := hide (implLex_any s w hs)
  have HT := hide ht
  obtain ⟨R, hR⟩ : ∃ R, R = pxT s := ⟨_, rfl⟩
  rw [← hR] at hPE ⊢
  clear hR
  have hK : tksOf s = tkL (lexT (s.extract 0 (lexT s).2.1)).1 := by unfold tksOf; rw [if_neg (by rw [hw]; simp)]
  have hE : enOf s = (lexT s).2.1 := by unfold enOf; rw [if_neg (by rw [hw]; simp)]
  have hF := (lexT_bd s).2
  have HC2 := hide (fun w' => implLex_any (s.extract 0 (lexT s).2.1) w' (by simp only [ByteArray.size_extract]; unfold maxLen at hs ⊢; omega))
  rw [hw] at HC
  have HZ := hide (show rFrom (tksOf s) (4 * (tksOf s).length + 2) 1 0 0 = .bad q false from hz)
  obtain ⟨TK, hTK⟩ : ∃ TK, TK = tksOf s := ⟨_, rfl⟩
  rw [← hTK] at HZ hL hA hK hq
  have hPE2 : R = ([], TK[q].a, false) := by subst hTK; exact hPE
  clear hPE
  have hPE := hPE2
  clear hPE2
  obtain ⟨X, hXe⟩ : ∃ X, X = TK[q].a := ⟨_, rfl⟩
  rw [← hXe] at hPE
  have HX := hide hXe
  clear hXe
  have HR := hide hPE
  obtain ⟨FT, hFT⟩ : ∃ FT, FT = (lexT s).2.1 := ⟨_, rfl⟩
  rw [← hFT] at HC HC2 hK hF hE
  clear hPE hTK hFT hE hw hz ht h3
  have hf0 : (0 : Int) ≤ (FT : Int) := by omega
  have hf1 : (FT : Int) ≤ (s.size : Int) := by omega
  obtain ⟨C2, hC2⟩ : ∃ C2, C2 = s.extract 0 FT := ⟨_, rfl⟩
  go_enter Tryd.func5, Tryd.ntmps5
  go_wp2_with fail
  refine Calls.mono HC.out ?_
  rintro e1 w1 ⟨v, rfl, ho, hb⟩
  obtain ⟨a0, c0, rfl⟩ := own_form ho
  obtain ⟨N0, hN0⟩ : ∃ N0, N0 = (lexT s).1.length := ⟨_, rfl⟩
  rw [← hN0]
  have HB0 := hide hb
  clear ho hb HC hN0
  go_wp2_with fail
  rw [← hC2]
  refine Calls.mono (by rw [hC2]; exact HC2.out _) ?_
  rintro e2 w1 ⟨v, rfl, ho, hb⟩
  obtain ⟨ta, tc, rfl, hrow, hblk⟩ := row_of_own ho
  rw [← hK] at hrow ⊢
  have HB1 := hide (HB0.out.trans (hb.mono HB0.out.size))
  have HRow := hide hrow
  have HBlk := hide hblk
  clear ho hb hrow hblk HC2 hK HB0
  have hBA : Below w1.heap.size w1 (w1.alloc (.cells (rdC ta TK.length tc 0 0 false) 40)) := (Below.refl _ _).alloc (Nat.le_refl _) _
  have hT1 := HT.out.below HB1.out
  have HEnv : Hid (Env (w1.alloc (.cells (rdC ta TK.length tc 0 0 false) 40)) w1.heap.size ta TK) := hide ⟨HRow.out.below hBA, hT1.below hBA, fun b o e => by have := HBlk.out b o e; omega, by obtain ⟨t, fr, hr⟩ := hT1.row; have := (Array.getElem?_eq_some_iff.1 hr).1; omega⟩
  have HP := hide (readFrom_any w1.heap.size ta tc TK (by omega) _ HEnv.out (heap_alloc_new w1 _))
  rw [HZ.out] at HP
  unfold PO at HP
  simp only at HP
  clear HEnv hBA hT1 HT HBlk HZ
  have hs1 : w.heap.size ≤ w1.heap.size := HB1.out.size
  go_wp2_with fail
  refine Calls.mono HP.out ?_
  rintro e3 w2 ⟨rfl, ⟨d', hb2⟩, hg2⟩
  have HBf : Hid (Below w.heap.size w w2) := hide (bel_box HB1.out hg2)
  have hrow2 := HRow.out.below (bel_box (Below.refl w1.heap.size w1) hg2)
  have c := hb2.c
  have fz := hb2.f
  unfold rdC at c
  have hq0 : (0 : Int) ≤ (q : Int) := by omega
  have hq' : (q : Int) < (TK.length : Int) := by omega
  obtain ⟨b, o, rfl, hbl, -, -, -, q3⟩ := hrow2.tok (Below.refl _ _) hq
  rw [← HX.out] at q3
  clear hb2 hg2 hrow2 HP HRow HB1 HX
  go_wp2_with fail
  go_quiet (fail)
  go_wp2_with fail
  exact bodyPost_ret (v := .tuple #[.slice none 0 0, .int .i64 X, .bool false]) (by simp [results, Tryd.results5, go_sem]) rfl (PX.nil HR.out (HBf.out.trans ((belDrewN _).mono HBf.out.size)))

set_option maxRecDepth 20000 in
set_option maxHeartbeats 4000000 in
theorem pe_p_endb (s : ByteArray) (w : World) (hs : s.size ≤ maxLen) (ht : SgTab w) (h3 : ¬ 300 < s.size) (hw : (lexT s).2.2 = false) (q : Nat) (hz : zOf s = .bad q false) (hq : ¬ q < (tksOf s).length) :
    Calls Tryd.prog 5 #[.string s] w (PX w (pxT s)) := by
  have h3' : ¬ (300 : Int) < (s.size : Int) := by omega
  have hPE : pxT s = cls s.size (tksOf s) (enOf s) false (.bad q false) := by rw [pxT_of h3, hw, hz]
  rw [cls_endb hq] at hPE
  have hA := zOf_after s
  rw [hz] at hA
  have hL := tksOf_len s
  have HC := hide (implLex_any s w hs)
  have HT := hide ht
  obtain ⟨R, hR⟩ : ∃ R, R = pxT s := ⟨_, rfl⟩
  rw [← hR] at hPE ⊢
  clear hR
  have hK : tksOf s = tkL (lexT (s.extract 0 (lexT s).2.1)).1 := by unfold tksOf; rw [if_neg (by rw [hw]; simp)]
  have hE : enOf s = (lexT s).2.1 := by unfold enOf; rw [if_neg (by rw [hw]; simp)]
  have hF := (lexT_bd s).2
  have HC2 := hide (fun w' => implLex_any (s.extract 0 (lexT s).2.1) w' (by simp only [ByteArray.size_extract]; unfold maxLen at hs ⊢; omega))
  rw [hw] at HC
  have HZ := hide (show rFrom (tksOf s) (4 * (tksOf s).length + 2) 1 0 0 = .bad q false from hz)
  obtain ⟨TK, hTK⟩ : ∃ TK, TK = tksOf s := ⟨_, rfl⟩
  rw [← hTK] at HZ hL hA hK hq
  rw [hE] at hPE
  have HR := hide hPE
  obtain ⟨FT, hFT⟩ : ∃ FT, FT = (lexT s).2.1 := ⟨_, rfl⟩
  rw [← hFT] at HC HC2 hK hF hE HR
  clear hPE hTK hFT hE hw hz ht h3
  have hf0 : (0 : Int) ≤ (FT : Int) := by omega
  have hf1 : (FT : Int) ≤ (s.size : Int) := by omega
  obtain ⟨C2, hC2⟩ : ∃ C2, C2 = s.extract 0 FT := ⟨_, rfl⟩
  go_enter Tryd.func5, Tryd.ntmps5
  go_wp2_with fail
  refine Calls.mono HC.out ?_
  rintro e1 w1 ⟨v, rfl, ho, hb⟩
  obtain ⟨a0, c0, rfl⟩ := own_form ho
  obtain ⟨N0, hN0⟩ : ∃ N0, N0 = (lexT s).1.length := ⟨_, rfl⟩
  rw [← hN0]
  have HB0 := hide hb
  clear ho hb HC hN0
  go_wp2_with fail
  rw [← hC2]
  refine Calls.mono (by rw [hC2]; exact HC2.out _) ?_
  rintro e2 w1 ⟨v, rfl, ho, hb⟩
  obtain ⟨ta, tc, rfl, hrow, hblk⟩ := row_of_own ho
  rw [← hK] at hrow ⊢
  have HB1 := hide (HB0.out.trans (hb.mono HB0.out.size))
  have HRow := hide hrow
  have HBlk := hide hblk
  clear ho hb hrow hblk HC2 hK HB0
  have hBA : Below w1.heap.size w1 (w1.alloc (.cells (rdC ta TK.length tc 0 0 false) 40)) := (Below.refl _ _).alloc (Nat.le_refl _) _
  have hT1 := HT.out.below HB1.out
  have HEnv : Hid (Env (w1.alloc (.cells (rdC ta TK.length tc 0 0 false) 40)) w1.heap.size ta TK) := hide ⟨HRow.out.below hBA, hT1.below hBA, fun b o e => by have := HBlk.out b o e; omega, by obtain ⟨t, fr, hr⟩ := hT1.row; have := (Array.getElem?_eq_some_iff.1 hr).1; omega⟩
  have HP := hide (readFrom_any w1.heap.size ta tc TK (by omega) _ HEnv.out (heap_alloc_new w1 _))
  rw [HZ.out] at HP
  unfold PO at HP
  simp only at HP
  clear HEnv hBA hT1 HT HBlk HZ
  have hs1 : w.heap.size ≤ w1.heap.size := HB1.out.size
  go_wp2_with fail
  refine Calls.mono HP.out ?_
  rintro e3 w2 ⟨rfl, ⟨d', hb2⟩, hg2⟩
  have HBf : Hid (Below w.heap.size w w2) := hide (bel_box HB1.out hg2)
  have hrow2 := HRow.out.below (bel_box (Below.refl w1.heap.size w1) hg2)
  have c := hb2.c
  have fz := hb2.f
  unfold rdC at c
  have hq0 : (0 : Int) ≤ (q : Int) := by omega
  have hq' : ¬ (q : Int) < (TK.length : Int) := by omega
  clear hb2 hg2 hrow2 HP HRow HB1
  go_wp2_with fail
  exact bodyPost_ret (v := .tuple #[.slice none 0 0, .int .i64 (FT : Int), .bool false]) (by simp [results, Tryd.results5, go_sem]) rfl (PX.nil HR.out HBf.out)

set_option maxRecDepth 20000 in
set_option maxHeartbeats 4000000 in
theorem pe_p_at (s : ByteArray) (w : World) (hs : s.size ≤ maxLen) (ht : SgTab w) (h3 : ¬ 300 < s.size) (hw : (lexT s).2.2 = false) (q : Nat) (e : E) (hz : zOf s = .ok e q) (hq : q < (tksOf s).length) :
    Calls Tryd.prog 5 #[.string s] w (PX w (pxT s)) := by
  have h3' : ¬ (300 : Int) < (s.size : Int) := by omega
  have hPE : pxT s = cls s.size (tksOf s) (enOf s) false (.ok e q) := by rw [pxT_of h3, hw, hz]
  rw [cls_at hq] at hPE
  have hA := zOf_after s
  rw [hz] at hA
  have hL := tksOf_len s
  have HC := hide (implLex_any s w hs)
  have HT := hide ht
  obtain ⟨R, hR⟩ : ∃ R, R = pxT s := ⟨_, rfl⟩
  rw [← hR] at hPE ⊢
  clear hR
  have hK : tksOf s = tkL (lexT (s.extract 0 (lexT s).2.1)).1 := by unfold tksOf; rw [if_neg (by rw [hw]; simp)]
  have hE : enOf s = (lexT s).2.1 := by unfold enOf; rw [if_neg (by rw [hw]; simp)]
  have hF := (lexT_bd s).2
  have HC2 := hide (fun w' => implLex_any (s.extract 0 (lexT s).2.1) w' (by simp only [ByteArray.size_extract]; unfold maxLen at hs ⊢; omega))
  rw [hw] at HC
  have HZ := hide (show rFrom (tksOf s) (4 * (tksOf s).length + 2) 1 0 0 = .ok e q from hz)
  obtain ⟨TK, hTK⟩ : ∃ TK, TK = tksOf s := ⟨_, rfl⟩
  rw [← hTK] at HZ hL hA hK hq
  have hPE2 : R = ([], TK[q].a, false) := by subst hTK; exact hPE
  clear hPE
  have hPE := hPE2
  clear hPE2
  obtain ⟨X, hXe⟩ : ∃ X, X = TK[q].a := ⟨_, rfl⟩
  rw [← hXe] at hPE
  have HX := hide hXe
  clear hXe
  have HR := hide hPE
  obtain ⟨FT, hFT⟩ : ∃ FT, FT = (lexT s).2.1 := ⟨_, rfl⟩
  rw [← hFT] at HC HC2 hK hF hE
  clear hPE hTK hFT hE hw hz ht h3
  have hf0 : (0 : Int) ≤ (FT : Int) := by omega
  have hf1 : (FT : Int) ≤ (s.size : Int) := by omega
  obtain ⟨C2, hC2⟩ : ∃ C2, C2 = s.extract 0 FT := ⟨_, rfl⟩
  go_enter Tryd.func5, Tryd.ntmps5
  go_wp2_with fail
  refine Calls.mono HC.out ?_
  rintro e1 w1 ⟨v, rfl, ho, hb⟩
  obtain ⟨a0, c0, rfl⟩ := own_form ho
  obtain ⟨N0, hN0⟩ : ∃ N0, N0 = (lexT s).1.length := ⟨_, rfl⟩
  rw [← hN0]
  have HB0 := hide hb
  clear ho hb HC hN0
  go_wp2_with fail
  rw [← hC2]
  refine Calls.mono (by rw [hC2]; exact HC2.out _) ?_
  rintro e2 w1 ⟨v, rfl, ho, hb⟩
  obtain ⟨ta, tc, rfl, hrow, hblk⟩ := row_of_own ho
  rw [← hK] at hrow ⊢
  have HB1 := hide (HB0.out.trans (hb.mono HB0.out.size))
  have HRow := hide hrow
  have HBlk := hide hblk
  clear ho hb hrow hblk HC2 hK HB0
  have hBA : Below w1.heap.size w1 (w1.alloc (.cells (rdC ta TK.length tc 0 0 false) 40)) := (Below.refl _ _).alloc (Nat.le_refl _) _
  have hT1 := HT.out.below HB1.out
  have HEnv : Hid (Env (w1.alloc (.cells (rdC ta TK.length tc 0 0 false) 40)) w1.heap.size ta TK) := hide ⟨HRow.out.below hBA, hT1.below hBA, fun b o e => by have := HBlk.out b o e; omega, by obtain ⟨t, fr, hr⟩ := hT1.row; have := (Array.getElem?_eq_some_iff.1 hr).1; omega⟩
  have HP := hide (readFrom_any w1.heap.size ta tc TK (by omega) _ HEnv.out (heap_alloc_new w1 _))
  rw [HZ.out] at HP
  unfold PO at HP
  simp only at HP
  clear HEnv hBA hT1 HT HBlk HZ
  have hs1 : w.heap.size ≤ w1.heap.size := HB1.out.size
  go_wp2_with fail
  refine Calls.mono HP.out ?_
  rintro e3 w2 ⟨v3, rfl, ho3, hb2, hg2⟩
  obtain ⟨va, vc, rfl⟩ := own_form' ho3
  have HO3 := hide (own_lower' ho3 (base' := w.heap.size) (by simp; omega))
  obtain ⟨FL, hFL⟩ : ∃ FL, FL = e.flat := ⟨_, rfl⟩
  rw [← hFL] at HO3 ⊢
  obtain ⟨FN, hFN⟩ : ∃ FN, FN = FL.length := ⟨_, rfl⟩
  rw [← hFN] at HO3 ⊢
  have HFN := hide hFN
  clear ho3 hFL hFN
  have HBf : Hid (Below w.heap.size w w2) := hide (bel_box HB1.out hg2)
  have hrow2 := HRow.out.below (bel_box (Below.refl w1.heap.size w1) hg2)
  have c := hb2.c
  have fz := hb2.f
  unfold rdC at c
  have hq0 : (0 : Int) ≤ (q : Int) := by omega
  have hq' : (q : Int) < (TK.length : Int) := by omega
  obtain ⟨b, o, rfl, hbl, -, -, -, q3⟩ := hrow2.tok (Below.refl _ _) hq
  rw [← HX.out] at q3
  clear hb2 hg2 hrow2 HP HRow HB1 HX
  go_wp2_with fail
  go_quiet (fail)
  go_wp2_with fail
  exact bodyPost_ret (v := .tuple #[.slice none 0 0, .int .i64 X, .bool false]) (by simp [results, Tryd.results5, go_sem]) rfl (PX.nil HR.out (HBf.out.trans ((belDrewN _).mono HBf.out.size)))

set_option maxRecDepth 20000 in
set_option maxHeartbeats 4000000 in
theorem pe_p_part (s : ByteArray) (w : World) (hs : s.size ≤ maxLen) (ht : SgTab w) (h3 : ¬ 300 < s.size) (hw : (lexT s).2.2 = false) (q : Nat) (e : E) (hz : zOf s = .ok e q) (hq : ¬ q < (tksOf s).length) :
    Calls Tryd.prog 5 #[.string s] w (PX w (pxT s)) := by
  have h3' : ¬ (300 : Int) < (s.size : Int) := by omega
  have hPE : pxT s = cls s.size (tksOf s) (enOf s) false (.ok e q) := by rw [pxT_of h3, hw, hz]
  rw [cls_part hq] at hPE
  have hA := zOf_after s
  rw [hz] at hA
  have hL := tksOf_len s
  have HC := hide (implLex_any s w hs)
  have HT := hide ht
  obtain ⟨R, hR⟩ : ∃ R, R = pxT s := ⟨_, rfl⟩
  rw [← hR] at hPE ⊢
  clear hR
  have hK : tksOf s = tkL (lexT (s.extract 0 (lexT s).2.1)).1 := by unfold tksOf; rw [if_neg (by rw [hw]; simp)]
  have hE : enOf s = (lexT s).2.1 := by unfold enOf; rw [if_neg (by rw [hw]; simp)]
  have hF := (lexT_bd s).2
  have HC2 := hide (fun w' => implLex_any (s.extract 0 (lexT s).2.1) w' (by simp only [ByteArray.size_extract]; unfold maxLen at hs ⊢; omega))
  rw [hw] at HC
  have HZ := hide (show rFrom (tksOf s) (4 * (tksOf s).length + 2) 1 0 0 = .ok e q from hz)
  obtain ⟨TK, hTK⟩ : ∃ TK, TK = tksOf s := ⟨_, rfl⟩
  rw [← hTK] at HZ hL hA hK hq
  rw [hE] at hPE
  have HR := hide hPE
  obtain ⟨FT, hFT⟩ : ∃ FT, FT = (lexT s).2.1 := ⟨_, rfl⟩
  rw [← hFT] at HC HC2 hK hF hE HR
  clear hPE hTK hFT hE hw hz ht h3
  have hf0 : (0 : Int) ≤ (FT : Int) := by omega
  have hf1 : (FT : Int) ≤ (s.size : Int) := by omega
  obtain ⟨C2, hC2⟩ : ∃ C2, C2 = s.extract 0 FT := ⟨_, rfl⟩
  go_enter Tryd.func5, Tryd.ntmps5
  go_wp2_with fail
  refine Calls.mono HC.out ?_
  rintro e1 w1 ⟨v, rfl, ho, hb⟩
  obtain ⟨a0, c0, rfl⟩ := own_form ho
  obtain ⟨N0, hN0⟩ : ∃ N0, N0 = (lexT s).1.length := ⟨_, rfl⟩
  rw [← hN0]
  have HB0 := hide hb
  clear ho hb HC hN0
  go_wp2_with fail
  rw [← hC2]
  refine Calls.mono (by rw [hC2]; exact HC2.out _) ?_
  rintro e2 w1 ⟨v, rfl, ho, hb⟩
  obtain ⟨ta, tc, rfl, hrow, hblk⟩ := row_of_own ho
  rw [← hK] at hrow ⊢
  have HB1 := hide (HB0.out.trans (hb.mono HB0.out.size))
  have HRow := hide hrow
  have HBlk := hide hblk
  clear ho hb hrow hblk HC2 hK HB0
  have hBA : Below w1.heap.size w1 (w1.alloc (.cells (rdC ta TK.length tc 0 0 false) 40)) := (Below.refl _ _).alloc (Nat.le_refl _) _
  have hT1 := HT.out.below HB1.out
  have HEnv : Hid (Env (w1.alloc (.cells (rdC ta TK.length tc 0 0 false) 40)) w1.heap.size ta TK) := hide ⟨HRow.out.below hBA, hT1.below hBA, fun b o e => by have := HBlk.out b o e; omega, by obtain ⟨t, fr, hr⟩ := hT1.row; have := (Array.getElem?_eq_some_iff.1 hr).1; omega⟩
  have HP := hide (readFrom_any w1.heap.size ta tc TK (by omega) _ HEnv.out (heap_alloc_new w1 _))
  rw [HZ.out] at HP
  unfold PO at HP
  simp only at HP
  clear HEnv hBA hT1 HT HBlk HZ
  have hs1 : w.heap.size ≤ w1.heap.size := HB1.out.size
  go_wp2_with fail
  refine Calls.mono HP.out ?_
  rintro e3 w2 ⟨v3, rfl, ho3, hb2, hg2⟩
  obtain ⟨va, vc, rfl⟩ := own_form' ho3
  have HO3 := hide (own_lower' ho3 (base' := w.heap.size) (by simp; omega))
  obtain ⟨FL, hFL⟩ : ∃ FL, FL = e.flat := ⟨_, rfl⟩
  rw [← hFL] at HO3 ⊢
  obtain ⟨FN, hFN⟩ : ∃ FN, FN = FL.length := ⟨_, rfl⟩
  rw [← hFN] at HO3 ⊢
  have HFN := hide hFN
  clear ho3 hFL hFN
  have HBf : Hid (Below w.heap.size w w2) := hide (bel_box HB1.out hg2)
  have hrow2 := HRow.out.below (bel_box (Below.refl w1.heap.size w1) hg2)
  have c := hb2.c
  have fz := hb2.f
  unfold rdC at c
  have hq0 : (0 : Int) ≤ (q : Int) := by omega
  have hq' : ¬ (q : Int) < (TK.length : Int) := by omega
  clear hb2 hg2 hrow2 HP HRow HB1
  go_wp2_with fail
  exact bodyPost_ret (v := .tuple #[.slice none 0 0, .int .i64 (FT : Int), .bool false]) (by simp [results, Tryd.results5, go_sem]) rfl (PX.nil HR.out HBf.out)

theorem ParseExpr_any (s : ByteArray) (w : World) (hs : s.size ≤ maxLen) (ht : SgTab w) :
    Calls Tryd.prog 5 #[.string s] w (PX w (pxT s)) := by
  by_cases h3 : 300 < s.size
  · have h3' : (300 : Int) < (s.size : Int) := by omega
    have HR : Hid (pxT s = ([], 0, false)) := hide (if_pos h3)
    clear h3 ht
    go_enter Tryd.func5, Tryd.ntmps5
    go_wp2_with fail
    exact bodyPost_ret (v := .tuple #[.slice none 0 0, .int .i64 0, .bool false]) (by simp [results, Tryd.results5, go_sem]) rfl (PX.nil HR.out (Below.refl _ _))
  · cases hw : (lexT s).2.2 with
    | true =>
      cases hz : zOf s with
      | bad q t =>
        cases t with
        | true => exact pe_w_deep s w hs ht h3 hw q hz
        | false =>
          by_cases hq : q < (tksOf s).length
          · exact pe_w_atb s w hs ht h3 hw q hz hq
          · exact pe_w_endb s w hs ht h3 hw q hz hq
      | ok e q =>
        by_cases hq : q < (tksOf s).length
        · exact pe_w_at s w hs ht h3 hw q e hz hq
        · by_cases hl : 40 < e.flat.length
          · exact pe_w_long s w hs ht h3 hw q e hz hq hl
          · exact pe_w_fine s w hs ht h3 hw q e hz hq hl
    | false =>
      cases hz : zOf s with
      | bad q t =>
        cases t with
        | true => exact pe_p_deep s w hs ht h3 hw q hz
        | false =>
          by_cases hq : q < (tksOf s).length
          · exact pe_p_atb s w hs ht h3 hw q hz hq
          · exact pe_p_endb s w hs ht h3 hw q hz hq
      | ok e q =>
        by_cases hq : q < (tksOf s).length
        · exact pe_p_at s w hs ht h3 hw q e hz hq
        · exact pe_p_part s w hs ht h3 hw q e hz hq
end Go.Proofs.YtmnicilgenpnfaaDoor.W

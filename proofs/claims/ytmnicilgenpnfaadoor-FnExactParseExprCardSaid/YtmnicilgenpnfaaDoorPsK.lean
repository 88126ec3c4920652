/-
  The specification's ParseExpr tells pxT. Written by build/mk_psk.py. Conditions: a text of at most 2^63 - 1 bytes.
-/
import Derived.Test.YtmnicilgenpnfaaDoorPsI
import Derived.Test.YtmnicilgenpnfaaDoorPsJ
import Derived.Test.YtmnicilgenpnfaaDoorPxH
namespace Go.Proofs.YtmnicilgenpnfaaDoor.W
open Go.ChangeShapes Go.WideShapes Go.ChangeAt Go.RowKit
set_option linter.unusedVariables false
set_option linter.unusedSimpArgs false

theorem cls_plc {n en : Nat} {l : List T.Tk} {wh : Bool} {q : Nat} : cls n l en wh (.bad q false) = ([], plc l en q, false) := by
  unfold cls plc
  simp only [Bool.false_eq_true, if_false]
  cases l[q]? <;> rfl
theorem cls_atp {n en : Nat} {l : List T.Tk} {wh : Bool} {e : E} {q : Nat} (h : q < l.length) : cls n l en wh (.ok e q) = ([], plc l en q, false) := by
  rw [cls_at h]; unfold plc; rw [List.getElem?_eq_getElem h]
theorem cls_partp {n en : Nat} {l : List T.Tk} {e : E} {q : Nat} (h : ¬ q < l.length) : cls n l en false (.ok e q) = ([], plc l en q, false) := by
  rw [cls_part h]; unfold plc; rw [List.getElem?_eq_none (by omega)]

set_option maxRecDepth 20000 in
set_option maxHeartbeats 8000000 in
theorem ps_w_deep (s : ByteArray) (w : World) (hs : s.size ≤ maxLen) (h3 : ¬ 300 < s.size) (hw : (lexT s).2.2 = true) (q : Nat) (hz : zOf s = .bad q true) :
    Calls Tryd.prog 4 #[.string s] w (PX w (pxT s)) := by
  have h3' : ¬ (300 : Int) < (s.size : Int) := by omega
  have hPE : pxT s = cls s.size (tksOf s) (enOf s) true (.bad q true) := by rw [pxT_of h3, hw, hz]
  rw [cls_deep] at hPE
  have hA := zOf_after s
  rw [hz] at hA
  have hL := tksOf_len s
  have hC := l1Lex_any s w (by omega)
  rw [← lexT_small h3] at hC
  have HC := hide hC
  clear hC
  obtain ⟨R, hR⟩ : ∃ R, R = pxT s := ⟨_, rfl⟩
  rw [← hR] at hPE ⊢
  clear hR
  have HALL := hide (fun (g : Nat) (ta : Option Addr) (tc : Nat) (w' : World) => all_any g ta tc (enOf s) s w')
  rw [hz] at HALL
  have HPOS := hide (tksOf_pos s)
  have hK : tksOf s = tkL (lexT s).1 := by unfold tksOf; rw [if_pos hw]
  have hE : enOf s = s.size := by unfold enOf; rw [if_pos hw]
  rw [hw] at HC
  rw [hE] at HALL
  obtain ⟨TK, hTK⟩ : ∃ TK, TK = tksOf s := ⟨_, rfl⟩
  rw [← hTK] at HALL HPOS hL hA hK
  obtain ⟨FT, hFT⟩ : ∃ FT, FT = (lexT s).2.1 := ⟨_, rfl⟩
  rw [← hFT] at HC
  have HR := hide hPE
  have hFT0 : (0 : Int) ≤ (FT : Int) := by omega
  clear hPE hTK hFT hE hw hz h3
  go_enter Tryd.func4, Tryd.ntmps4
  go_wp2_with fail
  refine Calls.mono HC.out ?_
  rintro e1 w1 ⟨v, rfl, ho, hb⟩
  obtain ⟨ta, tc, rfl, hrow, hblk⟩ := row_of_own ho
  rw [← hK] at hrow ⊢
  have HB1 := hide hb
  have HRow := hide hrow
  have HBlk := hide hblk
  clear ho hb hrow hblk HC hK
  have hBA : Below w1.heap.size w1 (w1.alloc (.cells (spC ta TK.length tc 0 s.size (-1) false) 33)) := (Below.refl _ _).alloc (Nat.le_refl _) _
  have HEnv : Hid (EnvS (w1.alloc (.cells (spC ta TK.length tc 0 s.size (-1) false) 33)) w1.heap.size ta TK) := hide ⟨HRow.out.below hBA, fun b o e => by have := HBlk.out b o e; omega, HPOS.out⟩
  have HP := hide (HALL.out w1.heap.size ta tc _ HEnv.out (heap_alloc_new w1 _))
  have hs1 : w.heap.size ≤ w1.heap.size := HB1.out.size
  unfold SO at HP
  simp only at HP
  clear hBA HALL HBlk
  go_wp2_with fail
  refine Calls.mono HP.out ?_
  rintro e3 w2 ⟨⟨x, sa, sn, sc, rfl⟩, ⟨q', hb2⟩, hg2⟩
  obtain ⟨hk, hn, hx⟩ := x
  unfold l2v
  simp only
  obtain ⟨V, hV⟩ : ∃ V, V = w2.alloc (.cells #[.int .i64 hk, .int .i64 hn, .string hx, .slice sa sn sc] 36) := ⟨_, rfl⟩
  have hb3 := hb2.alloc (o := .cells #[.int .i64 hk, .int .i64 hn, .string hx, .slice sa sn sc] 36)
  have hg3 := gr_alloc (o := .cells #[.int .i64 hk, .int .i64 hn, .string hx, .slice sa sn sc] 36) hg2
  have hKb := heap_alloc_new w2 (.cells #[.int .i64 hk, .int .i64 hn, .string hx, .slice sa sn sc] 36)
  rw [← hV] at hb3 hg3 hKb
  have c := hb2.c
  have fz := hb2.f
  unfold spC at c
  have hq0 : (0 : Int) ≤ (q : Int) := by omega
  have hgs : w1.heap.size < w2.heap.size := hb2.lt
  have hgs2 : ¬ w1.heap.size = w2.heap.size := by omega
  have hB := plc_pos (en := s.size) (p := q) HPOS.out
  have hB1 : ¬ plc TK s.size q < 0 := by omega
  have HBf : Hid (Below w.heap.size w V) := hide (bel_box HB1.out hg3)
  have HB3 := hide hb3
  clear hb2 hg2 hb3 hg3 HP HEnv HPOS HRow HB1 hKb
  clear HB3
  go_wp2_with fail
  rw [← hV]
  exact bodyPost_ret (v := .tuple #[.slice none 0 0, .int .i64 (s.size : Int), .bool false]) (by simp [results, Tryd.results4, go_sem]) rfl (PX.nil HR.out HBf.out)

set_option maxRecDepth 20000 in
set_option maxHeartbeats 8000000 in
theorem ps_w_bad (s : ByteArray) (w : World) (hs : s.size ≤ maxLen) (h3 : ¬ 300 < s.size) (hw : (lexT s).2.2 = true) (q : Nat) (hz : zOf s = .bad q false) :
    Calls Tryd.prog 4 #[.string s] w (PX w (pxT s)) := by
  have h3' : ¬ (300 : Int) < (s.size : Int) := by omega
  have hPE : pxT s = cls s.size (tksOf s) (enOf s) true (.bad q false) := by rw [pxT_of h3, hw, hz]
  rw [cls_plc] at hPE
  have hA := zOf_after s
  rw [hz] at hA
  have hL := tksOf_len s
  have hC := l1Lex_any s w (by omega)
  rw [← lexT_small h3] at hC
  have HC := hide hC
  clear hC
  obtain ⟨R, hR⟩ : ∃ R, R = pxT s := ⟨_, rfl⟩
  rw [← hR] at hPE ⊢
  clear hR
  have HALL := hide (fun (g : Nat) (ta : Option Addr) (tc : Nat) (w' : World) => all_any g ta tc (enOf s) s w')
  rw [hz] at HALL
  have HPOS := hide (tksOf_pos s)
  have hK : tksOf s = tkL (lexT s).1 := by unfold tksOf; rw [if_pos hw]
  have hE : enOf s = s.size := by unfold enOf; rw [if_pos hw]
  rw [hw] at HC
  rw [hE] at hPE HALL
  obtain ⟨TK, hTK⟩ : ∃ TK, TK = tksOf s := ⟨_, rfl⟩
  rw [← hTK] at HALL HPOS hL hA hK hPE
  obtain ⟨FT, hFT⟩ : ∃ FT, FT = (lexT s).2.1 := ⟨_, rfl⟩
  rw [← hFT] at HC
  have hB := plc_pos (en := s.size) (p := q) HPOS.out
  obtain ⟨B, hBe⟩ : ∃ B, B = plc TK s.size q := ⟨_, rfl⟩
  rw [← hBe] at hPE hB
  have HBe := hide hBe
  clear hBe
  have HR := hide hPE
  have hFT0 : (0 : Int) ≤ (FT : Int) := by omega
  clear hPE hTK hFT hE hw hz h3
  go_enter Tryd.func4, Tryd.ntmps4
  go_wp2_with fail
  refine Calls.mono HC.out ?_
  rintro e1 w1 ⟨v, rfl, ho, hb⟩
  obtain ⟨ta, tc, rfl, hrow, hblk⟩ := row_of_own ho
  rw [← hK] at hrow ⊢
  have HB1 := hide hb
  have HRow := hide hrow
  have HBlk := hide hblk
  clear ho hb hrow hblk HC hK
  have hBA : Below w1.heap.size w1 (w1.alloc (.cells (spC ta TK.length tc 0 s.size (-1) false) 33)) := (Below.refl _ _).alloc (Nat.le_refl _) _
  have HEnv : Hid (EnvS (w1.alloc (.cells (spC ta TK.length tc 0 s.size (-1) false) 33)) w1.heap.size ta TK) := hide ⟨HRow.out.below hBA, fun b o e => by have := HBlk.out b o e; omega, HPOS.out⟩
  have HP := hide (HALL.out w1.heap.size ta tc _ HEnv.out (heap_alloc_new w1 _))
  have hs1 : w.heap.size ≤ w1.heap.size := HB1.out.size
  unfold SO at HP
  simp only at HP
  clear hBA HALL HBlk
  go_wp2_with fail
  refine Calls.mono HP.out ?_
  rintro e3 w2 ⟨⟨x, sa, sn, sc, rfl⟩, ⟨q', hb2⟩, hg2⟩
  obtain ⟨hk, hn, hx⟩ := x
  unfold l2v
  simp only
  obtain ⟨V, hV⟩ : ∃ V, V = w2.alloc (.cells #[.int .i64 hk, .int .i64 hn, .string hx, .slice sa sn sc] 36) := ⟨_, rfl⟩
  have hb3 := hb2.alloc (o := .cells #[.int .i64 hk, .int .i64 hn, .string hx, .slice sa sn sc] 36)
  have hg3 := gr_alloc (o := .cells #[.int .i64 hk, .int .i64 hn, .string hx, .slice sa sn sc] 36) hg2
  have hKb := heap_alloc_new w2 (.cells #[.int .i64 hk, .int .i64 hn, .string hx, .slice sa sn sc] 36)
  rw [← hV] at hb3 hg3 hKb
  have c := hb2.c
  have fz := hb2.f
  unfold spC at c
  have hq0 : (0 : Int) ≤ (q : Int) := by omega
  have hgs : w1.heap.size < w2.heap.size := hb2.lt
  have hgs2 : ¬ w1.heap.size = w2.heap.size := by omega
  rw [← HBe.out] at c hb3
  have hB1 : ¬ B < 0 := by omega
  have HBf : Hid (Below w.heap.size w V) := hide (bel_box HB1.out hg3)
  have HB3 := hide hb3
  clear hb2 hg2 hb3 hg3 HP HEnv HPOS HRow HB1 hKb
  go_upto_region 15 with fail
  rw [← hV]
  have d3 : V.cell? ⟨w1.heap.size, 3, none⟩ = some (.int .i64 B) := (HB3.out.c 3).trans rfl
  clear hV c fz HB3
  go_quiet (fail)
  go_wp2_with fail
  exact bodyPost_ret (v := .tuple #[.slice none 0 0, .int .i64 B, .bool false]) (by simp [results, Tryd.results4, go_sem]) rfl (PX.nil HR.out (HBf.out.trans ((belDrewN _).mono HBf.out.size)))

set_option maxRecDepth 20000 in
set_option maxHeartbeats 8000000 in
theorem ps_w_at (s : ByteArray) (w : World) (hs : s.size ≤ maxLen) (h3 : ¬ 300 < s.size) (hw : (lexT s).2.2 = true) (q : Nat) (e : E) (hz : zOf s = .ok e q) (hq : q < (tksOf s).length) :
    Calls Tryd.prog 4 #[.string s] w (PX w (pxT s)) := by
  have h3' : ¬ (300 : Int) < (s.size : Int) := by omega
  have hPE : pxT s = cls s.size (tksOf s) (enOf s) true (.ok e q) := by rw [pxT_of h3, hw, hz]
  rw [cls_atp hq] at hPE
  have hA := zOf_after s
  rw [hz] at hA
  have hL := tksOf_len s
  have hC := l1Lex_any s w (by omega)
  rw [← lexT_small h3] at hC
  have HC := hide hC
  clear hC
  obtain ⟨R, hR⟩ : ∃ R, R = pxT s := ⟨_, rfl⟩
  rw [← hR] at hPE ⊢
  clear hR
  have HALL := hide (fun (g : Nat) (ta : Option Addr) (tc : Nat) (w' : World) => all_any g ta tc (enOf s) s w')
  rw [hz] at HALL
  have HPOS := hide (tksOf_pos s)
  have hK : tksOf s = tkL (lexT s).1 := by unfold tksOf; rw [if_pos hw]
  have hE : enOf s = s.size := by unfold enOf; rw [if_pos hw]
  rw [hw] at HC
  rw [hE] at hPE HALL
  obtain ⟨TK, hTK⟩ : ∃ TK, TK = tksOf s := ⟨_, rfl⟩
  rw [← hTK] at HALL HPOS hL hA hK hPE hq
  obtain ⟨FT, hFT⟩ : ∃ FT, FT = (lexT s).2.1 := ⟨_, rfl⟩
  rw [← hFT] at HC
  have hB := plc_pos (en := s.size) (p := q) HPOS.out
  obtain ⟨B, hBe⟩ : ∃ B, B = plc TK s.size q := ⟨_, rfl⟩
  rw [← hBe] at hPE hB
  have HBe := hide hBe
  clear hBe
  have HR := hide hPE
  have hFT0 : (0 : Int) ≤ (FT : Int) := by omega
  clear hPE hTK hFT hE hw hz h3
  go_enter Tryd.func4, Tryd.ntmps4
  go_wp2_with fail
  refine Calls.mono HC.out ?_
  rintro e1 w1 ⟨v, rfl, ho, hb⟩
  obtain ⟨ta, tc, rfl, hrow, hblk⟩ := row_of_own ho
  rw [← hK] at hrow ⊢
  have HB1 := hide hb
  have HRow := hide hrow
  have HBlk := hide hblk
  clear ho hb hrow hblk HC hK
  have hBA : Below w1.heap.size w1 (w1.alloc (.cells (spC ta TK.length tc 0 s.size (-1) false) 33)) := (Below.refl _ _).alloc (Nat.le_refl _) _
  have HEnv : Hid (EnvS (w1.alloc (.cells (spC ta TK.length tc 0 s.size (-1) false) 33)) w1.heap.size ta TK) := hide ⟨HRow.out.below hBA, fun b o e => by have := HBlk.out b o e; omega, HPOS.out⟩
  have HP := hide (HALL.out w1.heap.size ta tc _ HEnv.out (heap_alloc_new w1 _))
  have hs1 : w.heap.size ≤ w1.heap.size := HB1.out.size
  unfold SO at HP
  simp only at HP
  clear hBA HALL HBlk
  go_wp2_with fail
  refine Calls.mono HP.out ?_
  rintro e3 w2 ⟨⟨sv, rfl, ht⟩, hb2, hg2⟩
  obtain ⟨sa, sn, sc, rfl⟩ := ht.form
  obtain ⟨H, hH⟩ : ∃ H, H = e.head := ⟨_, rfl⟩
  rw [← hH]
  clear hH
  obtain ⟨hk, hn, hx⟩ := H
  unfold l2v
  simp only
  obtain ⟨V, hV⟩ : ∃ V, V = w2.alloc (.cells #[.int .i64 hk, .int .i64 hn, .string hx, .slice sa sn sc] 36) := ⟨_, rfl⟩
  have hb3 := hb2.alloc (o := .cells #[.int .i64 hk, .int .i64 hn, .string hx, .slice sa sn sc] 36)
  have hg3 := gr_alloc (o := .cells #[.int .i64 hk, .int .i64 hn, .string hx, .slice sa sn sc] 36) hg2
  have hKb := heap_alloc_new w2 (.cells #[.int .i64 hk, .int .i64 hn, .string hx, .slice sa sn sc] 36)
  rw [← hV] at hb3 hg3 hKb
  have c := hb2.c
  have fz := hb2.f
  unfold spC at c
  have hq0 : (0 : Int) ≤ (q : Int) := by omega
  have hgs : w1.heap.size < w2.heap.size := hb2.lt
  have hgs2 : ¬ w1.heap.size = w2.heap.size := by omega
  have hq' : (q : Int) < (TK.length : Int) := by omega
  have hF0 := fail_new w1.heap.size ta tc TK q s.size false V (by omega) (by obtain ⟨a1, a2, a3⟩ := hA; omega) hb3 (HEnv.out.grown hg3).row HEnv.out.apart
  rw [← HBe.out] at hF0
  have HF := hide hF0
  clear hF0
  have HBf : Hid (Below w.heap.size w V) := hide (bel_box HB1.out hg3)
  have HB3 := hide hb3
  clear hb2 hg2 hb3 hg3 HP HEnv HPOS HRow HB1 hKb ht
  go_upto_region 11 with fail
  rw [← hV]
  clear hV c fz HB3
  go_wp2_with fail
  refine Calls.mono HF.out ?_
  rintro e4 w4 ⟨rfl, hb4, hg4⟩
  have hB1 : ¬ B < 0 := by omega
  have HB4 := hide hb4
  have c := hb4.c
  have fz := hb4.f
  unfold spC at c
  have d3 : w4.cell? ⟨w1.heap.size, 3, none⟩ = some (.int .i64 B) := (hb4.c 3).trans rfl
  have HBg : Hid (Below w.heap.size w w4) := hide ⟨hg4.os.trans HBf.out.os, hg4.tape.trans HBf.out.tape, hg4.output.trans HBf.out.output, Nat.le_trans HBf.out.size hg4.size, fun k hk => (hg4.block k (Nat.lt_of_lt_of_le hk HBf.out.size) (fun e => by simp at e; omega)).trans (HBf.out.block k hk)⟩
  clear hb4 hg4 HF HBf
  go_upto_region 15 with fail
  clear c fz HB4
  go_quiet (fail)
  go_wp2_with fail
  exact bodyPost_ret (v := .tuple #[.slice none 0 0, .int .i64 B, .bool false]) (by simp [results, Tryd.results4, go_sem]) rfl (PX.nil HR.out (HBg.out.trans ((belDrewN _).mono HBg.out.size)))

set_option maxRecDepth 20000 in
set_option maxHeartbeats 8000000 in
theorem ps_w_long (s : ByteArray) (w : World) (hs : s.size ≤ maxLen) (h3 : ¬ 300 < s.size) (hw : (lexT s).2.2 = true) (q : Nat) (e : E) (hz : zOf s = .ok e q) (hq : ¬ q < (tksOf s).length) (hlong : 40 < e.flat.length) :
    Calls Tryd.prog 4 #[.string s] w (PX w (pxT s)) := by
  have h3' : ¬ (300 : Int) < (s.size : Int) := by omega
  have hPE : pxT s = cls s.size (tksOf s) (enOf s) true (.ok e q) := by rw [pxT_of h3, hw, hz]
  rw [cls_long hq hlong] at hPE
  have hA := zOf_after s
  rw [hz] at hA
  have hL := tksOf_len s
  have hC := l1Lex_any s w (by omega)
  rw [← lexT_small h3] at hC
  have HC := hide hC
  clear hC
  obtain ⟨R, hR⟩ : ∃ R, R = pxT s := ⟨_, rfl⟩
  rw [← hR] at hPE ⊢
  clear hR
  have HALL := hide (fun (g : Nat) (ta : Option Addr) (tc : Nat) (w' : World) => all_any g ta tc (enOf s) s w')
  rw [hz] at HALL
  have HPOS := hide (tksOf_pos s)
  have hK : tksOf s = tkL (lexT s).1 := by unfold tksOf; rw [if_pos hw]
  have hE : enOf s = s.size := by unfold enOf; rw [if_pos hw]
  rw [hw] at HC
  rw [hE] at HALL
  obtain ⟨TK, hTK⟩ : ∃ TK, TK = tksOf s := ⟨_, rfl⟩
  rw [← hTK] at HALL HPOS hL hA hK hq
  obtain ⟨FT, hFT⟩ : ∃ FT, FT = (lexT s).2.1 := ⟨_, rfl⟩
  rw [← hFT] at HC
  have HR := hide hPE
  have hFT0 : (0 : Int) ≤ (FT : Int) := by omega
  clear hPE hTK hFT hE hw hz h3
  go_enter Tryd.func4, Tryd.ntmps4
  go_wp2_with fail
  refine Calls.mono HC.out ?_
  rintro e1 w1 ⟨v, rfl, ho, hb⟩
  obtain ⟨ta, tc, rfl, hrow, hblk⟩ := row_of_own ho
  rw [← hK] at hrow ⊢
  have HB1 := hide hb
  have HRow := hide hrow
  have HBlk := hide hblk
  clear ho hb hrow hblk HC hK
  have hBA : Below w1.heap.size w1 (w1.alloc (.cells (spC ta TK.length tc 0 s.size (-1) false) 33)) := (Below.refl _ _).alloc (Nat.le_refl _) _
  have HEnv : Hid (EnvS (w1.alloc (.cells (spC ta TK.length tc 0 s.size (-1) false) 33)) w1.heap.size ta TK) := hide ⟨HRow.out.below hBA, fun b o e => by have := HBlk.out b o e; omega, HPOS.out⟩
  have HP := hide (HALL.out w1.heap.size ta tc _ HEnv.out (heap_alloc_new w1 _))
  have hs1 : w.heap.size ≤ w1.heap.size := HB1.out.size
  unfold SO at HP
  simp only at HP
  clear hBA HALL HBlk
  go_wp2_with fail
  refine Calls.mono HP.out ?_
  rintro e3 w2 ⟨⟨sv, rfl, ht⟩, hb2, hg2⟩
  obtain ⟨sa, sn, sc, rfl⟩ := ht.form
  have HFL := hide (l2Flat_any e (.slice sa sn sc) (.slice none 0 0) w.heap.size 0 [] (fun _ => True))
  obtain ⟨H, hH⟩ : ∃ H, H = e.head := ⟨_, rfl⟩
  rw [← hH] at HFL ⊢
  clear hH
  obtain ⟨hk, hn, hx⟩ := H
  unfold l2v at HFL ⊢
  simp only at HFL ⊢
  obtain ⟨V, hV⟩ : ∃ V, V = w2.alloc (.cells #[.int .i64 hk, .int .i64 hn, .string hx, .slice sa sn sc] 36) := ⟨_, rfl⟩
  have hb3 := hb2.alloc (o := .cells #[.int .i64 hk, .int .i64 hn, .string hx, .slice sa sn sc] 36)
  have hg3 := gr_alloc (o := .cells #[.int .i64 hk, .int .i64 hn, .string hx, .slice sa sn sc] 36) hg2
  have hKb := heap_alloc_new w2 (.cells #[.int .i64 hk, .int .i64 hn, .string hx, .slice sa sn sc] 36)
  rw [← hV] at hb3 hg3 hKb
  have c := hb2.c
  have fz := hb2.f
  unfold spC at c
  have hq0 : (0 : Int) ≤ (q : Int) := by omega
  have hgs : w1.heap.size < w2.heap.size := hb2.lt
  have hgs2 : ¬ w1.heap.size = w2.heap.size := by omega
  have HF := hide (HFL.out V (fun g _ _ => by simp [Value.ownBlock]) (by obtain ⟨a1, a2, a3⟩ := hA; omega) (by rw [hV]; have := hg2.size; simp at this ⊢; omega) (TrP.of (fun _ _ _ => trivial) (TrK.below (w := w2) (by rw [hV]; exact (Below.refl _ _).alloc (Nat.le_refl _) _) ht)) (World.ownsRow_nil _ _ _ _))
  have hfl : e.flat.length ≤ 1000 := by obtain ⟨a1, a2, a3⟩ := hA; omega
  obtain ⟨FL, hFL⟩ : ∃ FL, FL = e.flat := ⟨_, rfl⟩
  rw [← hFL] at HF hlong hfl
  obtain ⟨FN, hFN⟩ : ∃ FN, FN = FL.length := ⟨_, rfl⟩
  rw [← hFN] at HF hlong hfl
  rw [Nat.zero_add, List.nil_append] at HF
  have HFN := hide hFN
  clear HFL hFL hFN ht
  have hq' : ¬ (q : Int) < (TK.length : Int) := by omega
  have HBf : Hid (Below w.heap.size w V) := hide (bel_box HB1.out hg3)
  have HB3 := hide hb3
  clear hb2 hg2 hb3 hg3 HP HEnv HPOS HRow HB1 hKb
  go_upto_region 16 with fail
  rw [← hV]
  have kc := cell_of_blk (show V.heap[w2.heap.size]? = some (.cells #[.int .i64 hk, .int .i64 hn, .string hx, .slice sa sn sc] 36 (0, 0)) by rw [hV]; exact heap_alloc_new w2 _)
  clear hV c fz HB3
  go_wp2_with fail
  refine Calls.mono HF.out ?_
  rintro e4 w4 ⟨v4, rfl, ho4, hg4, -⟩
  obtain ⟨va, vc, rfl⟩ := own_form' ho4
  have HO4 := hide ho4
  have HBg : Hid (Below w.heap.size w w4) := hide ⟨hg4.os.trans HBf.out.os, hg4.tape.trans HBf.out.tape, hg4.output.trans HBf.out.output, Nat.le_trans HBf.out.size hg4.size, fun k hk => (hg4.block k (Nat.lt_of_lt_of_le hk HBf.out.size) (fun e => by simp [Value.ownBlock] at e)).trans (HBf.out.block k hk)⟩
  clear ho4 hg4 HF HBf kc
  have hlong' : (40 : Int) < (FN : Int) := by omega
  go_wp2_with fail
  exact bodyPost_ret (v := .tuple #[.slice none 0 0, .int .i64 (s.size : Int), .bool false]) (by simp [results, Tryd.results4, go_sem]) rfl (PX.nil HR.out HBg.out)

set_option maxRecDepth 20000 in
set_option maxHeartbeats 8000000 in
theorem ps_w_fine (s : ByteArray) (w : World) (hs : s.size ≤ maxLen) (h3 : ¬ 300 < s.size) (hw : (lexT s).2.2 = true) (q : Nat) (e : E) (hz : zOf s = .ok e q) (hq : ¬ q < (tksOf s).length) (hlong : ¬ 40 < e.flat.length) :
    Calls Tryd.prog 4 #[.string s] w (PX w (pxT s)) := by
  have h3' : ¬ (300 : Int) < (s.size : Int) := by omega
  have hPE : pxT s = cls s.size (tksOf s) (enOf s) true (.ok e q) := by rw [pxT_of h3, hw, hz]
  rw [cls_fine hq hlong] at hPE
  have hA := zOf_after s
  rw [hz] at hA
  have hL := tksOf_len s
  have hC := l1Lex_any s w (by omega)
  rw [← lexT_small h3] at hC
  have HC := hide hC
  clear hC
  obtain ⟨R, hR⟩ : ∃ R, R = pxT s := ⟨_, rfl⟩
  rw [← hR] at hPE ⊢
  clear hR
  have HALL := hide (fun (g : Nat) (ta : Option Addr) (tc : Nat) (w' : World) => all_any g ta tc (enOf s) s w')
  rw [hz] at HALL
  have HPOS := hide (tksOf_pos s)
  have hK : tksOf s = tkL (lexT s).1 := by unfold tksOf; rw [if_pos hw]
  have hE : enOf s = s.size := by unfold enOf; rw [if_pos hw]
  rw [hw] at HC
  rw [hE] at HALL
  obtain ⟨TK, hTK⟩ : ∃ TK, TK = tksOf s := ⟨_, rfl⟩
  rw [← hTK] at HALL HPOS hL hA hK hq
  obtain ⟨FT, hFT⟩ : ∃ FT, FT = (lexT s).2.1 := ⟨_, rfl⟩
  rw [← hFT] at HC
  have HR := hide hPE
  have hFT0 : (0 : Int) ≤ (FT : Int) := by omega
  clear hPE hTK hFT hE hw hz h3
  go_enter Tryd.func4, Tryd.ntmps4
  go_wp2_with fail
  refine Calls.mono HC.out ?_
  rintro e1 w1 ⟨v, rfl, ho, hb⟩
  obtain ⟨ta, tc, rfl, hrow, hblk⟩ := row_of_own ho
  rw [← hK] at hrow ⊢
  have HB1 := hide hb
  have HRow := hide hrow
  have HBlk := hide hblk
  clear ho hb hrow hblk HC hK
  have hBA : Below w1.heap.size w1 (w1.alloc (.cells (spC ta TK.length tc 0 s.size (-1) false) 33)) := (Below.refl _ _).alloc (Nat.le_refl _) _
  have HEnv : Hid (EnvS (w1.alloc (.cells (spC ta TK.length tc 0 s.size (-1) false) 33)) w1.heap.size ta TK) := hide ⟨HRow.out.below hBA, fun b o e => by have := HBlk.out b o e; omega, HPOS.out⟩
  have HP := hide (HALL.out w1.heap.size ta tc _ HEnv.out (heap_alloc_new w1 _))
  have hs1 : w.heap.size ≤ w1.heap.size := HB1.out.size
  unfold SO at HP
  simp only at HP
  clear hBA HALL HBlk
  go_wp2_with fail
  refine Calls.mono HP.out ?_
  rintro e3 w2 ⟨⟨sv, rfl, ht⟩, hb2, hg2⟩
  obtain ⟨sa, sn, sc, rfl⟩ := ht.form
  have HFL := hide (l2Flat_any e (.slice sa sn sc) (.slice none 0 0) w.heap.size 0 [] (fun _ => True))
  obtain ⟨H, hH⟩ : ∃ H, H = e.head := ⟨_, rfl⟩
  rw [← hH] at HFL ⊢
  clear hH
  obtain ⟨hk, hn, hx⟩ := H
  unfold l2v at HFL ⊢
  simp only at HFL ⊢
  obtain ⟨V, hV⟩ : ∃ V, V = w2.alloc (.cells #[.int .i64 hk, .int .i64 hn, .string hx, .slice sa sn sc] 36) := ⟨_, rfl⟩
  have hb3 := hb2.alloc (o := .cells #[.int .i64 hk, .int .i64 hn, .string hx, .slice sa sn sc] 36)
  have hg3 := gr_alloc (o := .cells #[.int .i64 hk, .int .i64 hn, .string hx, .slice sa sn sc] 36) hg2
  have hKb := heap_alloc_new w2 (.cells #[.int .i64 hk, .int .i64 hn, .string hx, .slice sa sn sc] 36)
  rw [← hV] at hb3 hg3 hKb
  have c := hb2.c
  have fz := hb2.f
  unfold spC at c
  have hq0 : (0 : Int) ≤ (q : Int) := by omega
  have hgs : w1.heap.size < w2.heap.size := hb2.lt
  have hgs2 : ¬ w1.heap.size = w2.heap.size := by omega
  have HF := hide (HFL.out V (fun g _ _ => by simp [Value.ownBlock]) (by obtain ⟨a1, a2, a3⟩ := hA; omega) (by rw [hV]; have := hg2.size; simp at this ⊢; omega) (TrP.of (fun _ _ _ => trivial) (TrK.below (w := w2) (by rw [hV]; exact (Below.refl _ _).alloc (Nat.le_refl _) _) ht)) (World.ownsRow_nil _ _ _ _))
  have hfl : e.flat.length ≤ 1000 := by obtain ⟨a1, a2, a3⟩ := hA; omega
  obtain ⟨FL, hFL⟩ : ∃ FL, FL = e.flat := ⟨_, rfl⟩
  rw [← hFL] at HF hlong hfl
  rw [← hFL] at HR
  obtain ⟨FN, hFN⟩ : ∃ FN, FN = FL.length := ⟨_, rfl⟩
  rw [← hFN] at HF hlong hfl
  rw [Nat.zero_add, List.nil_append] at HF
  have HFN := hide hFN
  clear HFL hFL hFN ht
  have hq' : ¬ (q : Int) < (TK.length : Int) := by omega
  have HBf : Hid (Below w.heap.size w V) := hide (bel_box HB1.out hg3)
  have HB3 := hide hb3
  clear hb2 hg2 hb3 hg3 HP HEnv HPOS HRow HB1 hKb
  go_upto_region 16 with fail
  rw [← hV]
  have kc := cell_of_blk (show V.heap[w2.heap.size]? = some (.cells #[.int .i64 hk, .int .i64 hn, .string hx, .slice sa sn sc] 36 (0, 0)) by rw [hV]; exact heap_alloc_new w2 _)
  clear hV c fz HB3
  go_wp2_with fail
  refine Calls.mono HF.out ?_
  rintro e4 w4 ⟨v4, rfl, ho4, hg4, -⟩
  obtain ⟨va, vc, rfl⟩ := own_form' ho4
  have HO4 := hide ho4
  have HBg : Hid (Below w.heap.size w w4) := hide ⟨hg4.os.trans HBf.out.os, hg4.tape.trans HBf.out.tape, hg4.output.trans HBf.out.output, Nat.le_trans HBf.out.size hg4.size, fun k hk => (hg4.block k (Nat.lt_of_lt_of_le hk HBf.out.size) (fun e => by simp [Value.ownBlock] at e)).trans (HBf.out.block k hk)⟩
  clear ho4 hg4 HF HBf kc
  have hlong' : ¬ (40 : Int) < (FN : Int) := by omega
  go_wp2_with fail
  exact bodyPost_ret (v := .tuple #[.slice va FN vc, .int .i64 0, .bool true]) (by simp [results, Tryd.results4, go_sem]) rfl (PX.of HR.out (by rw [← HFN.out]; exact HO4.out) HBg.out)

set_option maxRecDepth 20000 in
set_option maxHeartbeats 8000000 in
theorem ps_p_deep (s : ByteArray) (w : World) (hs : s.size ≤ maxLen) (h3 : ¬ 300 < s.size) (hw : (lexT s).2.2 = false) (q : Nat) (hz : zOf s = .bad q true) :
    Calls Tryd.prog 4 #[.string s] w (PX w (pxT s)) := by
  have h3' : ¬ (300 : Int) < (s.size : Int) := by omega
  have hPE : pxT s = cls s.size (tksOf s) (enOf s) false (.bad q true) := by rw [pxT_of h3, hw, hz]
  rw [cls_deep] at hPE
  have hA := zOf_after s
  rw [hz] at hA
  have hL := tksOf_len s
  have hC := l1Lex_any s w (by omega)
  rw [← lexT_small h3] at hC
  have HC := hide hC
  clear hC
  obtain ⟨R, hR⟩ : ∃ R, R = pxT s := ⟨_, rfl⟩
  rw [← hR] at hPE ⊢
  clear hR
  have HALL := hide (fun (g : Nat) (ta : Option Addr) (tc : Nat) (w' : World) => all_any g ta tc (enOf s) s w')
  rw [hz] at HALL
  have HPOS := hide (tksOf_pos s)
  have hK : tksOf s = tkL (lexT (s.extract 0 (lexT s).2.1)).1 := by unfold tksOf; rw [if_neg (by rw [hw]; simp)]
  have hE : enOf s = (lexT s).2.1 := by unfold enOf; rw [if_neg (by rw [hw]; simp)]
  have hF := (lexT_bd s).2
  have hC2 := fun w' => l1Lex_any (s.extract 0 (lexT s).2.1) w' (by simp only [ByteArray.size_extract]; omega)
  rw [← lexT_small (s := s.extract 0 (lexT s).2.1) (by simp only [ByteArray.size_extract]; omega)] at hC2
  have HC2 := hide hC2
  clear hC2
  rw [hw] at HC
  rw [hE] at HALL
  obtain ⟨TK, hTK⟩ : ∃ TK, TK = tksOf s := ⟨_, rfl⟩
  rw [← hTK] at HALL HPOS hL hA hK
  obtain ⟨FT, hFT⟩ : ∃ FT, FT = (lexT s).2.1 := ⟨_, rfl⟩
  rw [← hFT] at HC HC2 hK hF hE HALL
  have HR := hide hPE
  have hFT0 : (0 : Int) ≤ (FT : Int) := by omega
  clear hPE hTK hFT hE hw hz h3
  have hf1 : (FT : Int) ≤ (s.size : Int) := by omega
  obtain ⟨C2, hC2⟩ : ∃ C2, C2 = s.extract 0 FT := ⟨_, rfl⟩
  go_enter Tryd.func4, Tryd.ntmps4
  go_wp2_with fail
  refine Calls.mono HC.out ?_
  rintro e1 w1 ⟨v, rfl, ho, hb⟩
  obtain ⟨a0, c0, rfl⟩ := own_form ho
  obtain ⟨N0, hN0⟩ : ∃ N0, N0 = (lexT s).1.length := ⟨_, rfl⟩
  rw [← hN0]
  have HB0 := hide hb
  clear ho hb HC hN0
  go_wp2_with fail
  rw [← hC2]
  refine Calls.mono (by rw [hC2]; exact HC2.out _) ?_
  rintro e2 w1 ⟨v, rfl, ho, hb⟩
  obtain ⟨ta, tc, rfl, hrow, hblk⟩ := row_of_own ho
  rw [← hK] at hrow ⊢
  have HB1 := hide (HB0.out.trans (hb.mono HB0.out.size))
  have HRow := hide hrow
  have HBlk := hide hblk
  clear ho hb hrow hblk HC2 hK HB0
  have hBA : Below w1.heap.size w1 (w1.alloc (.cells (spC ta TK.length tc 0 FT (-1) false) 33)) := (Below.refl _ _).alloc (Nat.le_refl _) _
  have HEnv : Hid (EnvS (w1.alloc (.cells (spC ta TK.length tc 0 FT (-1) false) 33)) w1.heap.size ta TK) := hide ⟨HRow.out.below hBA, fun b o e => by have := HBlk.out b o e; omega, HPOS.out⟩
  have HP := hide (HALL.out w1.heap.size ta tc _ HEnv.out (heap_alloc_new w1 _))
  have hs1 : w.heap.size ≤ w1.heap.size := HB1.out.size
  unfold SO at HP
  simp only at HP
  clear hBA HALL HBlk
  go_wp2_with fail
  refine Calls.mono HP.out ?_
  rintro e3 w2 ⟨⟨x, sa, sn, sc, rfl⟩, ⟨q', hb2⟩, hg2⟩
  obtain ⟨hk, hn, hx⟩ := x
  unfold l2v
  simp only
  obtain ⟨V, hV⟩ : ∃ V, V = w2.alloc (.cells #[.int .i64 hk, .int .i64 hn, .string hx, .slice sa sn sc] 36) := ⟨_, rfl⟩
  have hb3 := hb2.alloc (o := .cells #[.int .i64 hk, .int .i64 hn, .string hx, .slice sa sn sc] 36)
  have hg3 := gr_alloc (o := .cells #[.int .i64 hk, .int .i64 hn, .string hx, .slice sa sn sc] 36) hg2
  have hKb := heap_alloc_new w2 (.cells #[.int .i64 hk, .int .i64 hn, .string hx, .slice sa sn sc] 36)
  rw [← hV] at hb3 hg3 hKb
  have c := hb2.c
  have fz := hb2.f
  unfold spC at c
  have hq0 : (0 : Int) ≤ (q : Int) := by omega
  have hgs : w1.heap.size < w2.heap.size := hb2.lt
  have hgs2 : ¬ w1.heap.size = w2.heap.size := by omega
  have hB := plc_pos (en := FT) (p := q) HPOS.out
  have hB1 : ¬ plc TK FT q < 0 := by omega
  have HBf : Hid (Below w.heap.size w V) := hide (bel_box HB1.out hg3)
  have HB3 := hide hb3
  clear hb2 hg2 hb3 hg3 HP HEnv HPOS HRow HB1 hKb
  clear HB3
  go_wp2_with fail
  rw [← hV]
  exact bodyPost_ret (v := .tuple #[.slice none 0 0, .int .i64 (s.size : Int), .bool false]) (by simp [results, Tryd.results4, go_sem]) rfl (PX.nil HR.out HBf.out)

set_option maxRecDepth 20000 in
set_option maxHeartbeats 8000000 in
theorem ps_p_bad (s : ByteArray) (w : World) (hs : s.size ≤ maxLen) (h3 : ¬ 300 < s.size) (hw : (lexT s).2.2 = false) (q : Nat) (hz : zOf s = .bad q false) :
    Calls Tryd.prog 4 #[.string s] w (PX w (pxT s)) := by
  have h3' : ¬ (300 : Int) < (s.size : Int) := by omega
  have hPE : pxT s = cls s.size (tksOf s) (enOf s) false (.bad q false) := by rw [pxT_of h3, hw, hz]
  rw [cls_plc] at hPE
  have hA := zOf_after s
  rw [hz] at hA
  have hL := tksOf_len s
  have hC := l1Lex_any s w (by omega)
  rw [← lexT_small h3] at hC
  have HC := hide hC
  clear hC
  obtain ⟨R, hR⟩ : ∃ R, R = pxT s := ⟨_, rfl⟩
  rw [← hR] at hPE ⊢
  clear hR
  have HALL := hide (fun (g : Nat) (ta : Option Addr) (tc : Nat) (w' : World) => all_any g ta tc (enOf s) s w')
  rw [hz] at HALL
  have HPOS := hide (tksOf_pos s)
  have hK : tksOf s = tkL (lexT (s.extract 0 (lexT s).2.1)).1 := by unfold tksOf; rw [if_neg (by rw [hw]; simp)]
  have hE : enOf s = (lexT s).2.1 := by unfold enOf; rw [if_neg (by rw [hw]; simp)]
  have hF := (lexT_bd s).2
  have hC2 := fun w' => l1Lex_any (s.extract 0 (lexT s).2.1) w' (by simp only [ByteArray.size_extract]; omega)
  rw [← lexT_small (s := s.extract 0 (lexT s).2.1) (by simp only [ByteArray.size_extract]; omega)] at hC2
  have HC2 := hide hC2
  clear hC2
  rw [hw] at HC
  rw [hE] at hPE HALL
  obtain ⟨TK, hTK⟩ : ∃ TK, TK = tksOf s := ⟨_, rfl⟩
  rw [← hTK] at HALL HPOS hL hA hK hPE
  obtain ⟨FT, hFT⟩ : ∃ FT, FT = (lexT s).2.1 := ⟨_, rfl⟩
  rw [← hFT] at HC HC2 hK hF hE HALL hPE
  have hB := plc_pos (en := FT) (p := q) HPOS.out
  obtain ⟨B, hBe⟩ : ∃ B, B = plc TK FT q := ⟨_, rfl⟩
  rw [← hBe] at hPE hB
  have HBe := hide hBe
  clear hBe
  have HR := hide hPE
  have hFT0 : (0 : Int) ≤ (FT : Int) := by omega
  clear hPE hTK hFT hE hw hz h3
  have hf1 : (FT : Int) ≤ (s.size : Int) := by omega
  obtain ⟨C2, hC2⟩ : ∃ C2, C2 = s.extract 0 FT := ⟨_, rfl⟩
  go_enter Tryd.func4, Tryd.ntmps4
  go_wp2_with fail
  refine Calls.mono HC.out ?_
  rintro e1 w1 ⟨v, rfl, ho, hb⟩
  obtain ⟨a0, c0, rfl⟩ := own_form ho
  obtain ⟨N0, hN0⟩ : ∃ N0, N0 = (lexT s).1.length := ⟨_, rfl⟩
  rw [← hN0]
  have HB0 := hide hb
  clear ho hb HC hN0
  go_wp2_with fail
  rw [← hC2]
  refine Calls.mono (by rw [hC2]; exact HC2.out _) ?_
  rintro e2 w1 ⟨v, rfl, ho, hb⟩
  obtain ⟨ta, tc, rfl, hrow, hblk⟩ := row_of_own ho
  rw [← hK] at hrow ⊢
  have HB1 := hide (HB0.out.trans (hb.mono HB0.out.size))
  have HRow := hide hrow
  have HBlk := hide hblk
  clear ho hb hrow hblk HC2 hK HB0
  have hBA : Below w1.heap.size w1 (w1.alloc (.cells (spC ta TK.length tc 0 FT (-1) false) 33)) := (Below.refl _ _).alloc (Nat.le_refl _) _
  have HEnv : Hid (EnvS (w1.alloc (.cells (spC ta TK.length tc 0 FT (-1) false) 33)) w1.heap.size ta TK) := hide ⟨HRow.out.below hBA, fun b o e => by have := HBlk.out b o e; omega, HPOS.out⟩
  have HP := hide (HALL.out w1.heap.size ta tc _ HEnv.out (heap_alloc_new w1 _))
  have hs1 : w.heap.size ≤ w1.heap.size := HB1.out.size
  unfold SO at HP
  simp only at HP
  clear hBA HALL HBlk
  go_wp2_with fail
  refine Calls.mono HP.out ?_
  rintro e3 w2 ⟨⟨x, sa, sn, sc, rfl⟩, ⟨q', hb2⟩, hg2⟩
  obtain ⟨hk, hn, hx⟩ := x
  unfold l2v
  simp only
  obtain ⟨V, hV⟩ : ∃ V, V = w2.alloc (.cells #[.int .i64 hk, .int .i64 hn, .string hx, .slice sa sn sc] 36) := ⟨_, rfl⟩
  have hb3 := hb2.alloc (o := .cells #[.int .i64 hk, .int .i64 hn, .string hx, .slice sa sn sc] 36)
  have hg3 := gr_alloc (o := .cells #[.int .i64 hk, .int .i64 hn, .string hx, .slice sa sn sc] 36) hg2
  have hKb := heap_alloc_new w2 (.cells #[.int .i64 hk, .int .i64 hn, .string hx, .slice sa sn sc] 36)
  rw [← hV] at hb3 hg3 hKb
  have c := hb2.c
  have fz := hb2.f
  unfold spC at c
  have hq0 : (0 : Int) ≤ (q : Int) := by omega
  have hgs : w1.heap.size < w2.heap.size := hb2.lt
  have hgs2 : ¬ w1.heap.size = w2.heap.size := by omega
  rw [← HBe.out] at c hb3
  have hB1 : ¬ B < 0 := by omega
  have HBf : Hid (Below w.heap.size w V) := hide (bel_box HB1.out hg3)
  have HB3 := hide hb3
  clear hb2 hg2 hb3 hg3 HP HEnv HPOS HRow HB1 hKb
  go_upto_region 15 with fail
  rw [← hV]
  have d3 : V.cell? ⟨w1.heap.size, 3, none⟩ = some (.int .i64 B) := (HB3.out.c 3).trans rfl
  clear hV c fz HB3
  go_quiet (fail)
  go_wp2_with fail
  exact bodyPost_ret (v := .tuple #[.slice none 0 0, .int .i64 B, .bool false]) (by simp [results, Tryd.results4, go_sem]) rfl (PX.nil HR.out (HBf.out.trans ((belDrewN _).mono HBf.out.size)))

set_option maxRecDepth 20000 in
set_option maxHeartbeats 8000000 in
theorem ps_p_at (s : ByteArray) (w : World) (hs : s.size ≤ maxLen) (h3 : ¬ 300 < s.size) (hw : (lexT s).2.2 = false) (q : Nat) (e : E) (hz : zOf s = .ok e q) (hq : q < (tksOf s).length) :
    Calls Tryd.prog 4 #[.string s] w (PX w (pxT s)) := by
  have h3' : ¬ (300 : Int) < (s.size : Int) := by omega
  have hPE : pxT s = cls s.size (tksOf s) (enOf s) false (.ok e q) := by rw [pxT_of h3, hw, hz]
  rw [cls_atp hq] at hPE
  have hA := zOf_after s
  rw [hz] at hA
  have hL := tksOf_len s
  have hC := l1Lex_any s w (by omega)
  rw [← lexT_small h3] at hC
  have HC := hide hC
  clear hC
  obtain ⟨R, hR⟩ : ∃ R, R = pxT s := ⟨_, rfl⟩
  rw [← hR] at hPE ⊢
  clear hR
  have HALL := hide (fun (g : Nat) (ta : Option Addr) (tc : Nat) (w' : World) => all_any g ta tc (enOf s) s w')
  rw [hz] at HALL
  have HPOS := hide (tksOf_pos s)
  have hK : tksOf s = tkL (lexT (s.extract 0 (lexT s).2.1)).1 := by unfold tksOf; rw [if_neg (by rw [hw]; simp)]
  have hE : enOf s = (lexT s).2.1 := by unfold enOf; rw [if_neg (by rw [hw]; simp)]
  have hF := (lexT_bd s).2
  have hC2 := fun w' => l1Lex_any (s.extract 0 (lexT s).2.1) w' (by simp only [ByteArray.size_extract]; omega)
  rw [← lexT_small (s := s.extract 0 (lexT s).2.1) (by simp only [ByteArray.size_extract]; omega)] at hC2
  have HC2 := hide hC2
  clear hC2
  rw [hw] at HC
  rw [hE] at hPE HALL
  obtain ⟨TK, hTK⟩ : ∃ TK, TK = tksOf s := ⟨_, rfl⟩
  rw [← hTK] at HALL HPOS hL hA hK hPE hq
  obtain ⟨FT, hFT⟩ : ∃ FT, FT = (lexT s).2.1 := ⟨_, rfl⟩
  rw [← hFT] at HC HC2 hK hF hE HALL hPE
  have hB := plc_pos (en := FT) (p := q) HPOS.out
  obtain ⟨B, hBe⟩ : ∃ B, B = plc TK FT q := ⟨_, rfl⟩
  rw [← hBe] at hPE hB
  have HBe := hide hBe
  clear hBe
  have HR := hide hPE
  have hFT0 : (0 : Int) ≤ (FT : Int) := by omega
  clear hPE hTK hFT hE hw hz h3
  have hf1 : (FT : Int) ≤ (s.size : Int) := by omega
  obtain ⟨C2, hC2⟩ : ∃ C2, C2 = s.extract 0 FT := ⟨_, rfl⟩
  go_enter Tryd.func4, Tryd.ntmps4
  go_wp2_with fail
  refine Calls.mono HC.out ?_
  rintro e1 w1 ⟨v, rfl, ho, hb⟩
  obtain ⟨a0, c0, rfl⟩ := own_form ho
  obtain ⟨N0, hN0⟩ : ∃ N0, N0 = (lexT s).1.length := ⟨_, rfl⟩
  rw [← hN0]
  have HB0 := hide hb
  clear ho hb HC hN0
  go_wp2_with fail
  rw [← hC2]
  refine Calls.mono (by rw [hC2]; exact HC2.out _) ?_
  rintro e2 w1 ⟨v, rfl, ho, hb⟩
  obtain ⟨ta, tc, rfl, hrow, hblk⟩ := row_of_own ho
  rw [← hK] at hrow ⊢
  have HB1 := hide (HB0.out.trans (hb.mono HB0.out.size))
  have HRow := hide hrow
  have HBlk := hide hblk
  clear ho hb hrow hblk HC2 hK HB0
  have hBA : Below w1.heap.size w1 (w1.alloc (.cells (spC ta TK.length tc 0 FT (-1) false) 33)) := (Below.refl _ _).alloc (Nat.le_refl _) _
  have HEnv : Hid (EnvS (w1.alloc (.cells (spC ta TK.length tc 0 FT (-1) false) 33)) w1.heap.size ta TK) := hide ⟨HRow.out.below hBA, fun b o e => by have := HBlk.out b o e; omega, HPOS.out⟩
  have HP := hide (HALL.out w1.heap.size ta tc _ HEnv.out (heap_alloc_new w1 _))
  have hs1 : w.heap.size ≤ w1.heap.size := HB1.out.size
  unfold SO at HP
  simp only at HP
  clear hBA HALL HBlk
  go_wp2_with fail
  refine Calls.mono HP.out ?_
  rintro e3 w2 ⟨⟨sv, rfl, ht⟩, hb2, hg2⟩
  obtain ⟨sa, sn, sc, rfl⟩ := ht.form
  obtain ⟨H, hH⟩ : ∃ H, H = e.head := ⟨_, rfl⟩
  rw [← hH]
  clear hH
  obtain ⟨hk, hn, hx⟩ := H
  unfold l2v
  simp only
  obtain ⟨V, hV⟩ : ∃ V, V = w2.alloc (.cells #[.int .i64 hk, .int .i64 hn, .string hx, .slice sa sn sc] 36) := ⟨_, rfl⟩
  have hb3 := hb2.alloc (o := .cells #[.int .i64 hk, .int .i64 hn, .string hx, .slice sa sn sc] 36)
  have hg3 := gr_alloc (o := .cells #[.int .i64 hk, .int .i64 hn, .string hx, .slice sa sn sc] 36) hg2
  have hKb := heap_alloc_new w2 (.cells #[.int .i64 hk, .int .i64 hn, .string hx, .slice sa sn sc] 36)
  rw [← hV] at hb3 hg3 hKb
  have c := hb2.c
  have fz := hb2.f
  unfold spC at c
  have hq0 : (0 : Int) ≤ (q : Int) := by omega
  have hgs : w1.heap.size < w2.heap.size := hb2.lt
  have hgs2 : ¬ w1.heap.size = w2.heap.size := by omega
  have hq' : (q : Int) < (TK.length : Int) := by omega
  have hF0 := fail_new w1.heap.size ta tc TK q FT false V (by omega) (by obtain ⟨a1, a2, a3⟩ := hA; omega) hb3 (HEnv.out.grown hg3).row HEnv.out.apart
  rw [← HBe.out] at hF0
  have HF := hide hF0
  clear hF0
  have HBf : Hid (Below w.heap.size w V) := hide (bel_box HB1.out hg3)
  have HB3 := hide hb3
  clear hb2 hg2 hb3 hg3 HP HEnv HPOS HRow HB1 hKb ht
  go_upto_region 11 with fail
  rw [← hV]
  clear hV c fz HB3
  go_wp2_with fail
  refine Calls.mono HF.out ?_
  rintro e4 w4 ⟨rfl, hb4, hg4⟩
  have hB1 : ¬ B < 0 := by omega
  have HB4 := hide hb4
  have c := hb4.c
  have fz := hb4.f
  unfold spC at c
  have d3 : w4.cell? ⟨w1.heap.size, 3, none⟩ = some (.int .i64 B) := (hb4.c 3).trans rfl
  have HBg : Hid (Below w.heap.size w w4) := hide ⟨hg4.os.trans HBf.out.os, hg4.tape.trans HBf.out.tape, hg4.output.trans HBf.out.output, Nat.le_trans HBf.out.size hg4.size, fun k hk => (hg4.block k (Nat.lt_of_lt_of_le hk HBf.out.size) (fun e => by simp at e; omega)).trans (HBf.out.block k hk)⟩
  clear hb4 hg4 HF HBf
  go_upto_region 15 with fail
  clear c fz HB4
  go_quiet (fail)
  go_wp2_with fail
  exact bodyPost_ret (v := .tuple #[.slice none 0 0, .int .i64 B, .bool false]) (by simp [results, Tryd.results4, go_sem]) rfl (PX.nil HR.out (HBg.out.trans ((belDrewN _).mono HBg.out.size)))

set_option maxRecDepth 20000 in
set_option maxHeartbeats 8000000 in
theorem ps_p_part (s : ByteArray) (w : World) (hs : s.size ≤ maxLen) (h3 : ¬ 300 < s.size) (hw : (lexT s).2.2 = false) (q : Nat) (e : E) (hz : zOf s = .ok e q) (hq : ¬ q < (tksOf s).length) :
    Calls Tryd.prog 4 #[.string s] w (PX w (pxT s)) := by
  have h3' : ¬ (300 : Int) < (s.size : Int) := by omega
  have hPE : pxT s = cls s.size (tksOf s) (enOf s) false (.ok e q) := by rw [pxT_of h3, hw, hz]
  rw [cls_partp hq] at hPE
  have hA := zOf_after s
  rw [hz] at hA
  have hL := tksOf_len s
  have hC := l1Lex_any s w (by omega)
  rw [← lexT_small h3] at hC
  have HC := hide hC
  clear hC
  obtain ⟨R, hR⟩ : ∃ R, R = pxT s := ⟨_, rfl⟩
  rw [← hR] at hPE ⊢
  clear hR
  have HALL := hide (fun (g : Nat) (ta : Option Addr) (tc : Nat) (w' : World) => all_any g ta tc (enOf s) s w')
  rw [hz] at HALL
  have HPOS := hide (tksOf_pos s)
  have hK : tksOf s = tkL (lexT (s.extract 0 (lexT s).2.1)).1 := by unfold tksOf; rw [if_neg (by rw [hw]; simp)]
  have hE : enOf s = (lexT s).2.1 := by unfold enOf; rw [if_neg (by rw [hw]; simp)]
  have hF := (lexT_bd s).2
  have hC2 := fun w' => l1Lex_any (s.extract 0 (lexT s).2.1) w' (by simp only [ByteArray.size_extract]; omega)
  rw [← lexT_small (s := s.extract 0 (lexT s).2.1) (by simp only [ByteArray.size_extract]; omega)] at hC2
  have HC2 := hide hC2
  clear hC2
  rw [hw] at HC
  rw [hE] at hPE HALL
  obtain ⟨TK, hTK⟩ : ∃ TK, TK = tksOf s := ⟨_, rfl⟩
  rw [← hTK] at HALL HPOS hL hA hK hPE hq
  obtain ⟨FT, hFT⟩ : ∃ FT, FT = (lexT s).2.1 := ⟨_, rfl⟩
  rw [← hFT] at HC HC2 hK hF hE HALL hPE
  have hB := plc_pos (en := FT) (p := q) HPOS.out
  obtain ⟨B, hBe⟩ : ∃ B, B = plc TK FT q := ⟨_, rfl⟩
  rw [← hBe] at hPE hB
  have HBe := hide hBe
  clear hBe
  have HR := hide hPE
  have hFT0 : (0 : Int) ≤ (FT : Int) := by omega
  clear hPE hTK hFT hE hw hz h3
  have hf1 : (FT : Int) ≤ (s.size : Int) := by omega
  obtain ⟨C2, hC2⟩ : ∃ C2, C2 = s.extract 0 FT := ⟨_, rfl⟩
  go_enter Tryd.func4, Tryd.ntmps4
  go_wp2_with fail
  refine Calls.mono HC.out ?_
  rintro e1 w1 ⟨v, rfl, ho, hb⟩
  obtain ⟨a0, c0, rfl⟩ := own_form ho
  obtain ⟨N0, hN0⟩ : ∃ N0, N0 = (lexT s).1.length := ⟨_, rfl⟩
  rw [← hN0]
  have HB0 := hide hb
  clear ho hb HC hN0
  go_wp2_with fail
  rw [← hC2]
  refine Calls.mono (by rw [hC2]; exact HC2.out _) ?_
  rintro e2 w1 ⟨v, rfl, ho, hb⟩
  obtain ⟨ta, tc, rfl, hrow, hblk⟩ := row_of_own ho
  rw [← hK] at hrow ⊢
  have HB1 := hide (HB0.out.trans (hb.mono HB0.out.size))
  have HRow := hide hrow
  have HBlk := hide hblk
  clear ho hb hrow hblk HC2 hK HB0
  have hBA : Below w1.heap.size w1 (w1.alloc (.cells (spC ta TK.length tc 0 FT (-1) false) 33)) := (Below.refl _ _).alloc (Nat.le_refl _) _
  have HEnv : Hid (EnvS (w1.alloc (.cells (spC ta TK.length tc 0 FT (-1) false) 33)) w1.heap.size ta TK) := hide ⟨HRow.out.below hBA, fun b o e => by have := HBlk.out b o e; omega, HPOS.out⟩
  have HP := hide (HALL.out w1.heap.size ta tc _ HEnv.out (heap_alloc_new w1 _))
  have hs1 : w.heap.size ≤ w1.heap.size := HB1.out.size
  unfold SO at HP
  simp only at HP
  clear hBA HALL HBlk
  go_wp2_with fail
  refine Calls.mono HP.out ?_
  rintro e3 w2 ⟨⟨sv, rfl, ht⟩, hb2, hg2⟩
  obtain ⟨sa, sn, sc, rfl⟩ := ht.form
  obtain ⟨H, hH⟩ : ∃ H, H = e.head := ⟨_, rfl⟩
  rw [← hH]
  clear hH
  obtain ⟨hk, hn, hx⟩ := H
  unfold l2v
  simp only
  obtain ⟨V, hV⟩ : ∃ V, V = w2.alloc (.cells #[.int .i64 hk, .int .i64 hn, .string hx, .slice sa sn sc] 36) := ⟨_, rfl⟩
  have hb3 := hb2.alloc (o := .cells #[.int .i64 hk, .int .i64 hn, .string hx, .slice sa sn sc] 36)
  have hg3 := gr_alloc (o := .cells #[.int .i64 hk, .int .i64 hn, .string hx, .slice sa sn sc] 36) hg2
  have hKb := heap_alloc_new w2 (.cells #[.int .i64 hk, .int .i64 hn, .string hx, .slice sa sn sc] 36)
  rw [← hV] at hb3 hg3 hKb
  have c := hb2.c
  have fz := hb2.f
  unfold spC at c
  have hq0 : (0 : Int) ≤ (q : Int) := by omega
  have hgs : w1.heap.size < w2.heap.size := hb2.lt
  have hgs2 : ¬ w1.heap.size = w2.heap.size := by omega
  have hq' : ¬ (q : Int) < (TK.length : Int) := by omega
  have hF0 := fail_new w1.heap.size ta tc TK q FT false V (by omega) (by obtain ⟨a1, a2, a3⟩ := hA; omega) hb3 (HEnv.out.grown hg3).row HEnv.out.apart
  rw [← HBe.out] at hF0
  have HF := hide hF0
  clear hF0
  have HBf : Hid (Below w.heap.size w V) := hide (bel_box HB1.out hg3)
  have HB3 := hide hb3
  clear hb2 hg2 hb3 hg3 HP HEnv HPOS HRow HB1 hKb ht
  go_upto_region 11 with fail
  rw [← hV]
  clear hV c fz HB3
  go_wp2_with fail
  refine Calls.mono HF.out ?_
  rintro e4 w4 ⟨rfl, hb4, hg4⟩
  have hB1 : ¬ B < 0 := by omega
  have HB4 := hide hb4
  have c := hb4.c
  have fz := hb4.f
  unfold spC at c
  have d3 : w4.cell? ⟨w1.heap.size, 3, none⟩ = some (.int .i64 B) := (hb4.c 3).trans rfl
  have HBg : Hid (Below w.heap.size w w4) := hide ⟨hg4.os.trans HBf.out.os, hg4.tape.trans HBf.out.tape, hg4.output.trans HBf.out.output, Nat.le_trans HBf.out.size hg4.size, fun k hk => (hg4.block k (Nat.lt_of_lt_of_le hk HBf.out.size) (fun e => by simp at e; omega)).trans (HBf.out.block k hk)⟩
  clear hb4 hg4 HF HBf
  go_upto_region 15 with fail
  clear c fz HB4
  go_quiet (fail)
  go_wp2_with fail
  exact bodyPost_ret (v := .tuple #[.slice none 0 0, .int .i64 B, .bool false]) (by simp [results, Tryd.results4, go_sem]) rfl (PX.nil HR.out (HBg.out.trans ((belDrewN _).mono HBg.out.size)))

theorem specParseExpr_any (s : ByteArray) (w : World) (hs : s.size ≤ maxLen) :
    Calls Tryd.prog 4 #[.string s] w (PX w (pxT s)) := by
  by_cases h3 : 300 < s.size
  · have h3' : (300 : Int) < (s.size : Int) := by omega
    have HR : Hid (pxT s = ([], 0, false)) := hide (if_pos h3)
    clear h3
    go_enter Tryd.func4, Tryd.ntmps4
    go_wp2_with fail
    exact bodyPost_ret (v := .tuple #[.slice none 0 0, .int .i64 0, .bool false]) (by simp [results, Tryd.results4, go_sem]) rfl (PX.nil HR.out (Below.refl _ _))
  · cases hw : (lexT s).2.2 with
    | true =>
      cases hz : zOf s with
      | bad q t =>
        cases t with
        | true => exact ps_w_deep s w hs h3 hw q hz
        | false => exact ps_w_bad s w hs h3 hw q hz
      | ok e q =>
        by_cases hq : q < (tksOf s).length
        · exact ps_w_at s w hs h3 hw q e hz hq
        · by_cases hl : 40 < e.flat.length
          · exact ps_w_long s w hs h3 hw q e hz hq hl
          · exact ps_w_fine s w hs h3 hw q e hz hq hl
    | false =>
      cases hz : zOf s with
      | bad q t =>
        cases t with
        | true => exact ps_p_deep s w hs h3 hw q hz
        | false => exact ps_p_bad s w hs h3 hw q hz
      | ok e q =>
        by_cases hq : q < (tksOf s).length
        · exact ps_p_at s w hs h3 hw q e hz hq
        · exact ps_p_part s w hs h3 hw q e hz hq
end Go.Proofs.YtmnicilgenpnfaaDoor.W

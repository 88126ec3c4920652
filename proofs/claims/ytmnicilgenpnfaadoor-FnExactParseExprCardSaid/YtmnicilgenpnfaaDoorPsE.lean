/-
  The specification's one at brackets. Written by build/mk_pse.py. Conditions: at most 1000 tokens.
-/
import Derived.Test.YtmnicilgenpnfaaDoorPsD
namespace Go.Proofs.YtmnicilgenpnfaaDoor.W
open Go.ChangeShapes Go.WideShapes Go.ChangeAt Go.RowKit
set_option linter.unusedVariables false
set_option linter.unusedSimpArgs false

/-- A tree, told on in a block of one's own. -/
theorem tree_same {w : World} {k m : Nat} {a b c d : Value} {e : E} {s : Value} (ht : TrK w m e s) (hm : k < m) : TrK ((((w.setCell ⟨k, 0, none⟩ a).setCell ⟨k, 1, none⟩ b).setCell ⟨k, 2, none⟩ c).setCell ⟨k, 3, none⟩ d) k e s :=
  TrK.lower (by omega) (TrK.keep (by rw [set4_size]; exact Nat.le_refl _) (fun j h1 h2 => set4_heap w k j a b c d (by omega)) ht)

set_option maxRecDepth 20000 in
set_option maxHeartbeats 8000000 in
theorem one_br_bad (g : Nat) (ta : Option Addr) (tc en : Nat) (l : List T.Tk) (p d : Nat) (w : World) (hl : l.length ≤ 1000) (hd : d ≤ 100) (he : EnvS w g ta l) (hb : Bk w g (spC ta l.length tc p en (-1) false) 33) (hlt : p < l.length) (s40 : sqAt l p [40] = true) (q : Nat) (t : Bool) (hc : ∀ w', EnvS w' g ta l → Bk w' g (spC ta l.length tc (p + 1) en (-1) false) 33 → Calls Tryd.prog 10 #[.pointer (some ⟨g, 0, none⟩), .int .i64 1, .int .i64 ((d : Int) + 1)] w' (SO w' g ta tc en l (.bad q t))) :
    Calls Tryd.prog 18 #[.pointer (some ⟨g, 0, none⟩), .int .i64 (d : Int)] w (SO w g ta tc en l (.bad q t)) := by
  unfold SO at hc ⊢
  simp only at hc ⊢
  have HC := hide hc
  clear hc
  have hp : p ≤ l.length := by omega
  have s45 := sq_uniq (s' := [45]) s40 (by decide)
  have s33 := sq_uniq (s' := [33]) s40 (by decide)
  have hB := plc_pos (en := en) (p := q) he.pos
  obtain ⟨B, hBe⟩ : ∃ B, B = plc l en q := ⟨_, rfl⟩
  rw [← hBe] at HC hB ⊢
  have HBe := hide hBe
  clear hBe
  have hgl := hb.lt
  have HB := hide hb
  have HE := hide he
  have hd' : ¬ (100 : Int) < (d : Int) := by omega
  have hd0 : (0 : Int) ≤ (d : Int) := by omega
  have hp0 : (0 : Int) ≤ (p : Int) := by omega
  clear hb he
  have c3 : w.cell? ⟨g, 3, none⟩ = some (.int .i64 (-1)) := (HB.out.c 3).trans rfl
  go_enter Tryd.func18, Tryd.ntmps18
  go_upto_region 6 with fail
  obtain ⟨W, hW⟩ : ∃ W, W = w.alloc (.cells #[.int .i64 0, .int .i64 0, .string ⟨#[]⟩, .slice none 0 0] 36) := ⟨_, rfl⟩
  have HGc : Hid (w.grownBy W (some g)) := hide (by rw [hW]; exact gr_alloc (gr_refl w _))
  have HBc : Hid (Bk W g (spC ta l.length tc p en (-1) false) 33) := hide (by rw [hW]; exact HB.out.alloc)
  have HRc : Hid (Bk W w.heap.size #[.int .i64 0, .int .i64 0, .string ⟨#[]⟩, .slice none 0 0] 36) := hide (by rw [hW]; exact heap_alloc_new w _)
  rw [← hW]
  clear hW c3 HB
  have hq := sign_new g ta tc l p en false ⟨#[45]⟩ _ hl hp HBc.out (HE.out.grown HGc.out).row
  rw [show (⟨#[45]⟩ : ByteArray).data.toList = [45] from rfl, s45] at hq
  have HQ := hide hq
  clear hq
  go_wp2_with fail
  refine Calls.mono HQ.out ?_
  rintro e w0 ⟨rfl, hbx⟩
  have HGn := hide (gr_trans HGc.out (gr_below (some g) hbx))
  have HBn := hide (HBc.out.below hbx)
  have HRn := hide (HRc.out.below hbx)
  clear hbx HGc HBc HRc HQ
  have HGc := HGn
  have HBc := HBn
  have HRc := HRn
  clear HGn HBn HRn
  have hq := sign_new g ta tc l p en false ⟨#[33]⟩ _ hl hp HBc.out (HE.out.grown HGc.out).row
  rw [show (⟨#[33]⟩ : ByteArray).data.toList = [33] from rfl, s33] at hq
  have HQ := hide hq
  clear hq
  go_wp2_with fail
  refine Calls.mono HQ.out ?_
  rintro e w00 ⟨rfl, hbx⟩
  have HGn := hide (gr_trans HGc.out (gr_below (some g) hbx))
  have HBn := hide (HBc.out.below hbx)
  have HRn := hide (HRc.out.below hbx)
  clear hbx HGc HBc HRc HQ
  have HGc := HGn
  have HBc := HBn
  have HRc := HRn
  clear HGn HBn HRn
  have hq := sign_new g ta tc l p en false ⟨#[40]⟩ _ hl hp HBc.out (HE.out.grown HGc.out).row
  rw [show (⟨#[40]⟩ : ByteArray).data.toList = [40] from rfl, s40] at hq
  have HQ := hide hq
  clear hq
  go_wp2_with fail
  refine Calls.mono HQ.out ?_
  rintro e w1 ⟨rfl, hbx⟩
  have HGn := hide (gr_trans HGc.out (gr_below (some g) hbx))
  have HBn := hide (HBc.out.below hbx)
  have HRn := hide (HRc.out.below hbx)
  clear hbx HGc HBc HRc HQ
  have HGc := HGn
  have HBc := HBn
  have HRc := HRn
  clear HGn HBn HRn
  have c1 : w1.cell? ⟨g, 1, none⟩ = some (.int .i64 (p : Int)) := (HBc.out.c 1).trans rfl
  have fz := HBc.out.f
  go_upto_region 14 with fail
  obtain ⟨V, hV⟩ : ∃ V, V = w1.setCell ⟨g, 1, none⟩ (.int .i64 ((p : Int) + 1)) := ⟨_, rfl⟩
  rw [← hV]
  have HGV : Hid (w.grownBy V (some g)) := hide (by rw [hV]; exact gr_set HGc.out _ _)
  have HBV : Hid (Bk V g (spC ta l.length tc (p + 1) en (-1) false) 33) := hide (by
    have hz := HBc.out.set 1 (.int .i64 ((p : Int) + 1))
    simp only [spC, List.setIfInBounds_toArray, List.set_cons_zero, List.set_cons_succ] at hz
    rw [hV]; unfold spC; rw [show ((p + 1 : Nat) : Int) = (p : Int) + 1 by omega]; exact hz)
  have HRV : Hid (Bk V w.heap.size #[.int .i64 0, .int .i64 0, .string ⟨#[]⟩, .slice none 0 0] 36) := hide (by rw [hV]; exact HRc.out.other (by omega))
  have hwV : w.heap.size < V.heap.size := HRV.out.lt
  have HCV := hide (HC.out V (HE.out.grown HGV.out) HBV.out)
  clear hV c1 fz HGc HBc HRc HC
  go_wp2_with fail
  refine Calls.mono HCV.out ?_
  rintro e3 w3 ⟨⟨x, sa, sn, sc, rfl⟩, ⟨q', hb3⟩, hg3⟩
  obtain ⟨hk, hn, htx⟩ := x
  unfold l2v
  simp only
  have hr3 := HRV.out.grown hg3 (fun e => by simp at e; omega)
  have hwV3 : V.heap.size ≤ w3.heap.size := hg3.size
  have hlt3 : w.heap.size < w3.heap.size := Nat.lt_of_lt_of_le hwV hg3.size
  obtain ⟨O, hO⟩ : ∃ O : Obj, O = .cells #[.int .i64 hk, .int .i64 hn, .string htx, .slice sa sn sc] 36 := ⟨_, rfl⟩
  obtain ⟨X, hX⟩ : ∃ X, X = w3.alloc O := ⟨_, rfl⟩
  have HGX : Hid (w.grownBy X (some g)) := hide (by rw [hX]; exact gr_alloc (gr_trans HGV.out hg3))
  have HBX : Hid (Bk X g (spC ta l.length tc q' en B t) 33) := hide (by rw [hX]; exact hb3.alloc)
  have HRX : Hid (Bk X w.heap.size #[.int .i64 0, .int .i64 0, .string ⟨#[]⟩, .slice none 0 0] 36) := hide (by rw [hX]; exact hr3.alloc)
  have HKX : Hid (Bk X w3.heap.size #[.int .i64 hk, .int .i64 hn, .string htx, .slice sa sn sc] 36) := hide (by rw [hX, hO]; exact heap_alloc_new w3 _)
  have hq := sign_old g ta l.length tc q' en B t ⟨#[41]⟩ X hB HBX.out
  have HQ := hide hq
  clear hq hr3 hb3 hg3 HCV HGV HBV HRV
  go_upto_region 15 with fail
  rw [← hO, ← hX]
  clear hX hO
  go_wp2_with fail
  refine Calls.mono HQ.out ?_
  rintro e4 w4 ⟨rfl, hb4⟩
  have HG4 := hide (gr_trans HGX.out (gr_below (some g) hb4))
  have HB4 := hide (HBX.out.below hb4)
  have HR4 := hide (HRX.out.below hb4)
  have HK4 := hide (HKX.out.below hb4)
  clear hb4 HGX HBX HRX HKX HQ
  have HF := hide (fail_old g ta l.length tc q' en B t w4 hB HB4.out)
  go_wp2_with fail
  refine Calls.mono HF.out ?_
  rintro e5 w5 ⟨rfl, rfl⟩
  have HG5 := HG4
  have HB5 := HB4
  have HR5 := HR4
  have rc := HR5.out.c
  have rf := HR5.out.f
  clear HF HK4
  go_wp2_with fail
  refine bodyPost_ret (v := l2v ⟨0, 0, ⟨#[]⟩⟩ (.slice none 0 0)) (by simp [results, Tryd.results18, go_sem, l2v, *]) rfl ⟨⟨⟨0, 0, ⟨#[]⟩⟩, none, 0, 0, rfl⟩, ⟨q', ?_⟩, ?_⟩
  · exact HB5.out.set4 (by omega)
  · exact gr_set4 HG5.out (Nat.le_refl _)

set_option maxRecDepth 20000 in
set_option maxHeartbeats 8000000 in
theorem one_br_open (g : Nat) (ta : Option Addr) (tc en : Nat) (l : List T.Tk) (p d : Nat) (w : World) (hl : l.length ≤ 1000) (hd : d ≤ 100) (he : EnvS w g ta l) (hb : Bk w g (spC ta l.length tc p en (-1) false) 33) (hlt : p < l.length) (s40 : sqAt l p [40] = true) (E : E) (q : Nat) (s41 : sqAt l q [41] = false) (hq : q ≤ l.length) (hc : ∀ w', EnvS w' g ta l → Bk w' g (spC ta l.length tc (p + 1) en (-1) false) 33 → Calls Tryd.prog 10 #[.pointer (some ⟨g, 0, none⟩), .int .i64 1, .int .i64 ((d : Int) + 1)] w' (SO w' g ta tc en l (.ok E q))) :
    Calls Tryd.prog 18 #[.pointer (some ⟨g, 0, none⟩), .int .i64 (d : Int)] w (SO w g ta tc en l (.bad q false)) := by
  unfold SO at hc ⊢
  simp only at hc ⊢
  have HC := hide hc
  clear hc
  have hp : p ≤ l.length := by omega
  have s45 := sq_uniq (s' := [45]) s40 (by decide)
  have s33 := sq_uniq (s' := [33]) s40 (by decide)
  have hB := plc_pos (en := en) (p := q) he.pos
  obtain ⟨B, hBe⟩ : ∃ B, B = plc l en q := ⟨_, rfl⟩
  rw [← hBe] at hB ⊢
  have HBe := hide hBe
  clear hBe
  have hgl := hb.lt
  have HB := hide hb
  have HE := hide he
  have hd' : ¬ (100 : Int) < (d : Int) := by omega
  have hd0 : (0 : Int) ≤ (d : Int) := by omega
  have hp0 : (0 : Int) ≤ (p : Int) := by omega
  clear hb he
  have c3 : w.cell? ⟨g, 3, none⟩ = some (.int .i64 (-1)) := (HB.out.c 3).trans rfl
  go_enter Tryd.func18, Tryd.ntmps18
  go_upto_region 6 with fail
  obtain ⟨W, hW⟩ : ∃ W, W = w.alloc (.cells #[.int .i64 0, .int .i64 0, .string ⟨#[]⟩, .slice none 0 0] 36) := ⟨_, rfl⟩
  have HGc : Hid (w.grownBy W (some g)) := hide (by rw [hW]; exact gr_alloc (gr_refl w _))
  have HBc : Hid (Bk W g (spC ta l.length tc p en (-1) false) 33) := hide (by rw [hW]; exact HB.out.alloc)
  have HRc : Hid (Bk W w.heap.size #[.int .i64 0, .int .i64 0, .string ⟨#[]⟩, .slice none 0 0] 36) := hide (by rw [hW]; exact heap_alloc_new w _)
  rw [← hW]
  clear hW c3 HB
  have hq := sign_new g ta tc l p en false ⟨#[45]⟩ _ hl hp HBc.out (HE.out.grown HGc.out).row
  rw [show (⟨#[45]⟩ : ByteArray).data.toList = [45] from rfl, s45] at hq
  have HQ := hide hq
  clear hq
  go_wp2_with fail
  refine Calls.mono HQ.out ?_
  rintro e w0 ⟨rfl, hbx⟩
  have HGn := hide (gr_trans HGc.out (gr_below (some g) hbx))
  have HBn := hide (HBc.out.below hbx)
  have HRn := hide (HRc.out.below hbx)
  clear hbx HGc HBc HRc HQ
  have HGc := HGn
  have HBc := HBn
  have HRc := HRn
  clear HGn HBn HRn
  have hq := sign_new g ta tc l p en false ⟨#[33]⟩ _ hl hp HBc.out (HE.out.grown HGc.out).row
  rw [show (⟨#[33]⟩ : ByteArray).data.toList = [33] from rfl, s33] at hq
  have HQ := hide hq
  clear hq
  go_wp2_with fail
  refine Calls.mono HQ.out ?_
  rintro e w00 ⟨rfl, hbx⟩
  have HGn := hide (gr_trans HGc.out (gr_below (some g) hbx))
  have HBn := hide (HBc.out.below hbx)
  have HRn := hide (HRc.out.below hbx)
  clear hbx HGc HBc HRc HQ
  have HGc := HGn
  have HBc := HBn
  have HRc := HRn
  clear HGn HBn HRn
  have hq := sign_new g ta tc l p en false ⟨#[40]⟩ _ hl hp HBc.out (HE.out.grown HGc.out).row
  rw [show (⟨#[40]⟩ : ByteArray).data.toList = [40] from rfl, s40] at hq
  have HQ := hide hq
  clear hq
  go_wp2_with fail
  refine Calls.mono HQ.out ?_
  rintro e w1 ⟨rfl, hbx⟩
  have HGn := hide (gr_trans HGc.out (gr_below (some g) hbx))
  have HBn := hide (HBc.out.below hbx)
  have HRn := hide (HRc.out.below hbx)
  clear hbx HGc HBc HRc HQ
  have HGc := HGn
  have HBc := HBn
  have HRc := HRn
  clear HGn HBn HRn
  have c1 : w1.cell? ⟨g, 1, none⟩ = some (.int .i64 (p : Int)) := (HBc.out.c 1).trans rfl
  have fz := HBc.out.f
  go_upto_region 14 with fail
  obtain ⟨V, hV⟩ : ∃ V, V = w1.setCell ⟨g, 1, none⟩ (.int .i64 ((p : Int) + 1)) := ⟨_, rfl⟩
  rw [← hV]
  have HGV : Hid (w.grownBy V (some g)) := hide (by rw [hV]; exact gr_set HGc.out _ _)
  have HBV : Hid (Bk V g (spC ta l.length tc (p + 1) en (-1) false) 33) := hide (by
    have hz := HBc.out.set 1 (.int .i64 ((p : Int) + 1))
    simp only [spC, List.setIfInBounds_toArray, List.set_cons_zero, List.set_cons_succ] at hz
    rw [hV]; unfold spC; rw [show ((p + 1 : Nat) : Int) = (p : Int) + 1 by omega]; exact hz)
  have HRV : Hid (Bk V w.heap.size #[.int .i64 0, .int .i64 0, .string ⟨#[]⟩, .slice none 0 0] 36) := hide (by rw [hV]; exact HRc.out.other (by omega))
  have hwV : w.heap.size < V.heap.size := HRV.out.lt
  have HCV := hide (HC.out V (HE.out.grown HGV.out) HBV.out)
  clear hV c1 fz HGc HBc HRc HC
  go_wp2_with fail
  refine Calls.mono HCV.out ?_
  rintro e3 w3 ⟨⟨s, rfl, ht⟩, hb3, hg3⟩
  obtain ⟨sa, sn, sc, rfl⟩ := ht.form
  obtain ⟨H, hH⟩ : ∃ H, H = E.head := ⟨_, rfl⟩
  rw [← hH]
  have HH := hide hH
  obtain ⟨hk, hn, htx⟩ := H
  unfold l2v
  simp only
  have HT := hide ht
  clear hH ht
  have hr3 := HRV.out.grown hg3 (fun e => by simp at e; omega)
  have hwV3 : V.heap.size ≤ w3.heap.size := hg3.size
  have hlt3 : w.heap.size < w3.heap.size := Nat.lt_of_lt_of_le hwV hg3.size
  obtain ⟨O, hO⟩ : ∃ O : Obj, O = .cells #[.int .i64 hk, .int .i64 hn, .string htx, .slice sa sn sc] 36 := ⟨_, rfl⟩
  obtain ⟨X, hX⟩ : ∃ X, X = w3.alloc O := ⟨_, rfl⟩
  have HGX : Hid (w.grownBy X (some g)) := hide (by rw [hX]; exact gr_alloc (gr_trans HGV.out hg3))
  have HBX : Hid (Bk X g (spC ta l.length tc q en (-1) false) 33) := hide (by rw [hX]; exact hb3.alloc)
  have HRX : Hid (Bk X w.heap.size #[.int .i64 0, .int .i64 0, .string ⟨#[]⟩, .slice none 0 0] 36) := hide (by rw [hX]; exact hr3.alloc)
  have HKX : Hid (Bk X w3.heap.size #[.int .i64 hk, .int .i64 hn, .string htx, .slice sa sn sc] 36) := hide (by rw [hX, hO]; exact heap_alloc_new w3 _)
  have HTX : Hid (TrK X V.heap.size E (.slice sa sn sc)) := hide (by rw [hX]; exact HT.out.below ((Below.refl _ _).alloc (Nat.le_refl _) _))
  clear HT
  have hq2 := sign_new g ta tc l q en false ⟨#[41]⟩ X hl hq HBX.out (HE.out.grown HGX.out).row
  rw [show (⟨#[41]⟩ : ByteArray).data.toList = [41] from rfl, s41] at hq2
  have hq := hq2
  clear hq2
  have HQ := hide hq
  clear hq hr3 hb3 hg3 HCV HGV HBV HRV
  go_upto_region 15 with fail
  rw [← hO, ← hX]
  clear hX hO
  go_wp2_with fail
  refine Calls.mono HQ.out ?_
  rintro e4 w4 ⟨rfl, hb4⟩
  have HG4 := hide (gr_trans HGX.out (gr_below (some g) hb4))
  have HB4 := hide (HBX.out.below hb4)
  have HR4 := hide (HRX.out.below hb4)
  have HK4 := hide (HKX.out.below hb4)
  clear hb4 HGX HBX HRX HKX HQ HTX
  have hqf := fail_new g ta tc l q en false w4 hl hq HB4.out (HE.out.grown HG4.out).row HE.out.apart
  rw [← HBe.out] at hqf
  have HF := hide hqf
  clear hqf
  go_wp2_with fail
  refine Calls.mono HF.out ?_
  rintro e5 w5 ⟨rfl, hb5, hg5⟩
  have HG5 := hide (gr_trans HG4.out hg5)
  have HB5 := hide hb5
  have HR5 := hide (HR4.out.grown hg5 (fun e => by simp at e; omega))
  clear hb5 hg5
  have rc := HR5.out.c
  have rf := HR5.out.f
  clear HF HK4
  go_wp2_with fail
  refine bodyPost_ret (v := l2v ⟨0, 0, ⟨#[]⟩⟩ (.slice none 0 0)) (by simp [results, Tryd.results18, go_sem, l2v, *]) rfl ⟨⟨⟨0, 0, ⟨#[]⟩⟩, none, 0, 0, rfl⟩, ⟨q, ?_⟩, ?_⟩
  · exact HB5.out.set4 (by omega)
  · exact gr_set4 HG5.out (Nat.le_refl _)

set_option maxRecDepth 20000 in
set_option maxHeartbeats 8000000 in
theorem one_br (g : Nat) (ta : Option Addr) (tc en : Nat) (l : List T.Tk) (p d : Nat) (w : World) (hl : l.length ≤ 1000) (hd : d ≤ 100) (he : EnvS w g ta l) (hb : Bk w g (spC ta l.length tc p en (-1) false) 33) (hlt : p < l.length) (s40 : sqAt l p [40] = true) (E : E) (q : Nat) (s41 : sqAt l q [41] = true) (hq : q ≤ l.length) (hc : ∀ w', EnvS w' g ta l → Bk w' g (spC ta l.length tc (p + 1) en (-1) false) 33 → Calls Tryd.prog 10 #[.pointer (some ⟨g, 0, none⟩), .int .i64 1, .int .i64 ((d : Int) + 1)] w' (SO w' g ta tc en l (.ok E q))) :
    Calls Tryd.prog 18 #[.pointer (some ⟨g, 0, none⟩), .int .i64 (d : Int)] w (SO w g ta tc en l (.ok E (q + 1))) := by
  unfold SO at hc ⊢
  simp only at hc ⊢
  have HC := hide hc
  clear hc
  have hp : p ≤ l.length := by omega
  have s45 := sq_uniq (s' := [45]) s40 (by decide)
  have s33 := sq_uniq (s' := [33]) s40 (by decide)
  have hB := plc_pos (en := en) (p := q) he.pos
  obtain ⟨B, hBe⟩ : ∃ B, B = plc l en q := ⟨_, rfl⟩
  have HBe := hide hBe
  clear hBe
  have hgl := hb.lt
  have HB := hide hb
  have HE := hide he
  have hd' : ¬ (100 : Int) < (d : Int) := by omega
  have hd0 : (0 : Int) ≤ (d : Int) := by omega
  have hp0 : (0 : Int) ≤ (p : Int) := by omega
  clear hb he
  have c3 : w.cell? ⟨g, 3, none⟩ = some (.int .i64 (-1)) := (HB.out.c 3).trans rfl
  go_enter Tryd.func18, Tryd.ntmps18
  go_upto_region 6 with fail
  obtain ⟨W, hW⟩ : ∃ W, W = w.alloc (.cells #[.int .i64 0, .int .i64 0, .string ⟨#[]⟩, .slice none 0 0] 36) := ⟨_, rfl⟩
  have HGc : Hid (w.grownBy W (some g)) := hide (by rw [hW]; exact gr_alloc (gr_refl w _))
  have HBc : Hid (Bk W g (spC ta l.length tc p en (-1) false) 33) := hide (by rw [hW]; exact HB.out.alloc)
  have HRc : Hid (Bk W w.heap.size #[.int .i64 0, .int .i64 0, .string ⟨#[]⟩, .slice none 0 0] 36) := hide (by rw [hW]; exact heap_alloc_new w _)
  rw [← hW]
  clear hW c3 HB
  have hq := sign_new g ta tc l p en false ⟨#[45]⟩ _ hl hp HBc.out (HE.out.grown HGc.out).row
  rw [show (⟨#[45]⟩ : ByteArray).data.toList = [45] from rfl, s45] at hq
  have HQ := hide hq
  clear hq
  go_wp2_with fail
  refine Calls.mono HQ.out ?_
  rintro e w0 ⟨rfl, hbx⟩
  have HGn := hide (gr_trans HGc.out (gr_below (some g) hbx))
  have HBn := hide (HBc.out.below hbx)
  have HRn := hide (HRc.out.below hbx)
  clear hbx HGc HBc HRc HQ
  have HGc := HGn
  have HBc := HBn
  have HRc := HRn
  clear HGn HBn HRn
  have hq := sign_new g ta tc l p en false ⟨#[33]⟩ _ hl hp HBc.out (HE.out.grown HGc.out).row
  rw [show (⟨#[33]⟩ : ByteArray).data.toList = [33] from rfl, s33] at hq
  have HQ := hide hq
  clear hq
  go_wp2_with fail
  refine Calls.mono HQ.out ?_
  rintro e w00 ⟨rfl, hbx⟩
  have HGn := hide (gr_trans HGc.out (gr_below (some g) hbx))
  have HBn := hide (HBc.out.below hbx)
  have HRn := hide (HRc.out.below hbx)
  clear hbx HGc HBc HRc HQ
  have HGc := HGn
  have HBc := HBn
  have HRc := HRn
  clear HGn HBn HRn
  have hq := sign_new g ta tc l p en false ⟨#[40]⟩ _ hl hp HBc.out (HE.out.grown HGc.out).row
  rw [show (⟨#[40]⟩ : ByteArray).data.toList = [40] from rfl, s40] at hq
  have HQ := hide hq
  clear hq
  go_wp2_with fail
  refine Calls.mono HQ.out ?_
  rintro e w1 ⟨rfl, hbx⟩
  have HGn := hide (gr_trans HGc.out (gr_below (some g) hbx))
  have HBn := hide (HBc.out.below hbx)
  have HRn := hide (HRc.out.below hbx)
  clear hbx HGc HBc HRc HQ
  have HGc := HGn
  have HBc := HBn
  have HRc := HRn
  clear HGn HBn HRn
  have c1 : w1.cell? ⟨g, 1, none⟩ = some (.int .i64 (p : Int)) := (HBc.out.c 1).trans rfl
  have fz := HBc.out.f
  go_upto_region 14 with fail
  obtain ⟨V, hV⟩ : ∃ V, V = w1.setCell ⟨g, 1, none⟩ (.int .i64 ((p : Int) + 1)) := ⟨_, rfl⟩
  rw [← hV]
  have HGV : Hid (w.grownBy V (some g)) := hide (by rw [hV]; exact gr_set HGc.out _ _)
  have HBV : Hid (Bk V g (spC ta l.length tc (p + 1) en (-1) false) 33) := hide (by
    have hz := HBc.out.set 1 (.int .i64 ((p : Int) + 1))
    simp only [spC, List.setIfInBounds_toArray, List.set_cons_zero, List.set_cons_succ] at hz
    rw [hV]; unfold spC; rw [show ((p + 1 : Nat) : Int) = (p : Int) + 1 by omega]; exact hz)
  have HRV : Hid (Bk V w.heap.size #[.int .i64 0, .int .i64 0, .string ⟨#[]⟩, .slice none 0 0] 36) := hide (by rw [hV]; exact HRc.out.other (by omega))
  have hwV : w.heap.size < V.heap.size := HRV.out.lt
  have HCV := hide (HC.out V (HE.out.grown HGV.out) HBV.out)
  clear hV c1 fz HGc HBc HRc HC
  go_wp2_with fail
  refine Calls.mono HCV.out ?_
  rintro e3 w3 ⟨⟨s, rfl, ht⟩, hb3, hg3⟩
  obtain ⟨sa, sn, sc, rfl⟩ := ht.form
  obtain ⟨H, hH⟩ : ∃ H, H = E.head := ⟨_, rfl⟩
  rw [← hH]
  have HH := hide hH
  obtain ⟨hk, hn, htx⟩ := H
  unfold l2v
  simp only
  have HT := hide ht
  clear hH ht
  have hr3 := HRV.out.grown hg3 (fun e => by simp at e; omega)
  have hwV3 : V.heap.size ≤ w3.heap.size := hg3.size
  have hlt3 : w.heap.size < w3.heap.size := Nat.lt_of_lt_of_le hwV hg3.size
  obtain ⟨O, hO⟩ : ∃ O : Obj, O = .cells #[.int .i64 hk, .int .i64 hn, .string htx, .slice sa sn sc] 36 := ⟨_, rfl⟩
  obtain ⟨X, hX⟩ : ∃ X, X = w3.alloc O := ⟨_, rfl⟩
  have HGX : Hid (w.grownBy X (some g)) := hide (by rw [hX]; exact gr_alloc (gr_trans HGV.out hg3))
  have HBX : Hid (Bk X g (spC ta l.length tc q en (-1) false) 33) := hide (by rw [hX]; exact hb3.alloc)
  have HRX : Hid (Bk X w.heap.size #[.int .i64 0, .int .i64 0, .string ⟨#[]⟩, .slice none 0 0] 36) := hide (by rw [hX]; exact hr3.alloc)
  have HKX : Hid (Bk X w3.heap.size #[.int .i64 hk, .int .i64 hn, .string htx, .slice sa sn sc] 36) := hide (by rw [hX, hO]; exact heap_alloc_new w3 _)
  have HTX : Hid (TrK X V.heap.size E (.slice sa sn sc)) := hide (by rw [hX]; exact HT.out.below ((Below.refl _ _).alloc (Nat.le_refl _) _))
  clear HT
  have hq2 := sign_new g ta tc l q en false ⟨#[41]⟩ X hl hq HBX.out (HE.out.grown HGX.out).row
  rw [show (⟨#[41]⟩ : ByteArray).data.toList = [41] from rfl, s41] at hq2
  have hq := hq2
  clear hq2
  have HQ := hide hq
  clear hq hr3 hb3 hg3 HCV HGV HBV HRV
  go_upto_region 15 with fail
  rw [← hO, ← hX]
  clear hX hO
  go_wp2_with fail
  refine Calls.mono HQ.out ?_
  rintro e4 w4 ⟨rfl, hb4⟩
  have HG4 := hide (gr_trans HGX.out (gr_below (some g) hb4))
  have HB4 := hide (HBX.out.below hb4)
  have HR4 := hide (HRX.out.below hb4)
  have HK4 := hide (HKX.out.below hb4)
  have HT4 := hide (HTX.out.below hb4)
  clear hb4 HGX HBX HRX HKX HQ HTX
  have c1 : w4.cell? ⟨g, 1, none⟩ = some (.int .i64 (q : Int)) := (HB4.out.c 1).trans rfl
  have fz := HB4.out.f
  have hq0 : (0 : Int) ≤ (q : Int) := by omega
  go_upto_region 19 with fail
  obtain ⟨U, hU⟩ : ∃ U, U = w4.setCell ⟨g, 1, none⟩ (.int .i64 ((q : Int) + 1)) := ⟨_, rfl⟩
  rw [← hU]
  have HGU : Hid (w.grownBy U (some g)) := hide (by rw [hU]; exact gr_set HG4.out _ _)
  have HBU : Hid (Bk U g (spC ta l.length tc (q + 1) en (-1) false) 33) := hide (by
    have hz := HB4.out.set 1 (.int .i64 ((q : Int) + 1))
    simp only [spC, List.setIfInBounds_toArray, List.set_cons_zero, List.set_cons_succ] at hz
    rw [hU]; unfold spC; rw [show ((q + 1 : Nat) : Int) = (q : Int) + 1 by omega]; exact hz)
  have HRU : Hid (Bk U w.heap.size #[.int .i64 0, .int .i64 0, .string ⟨#[]⟩, .slice none 0 0] 36) := hide (by rw [hU]; exact HR4.out.other (by omega))
  have HKU : Hid (Bk U w3.heap.size #[.int .i64 hk, .int .i64 hn, .string htx, .slice sa sn sc] 36) := hide (by rw [hU]; exact HK4.out.other (by omega))
  have HTU : Hid (TrK U V.heap.size E (.slice sa sn sc)) := hide (by rw [hU]; exact TrK.keep (by simp [World.setCell]) (fun j h1 h2 => Below.heap_setCell _ _ _ _ (show j ≠ g by omega)) HT4.out)
  have rc := HRU.out.c
  have rf := HRU.out.f
  have kc := HKU.out.c
  have kf := HKU.out.f
  clear hU c1 fz HG4 HB4 HR4 HK4 HT4
  go_wp2_with fail
  refine bodyPost_ret (v := l2v ⟨hk, hn, htx⟩ (.slice sa sn sc)) (by simp [results, Tryd.results18, go_sem, l2v, *]) rfl ⟨⟨.slice sa sn sc, by rw [← HH.out], ?_⟩, ?_, ?_⟩
  · exact tree_same HTU.out hwV
  · exact HBU.out.set4 (by omega)
  · exact gr_set4 HGU.out (Nat.le_refl _)

end Go.Proofs.YtmnicilgenpnfaaDoor.W

/-
  The specification's one where nothing can stand, and where a sign stands ahead of something. Written by build/mk_psd.py. Conditions: at most 1000 tokens.
-/
import Derived.Test.YtmnicilgenpnfaaDoorPsC
namespace Go.Proofs.YtmnicilgenpnfaaDoor.W
open Go.ChangeShapes Go.WideShapes Go.ChangeAt Go.RowKit
set_option linter.unusedVariables false
set_option linter.unusedSimpArgs false

theorem sq_none {l : List T.Tk} {p : Nat} {s : List UInt8} (h : ¬ p < l.length) : sqAt l p s = false := by unfold sqAt; rw [List.getElem?_eq_none (by omega)]
theorem sq_kind {l : List T.Tk} {p : Nat} {s : List UInt8} (h : p < l.length) (hk : l[p].k ≠ 3) : sqAt l p s = false := by unfold sqAt; rw [List.getElem?_eq_getElem h]; simp [hk]
theorem sq_uniq {l : List T.Tk} {p : Nat} {s s' : List UInt8} (h : sqAt l p s = true) (hn : s ≠ s') : sqAt l p s' = false := by
  unfold sqAt at h ⊢
  cases e : l[p]? with
  | none => rfl
  | some x =>
    rw [e] at h
    simp only [Bool.and_eq_true, decide_eq_true_eq] at h
    simp only
    rw [decide_eq_true h.1, h.2, decide_eq_false hn]
    rfl
theorem set4_size (w : World) (k : Nat) (a b c d : Value) : ((((w.setCell ⟨k, 0, none⟩ a).setCell ⟨k, 1, none⟩ b).setCell ⟨k, 2, none⟩ c).setCell ⟨k, 3, none⟩ d).heap.size = w.heap.size := by simp [World.setCell]
theorem set4_heap (w : World) (k j : Nat) (a b c d : Value) (h : j ≠ k) : ((((w.setCell ⟨k, 0, none⟩ a).setCell ⟨k, 1, none⟩ b).setCell ⟨k, 2, none⟩ c).setCell ⟨k, 3, none⟩ d).heap[j]? = w.heap[j]? := by
  rw [Below.heap_setCell _ _ _ _ h, Below.heap_setCell _ _ _ _ h, Below.heap_setCell _ _ _ _ h, Below.heap_setCell _ _ _ _ h]
theorem Bk.set4 {w : World} {g k : Nat} {cs : Array Value} {T : TypeId} {a b c d : Value} (h : Bk w g cs T) (hk : g ≠ k) : Bk ((((w.setCell ⟨k, 0, none⟩ a).setCell ⟨k, 1, none⟩ b).setCell ⟨k, 2, none⟩ c).setCell ⟨k, 3, none⟩ d) g cs T := (set4_heap w k g a b c d hk).trans h
theorem gr_set4 {v w : World} {g k : Nat} {a b c d : Value} (h : v.grownBy w (some g)) (hk : v.heap.size ≤ k) : v.grownBy ((((w.setCell ⟨k, 0, none⟩ a).setCell ⟨k, 1, none⟩ b).setCell ⟨k, 2, none⟩ c).setCell ⟨k, 3, none⟩ d) (some g) := gr_own (gr_own (gr_own (gr_own h hk) hk) hk) hk
/-- A tree of one kid, told in a block of one's own. -/
theorem tree_one {w : World} {k m : Nat} {a b c d : Value} {e : E} {s : Value} (x : Xx) (ht : TrK w m e s) (hm : k < m) (hkw : k < w.heap.size) :
    TrK ((((((w.setCell ⟨k, 0, none⟩ a).setCell ⟨k, 1, none⟩ b).setCell ⟨k, 2, none⟩ c).setCell ⟨k, 3, none⟩ d)).alloc (.cells #[.int .i64 e.head.k, .int .i64 e.head.n, .string e.head.t, s] 36)) k (.one x e) (.slice (some ⟨w.heap.size, 0, none⟩) 1 1) := by
  have hs := set4_size w k a b c d
  have hh := fun j hj => set4_heap w k j a b c d hj
  obtain ⟨Y, hY⟩ : ∃ Y, Y = ((((w.setCell ⟨k, 0, none⟩ a).setCell ⟨k, 1, none⟩ b).setCell ⟨k, 2, none⟩ c).setCell ⟨k, 3, none⟩ d) := ⟨_, rfl⟩
  rw [← hY] at hs hh ⊢
  have hn := heap_alloc_new Y (.cells #[.int .i64 e.head.k, .int .i64 e.head.n, .string e.head.t, s] 36)
  rw [hs] at hn
  have hsz : (Y.alloc (.cells #[.int .i64 e.head.k, .int .i64 e.head.n, .string e.head.t, s] 36)).heap.size = w.heap.size + 1 := by simp [hs]
  refine ⟨s, TrK.lower (by omega) (TrK.keep (by omega) (fun j h1 h2 => (heap_alloc_old Y _ (by omega)).trans (hh j (by omega))) ht), w.heap.size, 1, rfl, by omega, by omega, fun j v hj => ?_⟩
  rw [cell_of_blk hn, ← hj]
  unfold exC
  simp

set_option maxRecDepth 20000 in
set_option maxHeartbeats 8000000 in
theorem one_end (g : Nat) (ta : Option Addr) (tc en : Nat) (l : List T.Tk) (p d : Nat) (w : World) (hl : l.length ≤ 1000) (hd : d ≤ 100) (he : EnvS w g ta l) (hb : Bk w g (spC ta l.length tc p en (-1) false) 33) (hp : p ≤ l.length) (hlt : ¬ p < l.length) :
    Calls Tryd.prog 18 #[.pointer (some ⟨g, 0, none⟩), .int .i64 (d : Int)] w (SO w g ta tc en l (.bad p false)) := by
  unfold SO
  simp only
  have s45 := sq_none (s := [45]) hlt
  have s33 := sq_none (s := [33]) hlt
  have s40 := sq_none (s := [40]) hlt
  have hpe : (p : Int) = (l.length : Int) := by omega
  have hpn : p = l.length := by omega
  have hB := plc_pos (en := en) (p := p) he.pos
  obtain ⟨B, hBe⟩ : ∃ B, B = plc l en p := ⟨_, rfl⟩
  rw [← hBe] at hB ⊢
  have HBe := hide hBe
  clear hBe
  have hgl := hb.lt
  have HB := hide hb
  have HE := hide he
  have hd' : ¬ (100 : Int) < (d : Int) := by omega
  have hd0 : (0 : Int) ≤ (d : Int) := by omega
  have hp0 : (0 : Int) ≤ (p : Int) := by omega
  clear hb he
  have c3 : w.cell? ⟨g, 3, none⟩ = some (.int .i64 (-1)) := (HB.out.c 3).trans rfl
  go_enter Tryd.func18, Tryd.ntmps18
  go_upto_region 6 with fail
  obtain ⟨W, hW⟩ : ∃ W, W = w.alloc (.cells #[.int .i64 0, .int .i64 0, .string ⟨#[]⟩, .slice none 0 0] 36) := ⟨_, rfl⟩
  have HGc : Hid (w.grownBy W (some g)) := hide (by rw [hW]; exact gr_alloc (gr_refl w _))
  have HBc : Hid (Bk W g (spC ta l.length tc p en (-1) false) 33) := hide (by rw [hW]; exact HB.out.alloc)
  have HRc : Hid (Bk W w.heap.size #[.int .i64 0, .int .i64 0, .string ⟨#[]⟩, .slice none 0 0] 36) := hide (by rw [hW]; exact heap_alloc_new w _)
  rw [← hW]
  clear hW c3 HB
  have hq := sign_new g ta tc l p en false ⟨#[45]⟩ _ hl hp HBc.out (HE.out.grown HGc.out).row
  rw [show (⟨#[45]⟩ : ByteArray).data.toList = [45] from rfl, s45] at hq
  have HQ := hide hq
  clear hq
  go_wp2_with fail
  refine Calls.mono HQ.out ?_
  rintro e w1 ⟨rfl, hbx⟩
  have HGn := hide (gr_trans HGc.out (gr_below (some g) hbx))
  have HBn := hide (HBc.out.below hbx)
  have HRn := hide (HRc.out.below hbx)
  clear hbx HGc HBc HRc HQ
  have HGc := HGn
  have HBc := HBn
  have HRc := HRn
  clear HGn HBn HRn
  have hq := sign_new g ta tc l p en false ⟨#[33]⟩ _ hl hp HBc.out (HE.out.grown HGc.out).row
  rw [show (⟨#[33]⟩ : ByteArray).data.toList = [33] from rfl, s33] at hq
  have HQ := hide hq
  clear hq
  go_wp2_with fail
  refine Calls.mono HQ.out ?_
  rintro e w2 ⟨rfl, hbx⟩
  have HGn := hide (gr_trans HGc.out (gr_below (some g) hbx))
  have HBn := hide (HBc.out.below hbx)
  have HRn := hide (HRc.out.below hbx)
  clear hbx HGc HBc HRc HQ
  have HGc := HGn
  have HBc := HBn
  have HRc := HRn
  clear HGn HBn HRn
  have hq := sign_new g ta tc l p en false ⟨#[40]⟩ _ hl hp HBc.out (HE.out.grown HGc.out).row
  rw [show (⟨#[40]⟩ : ByteArray).data.toList = [40] from rfl, s40] at hq
  have HQ := hide hq
  clear hq
  go_wp2_with fail
  refine Calls.mono HQ.out ?_
  rintro e w3 ⟨rfl, hbx⟩
  have HGn := hide (gr_trans HGc.out (gr_below (some g) hbx))
  have HBn := hide (HBc.out.below hbx)
  have HRn := hide (HRc.out.below hbx)
  clear hbx HGc HBc HRc HQ
  have HGc := HGn
  have HBc := HBn
  have HRc := HRn
  clear HGn HBn HRn
  have C0 := cell_regrown ((HBc.out.c 0).trans rfl : w3.cell? ⟨g, 0, none⟩ = some (.slice ta l.length tc))
  have C1 := cell_regrown ((HBc.out.c 1).trans rfl : w3.cell? ⟨g, 1, none⟩ = some (.int .i64 (p : Int)))
  go_wp2_with fail
  refine wp_region_quiet_below (by kernel_rfl) (by kernel_rfl) ?_
  repeat (go_big_quiet_step (fail))
  refine wpQuiet_nil ?_
  intro _ hw'
  obtain ⟨⟨dq, osq⟩, hw''⟩ := hw'
  subst hw''
  obtain ⟨X, hX⟩ : ∃ X, X = Go.Sort.grow (redrawn w3 dq) osq := ⟨_, rfl⟩
  have HX : Hid (Below w3.heap.size w3 X) := hide (by rw [hX]; exact below_regrown w3 dq osq)
  try simp only [Go.Regrown.d, Go.Regrown.os] at hX ⊢
  rw [← hX]
  have HGx := hide (gr_trans HGc.out (gr_below (some g) HX.out))
  have HBx := hide (HBc.out.below HX.out)
  have HRx := hide (HRc.out.below HX.out)
  clear hX C0 C1 HGc HBc HRc HX
  have hq := fail_new g ta tc l p en false X hl hp HBx.out (HE.out.grown HGx.out).row HE.out.apart
  rw [← HBe.out] at hq
  have HF := hide hq
  clear hq
  go_wp2_with fail
  refine Calls.mono HF.out ?_
  rintro e1 w4 ⟨rfl, hb2, hg2⟩
  have HB2 := hide hb2
  have HG2 := hide (gr_trans HGx.out hg2)
  have hr2 := HRx.out.grown hg2 (fun e => by simp at e; omega)
  have rc := hr2.c
  have rf := hr2.f
  have HR2 := hide hr2
  clear hb2 hg2 HF HRx HGx HBx hr2
  go_wp2_with fail
  refine bodyPost_ret (v := l2v ⟨0, 0, ⟨#[]⟩⟩ (.slice none 0 0)) (by simp [results, Tryd.results18, go_sem, l2v, *]) rfl ⟨⟨⟨0, 0, ⟨#[]⟩⟩, none, 0, 0, rfl⟩, ⟨p, ?_⟩, ?_⟩
  · exact (((((HB2.out).other (by omega)).other (by omega)).other (by omega)).other (by omega))
  · exact gr_own (gr_own (gr_own (gr_own (HG2.out) (Nat.le_refl _)) (Nat.le_refl _)) (Nat.le_refl _)) (Nat.le_refl _)

set_option maxRecDepth 20000 in
set_option maxHeartbeats 8000000 in
theorem one_sign (g : Nat) (ta : Option Addr) (tc en : Nat) (l : List T.Tk) (p d : Nat) (w : World) (hl : l.length ≤ 1000) (hd : d ≤ 100) (he : EnvS w g ta l) (hb : Bk w g (spC ta l.length tc p en (-1) false) 33) (hlt : p < l.length) (hk : l[p].k = 3) (s45 : sqAt l p [45] = false) (s33 : sqAt l p [33] = false) (s40 : sqAt l p [40] = false) :
    Calls Tryd.prog 18 #[.pointer (some ⟨g, 0, none⟩), .int .i64 (d : Int)] w (SO w g ta tc en l (.bad p false)) := by
  unfold SO
  simp only
  have hp : p ≤ l.length := by omega
  have hlt' : ¬ (p : Int) = (l.length : Int) := by omega
  have hlt2 : (p : Int) < (l.length : Int) := by omega
  have hbq : ((p : Int) == (l.length : Int)) = false := beq_eq_false_iff_ne.2 hlt'
  have hB := plc_pos (en := en) (p := p) he.pos
  obtain ⟨B, hBe⟩ : ∃ B, B = plc l en p := ⟨_, rfl⟩
  rw [← hBe] at hB ⊢
  have HBe := hide hBe
  clear hBe
  have hgl := hb.lt
  have HB := hide hb
  have HE := hide he
  have hd' : ¬ (100 : Int) < (d : Int) := by omega
  have hd0 : (0 : Int) ≤ (d : Int) := by omega
  have hp0 : (0 : Int) ≤ (p : Int) := by omega
  clear hb he
  have c3 : w.cell? ⟨g, 3, none⟩ = some (.int .i64 (-1)) := (HB.out.c 3).trans rfl
  go_enter Tryd.func18, Tryd.ntmps18
  go_upto_region 6 with fail
  obtain ⟨W, hW⟩ : ∃ W, W = w.alloc (.cells #[.int .i64 0, .int .i64 0, .string ⟨#[]⟩, .slice none 0 0] 36) := ⟨_, rfl⟩
  have HGc : Hid (w.grownBy W (some g)) := hide (by rw [hW]; exact gr_alloc (gr_refl w _))
  have HBc : Hid (Bk W g (spC ta l.length tc p en (-1) false) 33) := hide (by rw [hW]; exact HB.out.alloc)
  have HRc : Hid (Bk W w.heap.size #[.int .i64 0, .int .i64 0, .string ⟨#[]⟩, .slice none 0 0] 36) := hide (by rw [hW]; exact heap_alloc_new w _)
  rw [← hW]
  clear hW c3 HB
  have hq := sign_new g ta tc l p en false ⟨#[45]⟩ _ hl hp HBc.out (HE.out.grown HGc.out).row
  rw [show (⟨#[45]⟩ : ByteArray).data.toList = [45] from rfl, s45] at hq
  have HQ := hide hq
  clear hq
  go_wp2_with fail
  refine Calls.mono HQ.out ?_
  rintro e w1 ⟨rfl, hbx⟩
  have HGn := hide (gr_trans HGc.out (gr_below (some g) hbx))
  have HBn := hide (HBc.out.below hbx)
  have HRn := hide (HRc.out.below hbx)
  clear hbx HGc HBc HRc HQ
  have HGc := HGn
  have HBc := HBn
  have HRc := HRn
  clear HGn HBn HRn
  have hq := sign_new g ta tc l p en false ⟨#[33]⟩ _ hl hp HBc.out (HE.out.grown HGc.out).row
  rw [show (⟨#[33]⟩ : ByteArray).data.toList = [33] from rfl, s33] at hq
  have HQ := hide hq
  clear hq
  go_wp2_with fail
  refine Calls.mono HQ.out ?_
  rintro e w2 ⟨rfl, hbx⟩
  have HGn := hide (gr_trans HGc.out (gr_below (some g) hbx))
  have HBn := hide (HBc.out.below hbx)
  have HRn := hide (HRc.out.below hbx)
  clear hbx HGc HBc HRc HQ
  have HGc := HGn
  have HBc := HBn
  have HRc := HRn
  clear HGn HBn HRn
  have hq := sign_new g ta tc l p en false ⟨#[40]⟩ _ hl hp HBc.out (HE.out.grown HGc.out).row
  rw [show (⟨#[40]⟩ : ByteArray).data.toList = [40] from rfl, s40] at hq
  have HQ := hide hq
  clear hq
  go_wp2_with fail
  refine Calls.mono HQ.out ?_
  rintro e w3 ⟨rfl, hbx⟩
  have HGn := hide (gr_trans HGc.out (gr_below (some g) hbx))
  have HBn := hide (HBc.out.below hbx)
  have HRn := hide (HRc.out.below hbx)
  clear hbx HGc HBc HRc HQ
  have HGc := HGn
  have HBc := HBn
  have HRc := HRn
  clear HGn HBn HRn
  have C0 := cell_regrown ((HBc.out.c 0).trans rfl : w3.cell? ⟨g, 0, none⟩ = some (.slice ta l.length tc))
  have C1 := cell_regrown ((HBc.out.c 1).trans rfl : w3.cell? ⟨g, 1, none⟩ = some (.int .i64 (p : Int)))
  obtain ⟨b, o, rfl, hbl, q0, -, -, -⟩ := (HE.out.grown HGc.out).row.tok (Below.refl _ _) hlt
  rw [hk] at q0
  have Q0 := cell_regrown q0
  clear q0
  go_wp2_with fail
  refine wp_region_quiet_below (by kernel_rfl) (by kernel_rfl) ?_
  repeat (go_big_quiet_step (fail))
  refine wpQuiet_nil ?_
  intro _ hw'
  obtain ⟨⟨dq, osq⟩, hw''⟩ := hw'
  subst hw''
  obtain ⟨X, hX⟩ : ∃ X, X = Go.Sort.grow (redrawn w3 dq) osq := ⟨_, rfl⟩
  have HX : Hid (Below w3.heap.size w3 X) := hide (by rw [hX]; exact below_regrown w3 dq osq)
  try simp only [Go.Regrown.d, Go.Regrown.os] at hX ⊢
  rw [← hX]
  have HGx := hide (gr_trans HGc.out (gr_below (some g) HX.out))
  have HBx := hide (HBc.out.below HX.out)
  have HRx := hide (HRc.out.below HX.out)
  clear hX C0 C1 HGc HBc HRc HX
  have hq := fail_new g (some ⟨b, o, none⟩) tc l p en false X hl hp HBx.out (HE.out.grown HGx.out).row HE.out.apart
  rw [← HBe.out] at hq
  have HF := hide hq
  clear hq
  go_wp2_with fail
  refine Calls.mono HF.out ?_
  rintro e1 w4 ⟨rfl, hb2, hg2⟩
  have HB2 := hide hb2
  have HG2 := hide (gr_trans HGx.out hg2)
  have hr2 := HRx.out.grown hg2 (fun e => by simp at e; omega)
  have rc := hr2.c
  have rf := hr2.f
  have HR2 := hide hr2
  clear hb2 hg2 HF HRx HGx HBx hr2
  go_wp2_with fail
  refine bodyPost_ret (v := l2v ⟨0, 0, ⟨#[]⟩⟩ (.slice none 0 0)) (by simp [results, Tryd.results18, go_sem, l2v, *]) rfl ⟨⟨⟨0, 0, ⟨#[]⟩⟩, none, 0, 0, rfl⟩, ⟨p, ?_⟩, ?_⟩
  · exact (((((HB2.out).other (by omega)).other (by omega)).other (by omega)).other (by omega))
  · exact gr_own (gr_own (gr_own (gr_own (HG2.out) (Nat.le_refl _)) (Nat.le_refl _)) (Nat.le_refl _)) (Nat.le_refl _)

set_option maxRecDepth 20000 in
set_option maxHeartbeats 8000000 in
theorem one_minus_bad (g : Nat) (ta : Option Addr) (tc en : Nat) (l : List T.Tk) (p d : Nat) (w : World) (hl : l.length ≤ 1000) (hd : d ≤ 100) (he : EnvS w g ta l) (hb : Bk w g (spC ta l.length tc p en (-1) false) 33) (hlt : p < l.length) (s45 : sqAt l p [45] = true) (q : Nat) (t : Bool) (hc : ∀ w', EnvS w' g ta l → Bk w' g (spC ta l.length tc (p + 1) en (-1) false) 33 → Calls Tryd.prog 18 #[.pointer (some ⟨g, 0, none⟩), .int .i64 ((d : Int) + 1)] w' (SO w' g ta tc en l (.bad q t))) :
    Calls Tryd.prog 18 #[.pointer (some ⟨g, 0, none⟩), .int .i64 (d : Int)] w (SO w g ta tc en l (.bad q t)) := by
  unfold SO at hc ⊢
  simp only at hc ⊢
  have HC := hide hc
  clear hc
  have hp : p ≤ l.length := by omega
  have hgl := hb.lt
  have HB := hide hb
  have HE := hide he
  have hd' : ¬ (100 : Int) < (d : Int) := by omega
  have hd0 : (0 : Int) ≤ (d : Int) := by omega
  have hp0 : (0 : Int) ≤ (p : Int) := by omega
  clear hb he
  have c3 : w.cell? ⟨g, 3, none⟩ = some (.int .i64 (-1)) := (HB.out.c 3).trans rfl
  go_enter Tryd.func18, Tryd.ntmps18
  go_upto_region 6 with fail
  obtain ⟨W, hW⟩ : ∃ W, W = w.alloc (.cells #[.int .i64 0, .int .i64 0, .string ⟨#[]⟩, .slice none 0 0] 36) := ⟨_, rfl⟩
  have HGc : Hid (w.grownBy W (some g)) := hide (by rw [hW]; exact gr_alloc (gr_refl w _))
  have HBc : Hid (Bk W g (spC ta l.length tc p en (-1) false) 33) := hide (by rw [hW]; exact HB.out.alloc)
  have HRc : Hid (Bk W w.heap.size #[.int .i64 0, .int .i64 0, .string ⟨#[]⟩, .slice none 0 0] 36) := hide (by rw [hW]; exact heap_alloc_new w _)
  rw [← hW]
  clear hW c3 HB
  have hq := sign_new g ta tc l p en false ⟨#[45]⟩ _ hl hp HBc.out (HE.out.grown HGc.out).row
  rw [show (⟨#[45]⟩ : ByteArray).data.toList = [45] from rfl, s45] at hq
  have HQ := hide hq
  clear hq
  go_wp2_with fail
  refine Calls.mono HQ.out ?_
  rintro e w1 ⟨rfl, hbx⟩
  have HGn := hide (gr_trans HGc.out (gr_below (some g) hbx))
  have HBn := hide (HBc.out.below hbx)
  have HRn := hide (HRc.out.below hbx)
  clear hbx HGc HBc HRc HQ
  have HGc := HGn
  have HBc := HBn
  have HRc := HRn
  clear HGn HBn HRn
  have c1 : w1.cell? ⟨g, 1, none⟩ = some (.int .i64 (p : Int)) := (HBc.out.c 1).trans rfl
  have fz := HBc.out.f
  go_upto_region 8 with fail
  obtain ⟨V, hV⟩ : ∃ V, V = w1.setCell ⟨g, 1, none⟩ (.int .i64 ((p : Int) + 1)) := ⟨_, rfl⟩
  rw [← hV]
  have HGV : Hid (w.grownBy V (some g)) := hide (by rw [hV]; exact gr_set HGc.out _ _)
  have HBV : Hid (Bk V g (spC ta l.length tc (p + 1) en (-1) false) 33) := hide (by
    have hz := HBc.out.set 1 (.int .i64 ((p : Int) + 1))
    simp only [spC, List.setIfInBounds_toArray, List.set_cons_zero, List.set_cons_succ] at hz
    rw [hV]; unfold spC; rw [show ((p + 1 : Nat) : Int) = (p : Int) + 1 by omega]; exact hz)
  have HRV : Hid (Bk V w.heap.size #[.int .i64 0, .int .i64 0, .string ⟨#[]⟩, .slice none 0 0] 36) := hide (by rw [hV]; exact HRc.out.other (by omega))
  have hwV : w.heap.size < V.heap.size := HRV.out.lt
  have HCV := hide (HC.out V (HE.out.grown HGV.out) HBV.out)
  clear hV c1 fz HGc HBc HRc HC
  go_wp2_with fail
  refine Calls.mono HCV.out ?_
  rintro e3 w3 ⟨⟨x, sa, sn, sc, rfl⟩, ⟨q', hb3⟩, hg3⟩
  obtain ⟨hk, hn, htx⟩ := x
  unfold l2v
  simp only
  have HG3 := hide (gr_trans HGV.out hg3)
  have HB3 := hide hb3
  have hr3 := HRV.out.grown hg3 (fun e => by simp at e; omega)
  have hlt3 : w.heap.size < w3.heap.size := Nat.lt_of_lt_of_le hwV hg3.size
  have hne3 : ¬ w.heap.size = w3.heap.size := by omega
  have rc := hr3.c
  have rf := hr3.f
  have HR3 := hide hr3
  clear hb3 hg3 hr3 HCV HGV HBV HRV
  go_wp2_with fail
  refine bodyPost_ret (v := l2v ⟨3, 0, ⟨#[]⟩⟩ (.slice (some ⟨w3.heap.size, 0, none⟩) 1 1)) (by simp [results, Tryd.results18, go_sem, l2v, *]) rfl ⟨⟨⟨3, 0, ⟨#[]⟩⟩, some ⟨w3.heap.size, 0, none⟩, 1, 1, rfl⟩, ⟨q', ?_⟩, ?_⟩
  · exact (HB3.out.set4 (by omega)).alloc
  · exact gr_alloc (gr_set4 HG3.out (Nat.le_refl _))

set_option maxRecDepth 20000 in
set_option maxHeartbeats 8000000 in
theorem one_not_bad (g : Nat) (ta : Option Addr) (tc en : Nat) (l : List T.Tk) (p d : Nat) (w : World) (hl : l.length ≤ 1000) (hd : d ≤ 100) (he : EnvS w g ta l) (hb : Bk w g (spC ta l.length tc p en (-1) false) 33) (hlt : p < l.length) (s33 : sqAt l p [33] = true) (q : Nat) (t : Bool) (hc : ∀ w', EnvS w' g ta l → Bk w' g (spC ta l.length tc (p + 1) en (-1) false) 33 → Calls Tryd.prog 18 #[.pointer (some ⟨g, 0, none⟩), .int .i64 ((d : Int) + 1)] w' (SO w' g ta tc en l (.bad q t))) :
    Calls Tryd.prog 18 #[.pointer (some ⟨g, 0, none⟩), .int .i64 (d : Int)] w (SO w g ta tc en l (.bad q t)) := by
  unfold SO at hc ⊢
  simp only at hc ⊢
  have HC := hide hc
  clear hc
  have hp : p ≤ l.length := by omega
  have s45 := sq_uniq (s' := [45]) s33 (by decide)
  have hgl := hb.lt
  have HB := hide hb
  have HE := hide he
  have hd' : ¬ (100 : Int) < (d : Int) := by omega
  have hd0 : (0 : Int) ≤ (d : Int) := by omega
  have hp0 : (0 : Int) ≤ (p : Int) := by omega
  clear hb he
  have c3 : w.cell? ⟨g, 3, none⟩ = some (.int .i64 (-1)) := (HB.out.c 3).trans rfl
  go_enter Tryd.func18, Tryd.ntmps18
  go_upto_region 6 with fail
  obtain ⟨W, hW⟩ : ∃ W, W = w.alloc (.cells #[.int .i64 0, .int .i64 0, .string ⟨#[]⟩, .slice none 0 0] 36) := ⟨_, rfl⟩
  have HGc : Hid (w.grownBy W (some g)) := hide (by rw [hW]; exact gr_alloc (gr_refl w _))
  have HBc : Hid (Bk W g (spC ta l.length tc p en (-1) false) 33) := hide (by rw [hW]; exact HB.out.alloc)
  have HRc : Hid (Bk W w.heap.size #[.int .i64 0, .int .i64 0, .string ⟨#[]⟩, .slice none 0 0] 36) := hide (by rw [hW]; exact heap_alloc_new w _)
  rw [← hW]
  clear hW c3 HB
  have hq := sign_new g ta tc l p en false ⟨#[45]⟩ _ hl hp HBc.out (HE.out.grown HGc.out).row
  rw [show (⟨#[45]⟩ : ByteArray).data.toList = [45] from rfl, s45] at hq
  have HQ := hide hq
  clear hq
  go_wp2_with fail
  refine Calls.mono HQ.out ?_
  rintro e w0 ⟨rfl, hbx⟩
  have HGn := hide (gr_trans HGc.out (gr_below (some g) hbx))
  have HBn := hide (HBc.out.below hbx)
  have HRn := hide (HRc.out.below hbx)
  clear hbx HGc HBc HRc HQ
  have HGc := HGn
  have HBc := HBn
  have HRc := HRn
  clear HGn HBn HRn
  have hq := sign_new g ta tc l p en false ⟨#[33]⟩ _ hl hp HBc.out (HE.out.grown HGc.out).row
  rw [show (⟨#[33]⟩ : ByteArray).data.toList = [33] from rfl, s33] at hq
  have HQ := hide hq
  clear hq
  go_wp2_with fail
  refine Calls.mono HQ.out ?_
  rintro e w1 ⟨rfl, hbx⟩
  have HGn := hide (gr_trans HGc.out (gr_below (some g) hbx))
  have HBn := hide (HBc.out.below hbx)
  have HRn := hide (HRc.out.below hbx)
  clear hbx HGc HBc HRc HQ
  have HGc := HGn
  have HBc := HBn
  have HRc := HRn
  clear HGn HBn HRn
  have c1 : w1.cell? ⟨g, 1, none⟩ = some (.int .i64 (p : Int)) := (HBc.out.c 1).trans rfl
  have fz := HBc.out.f
  go_upto_region 11 with fail
  obtain ⟨V, hV⟩ : ∃ V, V = w1.setCell ⟨g, 1, none⟩ (.int .i64 ((p : Int) + 1)) := ⟨_, rfl⟩
  rw [← hV]
  have HGV : Hid (w.grownBy V (some g)) := hide (by rw [hV]; exact gr_set HGc.out _ _)
  have HBV : Hid (Bk V g (spC ta l.length tc (p + 1) en (-1) false) 33) := hide (by
    have hz := HBc.out.set 1 (.int .i64 ((p : Int) + 1))
    simp only [spC, List.setIfInBounds_toArray, List.set_cons_zero, List.set_cons_succ] at hz
    rw [hV]; unfold spC; rw [show ((p + 1 : Nat) : Int) = (p : Int) + 1 by omega]; exact hz)
  have HRV : Hid (Bk V w.heap.size #[.int .i64 0, .int .i64 0, .string ⟨#[]⟩, .slice none 0 0] 36) := hide (by rw [hV]; exact HRc.out.other (by omega))
  have hwV : w.heap.size < V.heap.size := HRV.out.lt
  have HCV := hide (HC.out V (HE.out.grown HGV.out) HBV.out)
  clear hV c1 fz HGc HBc HRc HC
  go_wp2_with fail
  refine Calls.mono HCV.out ?_
  rintro e3 w3 ⟨⟨x, sa, sn, sc, rfl⟩, ⟨q', hb3⟩, hg3⟩
  obtain ⟨hk, hn, htx⟩ := x
  unfold l2v
  simp only
  have HG3 := hide (gr_trans HGV.out hg3)
  have HB3 := hide hb3
  have hr3 := HRV.out.grown hg3 (fun e => by simp at e; omega)
  have hlt3 : w.heap.size < w3.heap.size := Nat.lt_of_lt_of_le hwV hg3.size
  have hne3 : ¬ w.heap.size = w3.heap.size := by omega
  have rc := hr3.c
  have rf := hr3.f
  have HR3 := hide hr3
  clear hb3 hg3 hr3 HCV HGV HBV HRV
  go_wp2_with fail
  refine bodyPost_ret (v := l2v ⟨4, 0, ⟨#[]⟩⟩ (.slice (some ⟨w3.heap.size, 0, none⟩) 1 1)) (by simp [results, Tryd.results18, go_sem, l2v, *]) rfl ⟨⟨⟨4, 0, ⟨#[]⟩⟩, some ⟨w3.heap.size, 0, none⟩, 1, 1, rfl⟩, ⟨q', ?_⟩, ?_⟩
  · exact (HB3.out.set4 (by omega)).alloc
  · exact gr_alloc (gr_set4 HG3.out (Nat.le_refl _))

set_option maxRecDepth 20000 in
set_option maxHeartbeats 8000000 in
theorem one_minus (g : Nat) (ta : Option Addr) (tc en : Nat) (l : List T.Tk) (p d : Nat) (w : World) (hl : l.length ≤ 1000) (hd : d ≤ 100) (he : EnvS w g ta l) (hb : Bk w g (spC ta l.length tc p en (-1) false) 33) (hlt : p < l.length) (s45 : sqAt l p [45] = true) (E : E) (q : Nat) (hc : ∀ w', EnvS w' g ta l → Bk w' g (spC ta l.length tc (p + 1) en (-1) false) 33 → Calls Tryd.prog 18 #[.pointer (some ⟨g, 0, none⟩), .int .i64 ((d : Int) + 1)] w' (SO w' g ta tc en l (.ok E q))) :
    Calls Tryd.prog 18 #[.pointer (some ⟨g, 0, none⟩), .int .i64 (d : Int)] w (SO w g ta tc en l (.ok (.one ⟨3, 0, ⟨#[]⟩⟩ E) q)) := by
  unfold SO at hc ⊢
  simp only at hc ⊢
  have HC := hide hc
  clear hc
  have hp : p ≤ l.length := by omega
  have hgl := hb.lt
  have HB := hide hb
  have HE := hide he
  have hd' : ¬ (100 : Int) < (d : Int) := by omega
  have hd0 : (0 : Int) ≤ (d : Int) := by omega
  have hp0 : (0 : Int) ≤ (p : Int) := by omega
  clear hb he
  have c3 : w.cell? ⟨g, 3, none⟩ = some (.int .i64 (-1)) := (HB.out.c 3).trans rfl
  go_enter Tryd.func18, Tryd.ntmps18
  go_upto_region 6 with fail
  obtain ⟨W, hW⟩ : ∃ W, W = w.alloc (.cells #[.int .i64 0, .int .i64 0, .string ⟨#[]⟩, .slice none 0 0] 36) := ⟨_, rfl⟩
  have HGc : Hid (w.grownBy W (some g)) := hide (by rw [hW]; exact gr_alloc (gr_refl w _))
  have HBc : Hid (Bk W g (spC ta l.length tc p en (-1) false) 33) := hide (by rw [hW]; exact HB.out.alloc)
  have HRc : Hid (Bk W w.heap.size #[.int .i64 0, .int .i64 0, .string ⟨#[]⟩, .slice none 0 0] 36) := hide (by rw [hW]; exact heap_alloc_new w _)
  rw [← hW]
  clear hW c3 HB
  have hq := sign_new g ta tc l p en false ⟨#[45]⟩ _ hl hp HBc.out (HE.out.grown HGc.out).row
  rw [show (⟨#[45]⟩ : ByteArray).data.toList = [45] from rfl, s45] at hq
  have HQ := hide hq
  clear hq
  go_wp2_with fail
  refine Calls.mono HQ.out ?_
  rintro e w1 ⟨rfl, hbx⟩
  have HGn := hide (gr_trans HGc.out (gr_below (some g) hbx))
  have HBn := hide (HBc.out.below hbx)
  have HRn := hide (HRc.out.below hbx)
  clear hbx HGc HBc HRc HQ
  have HGc := HGn
  have HBc := HBn
  have HRc := HRn
  clear HGn HBn HRn
  have c1 : w1.cell? ⟨g, 1, none⟩ = some (.int .i64 (p : Int)) := (HBc.out.c 1).trans rfl
  have fz := HBc.out.f
  go_upto_region 8 with fail
  obtain ⟨V, hV⟩ : ∃ V, V = w1.setCell ⟨g, 1, none⟩ (.int .i64 ((p : Int) + 1)) := ⟨_, rfl⟩
  rw [← hV]
  have HGV : Hid (w.grownBy V (some g)) := hide (by rw [hV]; exact gr_set HGc.out _ _)
  have HBV : Hid (Bk V g (spC ta l.length tc (p + 1) en (-1) false) 33) := hide (by
    have hz := HBc.out.set 1 (.int .i64 ((p : Int) + 1))
    simp only [spC, List.setIfInBounds_toArray, List.set_cons_zero, List.set_cons_succ] at hz
    rw [hV]; unfold spC; rw [show ((p + 1 : Nat) : Int) = (p : Int) + 1 by omega]; exact hz)
  have HRV : Hid (Bk V w.heap.size #[.int .i64 0, .int .i64 0, .string ⟨#[]⟩, .slice none 0 0] 36) := hide (by rw [hV]; exact HRc.out.other (by omega))
  have hwV : w.heap.size < V.heap.size := HRV.out.lt
  have HCV := hide (HC.out V (HE.out.grown HGV.out) HBV.out)
  clear hV c1 fz HGc HBc HRc HC
  go_wp2_with fail
  refine Calls.mono HCV.out ?_
  rintro e3 w3 ⟨⟨s, rfl, ht⟩, hb3, hg3⟩
  obtain ⟨sa, sn, sc, rfl⟩ := ht.form
  obtain ⟨H, hH⟩ : ∃ H, H = E.head := ⟨_, rfl⟩
  rw [← hH]
  have HH := hide hH
  obtain ⟨hk, hn, htx⟩ := H
  unfold l2v
  simp only
  have HT := hide ht
  have HG3 := hide (gr_trans HGV.out hg3)
  have HB3 := hide hb3
  have hr3 := HRV.out.grown hg3 (fun e => by simp at e; omega)
  have hlt3 : w.heap.size < w3.heap.size := Nat.lt_of_lt_of_le hwV hg3.size
  have hne3 : ¬ w.heap.size = w3.heap.size := by omega
  have rc := hr3.c
  have rf := hr3.f
  have HR3 := hide hr3
  clear hH ht hb3 hg3 hr3 HCV HGV HBV HRV
  go_wp2_with fail
  refine bodyPost_ret (v := l2v ⟨3, 0, ⟨#[]⟩⟩ (.slice (some ⟨w3.heap.size, 0, none⟩) 1 1)) (by simp [results, Tryd.results18, go_sem, l2v, *]) rfl ⟨⟨_, rfl, ?_⟩, ?_, ?_⟩
  · have h1 := tree_one (a := .int .i64 3) (b := .int .i64 0) (c := .string ⟨#[]⟩) (d := .slice (some ⟨w3.heap.size, 0, none⟩) 1 1) ⟨3, 0, ⟨#[]⟩⟩ HT.out hwV hlt3
    rw [← HH.out] at h1
    exact h1
  · exact (HB3.out.set4 (by omega)).alloc
  · exact gr_alloc (gr_set4 HG3.out (Nat.le_refl _))

set_option maxRecDepth 20000 in
set_option maxHeartbeats 8000000 in
theorem one_not (g : Nat) (ta : Option Addr) (tc en : Nat) (l : List T.Tk) (p d : Nat) (w : World) (hl : l.length ≤ 1000) (hd : d ≤ 100) (he : EnvS w g ta l) (hb : Bk w g (spC ta l.length tc p en (-1) false) 33) (hlt : p < l.length) (s33 : sqAt l p [33] = true) (E : E) (q : Nat) (hc : ∀ w', EnvS w' g ta l → Bk w' g (spC ta l.length tc (p + 1) en (-1) false) 33 → Calls Tryd.prog 18 #[.pointer (some ⟨g, 0, none⟩), .int .i64 ((d : Int) + 1)] w' (SO w' g ta tc en l (.ok E q))) :
    Calls Tryd.prog 18 #[.pointer (some ⟨g, 0, none⟩), .int .i64 (d : Int)] w (SO w g ta tc en l (.ok (.one ⟨4, 0, ⟨#[]⟩⟩ E) q)) := by
  unfold SO at hc ⊢
  simp only at hc ⊢
  have HC := hide hc
  clear hc
  have hp : p ≤ l.length := by omega
  have s45 := sq_uniq (s' := [45]) s33 (by decide)
  have hgl := hb.lt
  have HB := hide hb
  have HE := hide he
  have hd' : ¬ (100 : Int) < (d : Int) := by omega
  have hd0 : (0 : Int) ≤ (d : Int) := by omega
  have hp0 : (0 : Int) ≤ (p : Int) := by omega
  clear hb he
  have c3 : w.cell? ⟨g, 3, none⟩ = some (.int .i64 (-1)) := (HB.out.c 3).trans rfl
  go_enter Tryd.func18, Tryd.ntmps18
  go_upto_region 6 with fail
  obtain ⟨W, hW⟩ : ∃ W, W = w.alloc (.cells #[.int .i64 0, .int .i64 0, .string ⟨#[]⟩, .slice none 0 0] 36) := ⟨_, rfl⟩
  have HGc : Hid (w.grownBy W (some g)) := hide (by rw [hW]; exact gr_alloc (gr_refl w _))
  have HBc : Hid (Bk W g (spC ta l.length tc p en (-1) false) 33) := hide (by rw [hW]; exact HB.out.alloc)
  have HRc : Hid (Bk W w.heap.size #[.int .i64 0, .int .i64 0, .string ⟨#[]⟩, .slice none 0 0] 36) := hide (by rw [hW]; exact heap_alloc_new w _)
  rw [← hW]
  clear hW c3 HB
  have hq := sign_new g ta tc l p en false ⟨#[45]⟩ _ hl hp HBc.out (HE.out.grown HGc.out).row
  rw [show (⟨#[45]⟩ : ByteArray).data.toList = [45] from rfl, s45] at hq
  have HQ := hide hq
  clear hq
  go_wp2_with fail
  refine Calls.mono HQ.out ?_
  rintro e w0 ⟨rfl, hbx⟩
  have HGn := hide (gr_trans HGc.out (gr_below (some g) hbx))
  have HBn := hide (HBc.out.below hbx)
  have HRn := hide (HRc.out.below hbx)
  clear hbx HGc HBc HRc HQ
  have HGc := HGn
  have HBc := HBn
  have HRc := HRn
  clear HGn HBn HRn
  have hq := sign_new g ta tc l p en false ⟨#[33]⟩ _ hl hp HBc.out (HE.out.grown HGc.out).row
  rw [show (⟨#[33]⟩ : ByteArray).data.toList = [33] from rfl, s33] at hq
  have HQ := hide hq
  clear hq
  go_wp2_with fail
  refine Calls.mono HQ.out ?_
  rintro e w1 ⟨rfl, hbx⟩
  have HGn := hide (gr_trans HGc.out (gr_below (some g) hbx))
  have HBn := hide (HBc.out.below hbx)
  have HRn := hide (HRc.out.below hbx)
  clear hbx HGc HBc HRc HQ
  have HGc := HGn
  have HBc := HBn
  have HRc := HRn
  clear HGn HBn HRn
  have c1 : w1.cell? ⟨g, 1, none⟩ = some (.int .i64 (p : Int)) := (HBc.out.c 1).trans rfl
  have fz := HBc.out.f
  go_upto_region 11 with fail
  obtain ⟨V, hV⟩ : ∃ V, V = w1.setCell ⟨g, 1, none⟩ (.int .i64 ((p : Int) + 1)) := ⟨_, rfl⟩
  rw [← hV]
  have HGV : Hid (w.grownBy V (some g)) := hide (by rw [hV]; exact gr_set HGc.out _ _)
  have HBV : Hid (Bk V g (spC ta l.length tc (p + 1) en (-1) false) 33) := hide (by
    have hz := HBc.out.set 1 (.int .i64 ((p : Int) + 1))
    simp only [spC, List.setIfInBounds_toArray, List.set_cons_zero, List.set_cons_succ] at hz
    rw [hV]; unfold spC; rw [show ((p + 1 : Nat) : Int) = (p : Int) + 1 by omega]; exact hz)
  have HRV : Hid (Bk V w.heap.size #[.int .i64 0, .int .i64 0, .string ⟨#[]⟩, .slice none 0 0] 36) := hide (by rw [hV]; exact HRc.out.other (by omega))
  have hwV : w.heap.size < V.heap.size := HRV.out.lt
  have HCV := hide (HC.out V (HE.out.grown HGV.out) HBV.out)
  clear hV c1 fz HGc HBc HRc HC
  go_wp2_with fail
  refine Calls.mono HCV.out ?_
  rintro e3 w3 ⟨⟨s, rfl, ht⟩, hb3, hg3⟩
  obtain ⟨sa, sn, sc, rfl⟩ := ht.form
  obtain ⟨H, hH⟩ : ∃ H, H = E.head := ⟨_, rfl⟩
  rw [← hH]
  have HH := hide hH
  obtain ⟨hk, hn, htx⟩ := H
  unfold l2v
  simp only
  have HT := hide ht
  have HG3 := hide (gr_trans HGV.out hg3)
  have HB3 := hide hb3
  have hr3 := HRV.out.grown hg3 (fun e => by simp at e; omega)
  have hlt3 : w.heap.size < w3.heap.size := Nat.lt_of_lt_of_le hwV hg3.size
  have hne3 : ¬ w.heap.size = w3.heap.size := by omega
  have rc := hr3.c
  have rf := hr3.f
  have HR3 := hide hr3
  clear hH ht hb3 hg3 hr3 HCV HGV HBV HRV
  go_wp2_with fail
  refine bodyPost_ret (v := l2v ⟨4, 0, ⟨#[]⟩⟩ (.slice (some ⟨w3.heap.size, 0, none⟩) 1 1)) (by simp [results, Tryd.results18, go_sem, l2v, *]) rfl ⟨⟨_, rfl, ?_⟩, ?_, ?_⟩
  · have h1 := tree_one (a := .int .i64 4) (b := .int .i64 0) (c := .string ⟨#[]⟩) (d := .slice (some ⟨w3.heap.size, 0, none⟩) 1 1) ⟨4, 0, ⟨#[]⟩⟩ HT.out hwV hlt3
    rw [← HH.out] at h1
    exact h1
  · exact (HB3.out.set4 (by omega)).alloc
  · exact gr_alloc (gr_set4 HG3.out (Nat.le_refl _))

end Go.Proofs.YtmnicilgenpnfaaDoor.W

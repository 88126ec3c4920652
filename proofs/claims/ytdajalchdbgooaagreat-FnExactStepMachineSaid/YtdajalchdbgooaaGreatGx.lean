/-
  Some texts of this proof in one: MaX3, MaX4.
-/
import Derived.Test.YtdajalchdbgooaaGreatGt
import Derived.Deep.RegionHeld3
import Derived.Deep.RegionLaw
import Derived.Deep.AppendLies
import Derived.Deep.CutRange
import Derived.Test.YtdajalchdbgooaaGreatGq
/-
  A contract of l6Bind. Conditions: at most 500 bindings.
-/
namespace Go.Proofs.YtdajalchdbgooaaGreat.W
open Go.ChangeShapes Go.WideShapes Go.ChangeAt Go.RowKit
set_option linter.unusedVariables false
set_option linter.unusedSimpArgs false

/-- A binding more, and the part that is next. -/
def bindN (m : Mc) (v up p : Int) : Mc ⊕ Int := if 500 ≤ m.bs.length then .inr 5 else .inl (nextM { m with bs := m.bs ++ [⟨v, up⟩] } p m.bs.length)
theorem bindM_N (m : Mc) (up p : Int) : bindM m up p = bindN { m with fs := m.fs.dropLast } m.val up p := rfl
set_option maxRecDepth 20000 in
set_option maxHeartbeats 2000000 in
theorem l6Bind_any (lo : Nat) (v : Value) (m : Mc) (y up q : Int) (w : World) (h : SM w lo v m) (hn : m.bs.length ≤ 500) (hlo : lo ≤ w.heap.size) :
    Calls Tryz.prog 76 #[v, .int .i64 y, .int .i64 up, .int .i64 q] w fun r w' => ∃ v', r = .returned (.tuple #[v', .bool (isL (bindN m y up q))]) ∧ SM w' lo v' (mcOf' m (bindN m y up q)) ∧ Below lo w w' ∧ ∀ (b : Nat) (cs : Array Value) (T : TypeId), T ≠ 85 → Bx w b cs T → Bx w' b cs T := by
  obtain ⟨af, cf, av, cv, ab, cb, rfl, h1, h2, h3⟩ := h
  obtain ⟨d, p, e, x, fs, vs, bs⟩ := m
  simp only at h1 h2 h3 hn ⊢
  have hX := (Bx.new w #[.bool d, .int .i64 p, .int .i64 e, .int .i64 x, .slice af fs.length cf, .slice av vs.length cv, .slice ab bs.length cb] 34).alloc (.cells #[.bool false, .int .i64 0, .int .i64 0, .int .i64 0, .slice none 0 0, .slice none 0 0, .slice none 0 0] 34)
  have hY := Bx.new (w.alloc (.cells #[.bool d, .int .i64 p, .int .i64 e, .int .i64 x, .slice af fs.length cf, .slice av vs.length cv, .slice ab bs.length cb] 34)) #[.bool false, .int .i64 0, .int .i64 0, .int .i64 0, .slice none 0 0, .slice none 0 0, .slice none 0 0] 34
  simp only [World.size_alloc] at hY
  have hB0 : Below w.heap.size w ((w.alloc (.cells #[.bool d, .int .i64 p, .int .i64 e, .int .i64 x, .slice af fs.length cf, .slice av vs.length cv, .slice ab bs.length cb] 34)).alloc (.cells #[.bool false, .int .i64 0, .int .i64 0, .int .i64 0, .slice none 0 0, .slice none 0 0, .slice none 0 0] 34)) := ((Below.refl _ _).alloc (Nat.le_refl _) _).alloc (by simp) _
  have H1 := hide (own_keep h1 (fun k _ hk => hB0.block k hk))
  have H2 := hide (own_keep h2 (fun k _ hk => hB0.block k hk))
  have H3 := hide (own_keep h3 (fun k _ hk => hB0.block k hk))
  have HL3 : Hid (∀ k, (Value.slice ab bs.length cb).ownBlock = some k → lo ≤ k ∧ k < w.heap.size) := hide h3.lt
  obtain ⟨i2, hi2, z0, z1, z2⟩ := infoPartsT infoBd
  have HI2 := hide hi2
  go_enter Tryz.func76, Tryz.ntmps76
  go_upto_region 1 with fail
  obtain ⟨w0, hw0⟩ : ∃ w0, w0 = (w.alloc (.cells #[.bool d, .int .i64 p, .int .i64 e, .int .i64 x, .slice af fs.length cf, .slice av vs.length cv, .slice ab bs.length cb] 34)).alloc (.cells #[.bool false, .int .i64 0, .int .i64 0, .int .i64 0, .slice none 0 0, .slice none 0 0, .slice none 0 0] 34) := ⟨_, rfl⟩
  rw [← hw0] at hX hY hB0 H1 H2 H3 ⊢
  clear hw0 h1 h2 h3 hi2
  have HX := hide hX
  have HY := hide hY
  have hyl := hY.lt
  have cx := hX.c
  have fx := hX.f
  have cy := hY.c
  have fy := hY.f
  have hz0 : lo ≤ w0.heap.size := by omega
  by_cases hf : bs.length = 500
  · have hnm : bindN ⟨d, p, e, x, fs, vs, bs⟩ y up q = .inr 5 := by unfold bindN; rw [if_pos (by simp only; omega)]
    have hf' : ((bs.length : Nat) : Int) = 500 := by omega
    clear hX hY
    go_wp2_with fail
    refine bodyPost_ret (v := .tuple #[.agg #[.bool d, .int .i64 p, .int .i64 e, .int .i64 x, .slice af fs.length cf, .slice av vs.length cv, .slice ab bs.length cb], .bool false]) (by simp [results, Tryz.results76, go_sem, cy, hf]) rfl ⟨_, by rw [hnm]; rfl, ?_, ?_, fun bb cs TT hTT hbx => (((((((hbx.below hB0 hbx.lt).setne (w.heap.size + 1) 0 _ (by have := hbx.lt; omega)).setne (w.heap.size + 1) 1 _ (by have := hbx.lt; omega)).setne (w.heap.size + 1) 2 _ (by have := hbx.lt; omega)).setne (w.heap.size + 1) 3 _ (by have := hbx.lt; omega)).setne (w.heap.size + 1) 4 _ (by have := hbx.lt; omega)).setne (w.heap.size + 1) 5 _ (by have := hbx.lt; omega)).setne (w.heap.size + 1) 6 _ (by have := hbx.lt; omega)⟩
    · rw [hnm]
      have q0 : Kp w0 (w.heap.size + 1) lo (.slice af fs.length cf) (.slice av vs.length cv) (.slice ab bs.length cb) fs vs bs := ⟨⟨_, HY.out⟩, H1.out, H2.out, H3.out⟩
      exact (((((((q0.set 0 _).set 1 _).set 2 _).set 3 _).set 4 _).set 5 _).set 6 _).sm d p e x
    · exact bsc (bsc (bsc (bsc (bsc (bsc (bsc (hB0.mono hlo) _ _ _ (by omega)) _ _ _ (by omega)) _ _ _ (by omega)) _ _ _ (by omega)) _ _ _ (by omega)) _ _ _ (by omega)) _ _ _ (by omega)
  · have hf' : ¬ ((bs.length : Nat) : Int) = 500 := by omega
    have hnm : bindN ⟨d, p, e, x, fs, vs, bs⟩ y up q = .inl ⟨false, q, (bs.length : Int), -1, fs, vs, bs ++ [⟨y, up⟩]⟩ := by unfold bindN; rw [if_neg (by simp only; omega)]; rfl
    have HNm := hide hnm
    have cxa := (hX.alloc (.cells #[.int .i64 y, .int .i64 up] 85)).c
    have M1 : Hid (bs.length + 1 ≤ maxLen) := hide (by unfold maxLen; omega)
    have HO1 : Hid (∀ u ∈ [Value.int .i64 y, .int .i64 up], u.oneCell' = true) := hide (by intro u hu; simp only [List.mem_cons, List.not_mem_nil, or_false] at hu; rcases hu with rfl | rfl <;> rfl)
    clear hX hY hnm
    go_upto_region 3 with fail
    go_wp2_with (at_builtin; refine wpList_append_sep rfl _ _ 32 rfl lo 85 i2 _ 2 16 Tryz.underlying32 HI2.out z0 z1 z2 rfl (by decide) _ bs.length _ rfl (H3.out.alloc _) ⟨w0.heap.size, 0, none⟩ 1 1 [.int .i64 y, .int .i64 up] rfl rfl (news2 (heap_alloc_new w0 _)) HO1.out M1.out (by omega) (by simp; omega) ?_)
    intro s1 w1 ho1 hg1 hap1
    clear hap1
    have hb1 : ∀ k, k < w0.heap.size → some k ≠ (Value.slice ab bs.length cb).ownBlock → w1.heap[k]? = w0.heap[k]? := fun k hk hne => (hg1.block k (by simp; omega) hne).trans (Below.heap_alloc _ _ _ hk)
    have HX1 : Hid (Bx w1 w.heap.size _ _) := hide ((hb1 _ (by omega) (fun e' => by have := HL3.out _ e'.symm; omega)).trans HX.out)
    have HY1 : Hid (Bx w1 (w.heap.size + 1) _ _) := hide ((hb1 _ hyl (fun e' => by have := HL3.out _ e'.symm; omega)).trans HY.out)
    have d1 := own_apart H1.out H3.out (by decide)
    have d2 := own_apart H2.out H3.out (by decide)
    have HF1 := hide (own_same (w' := w1) H1.out (fun k hk _ hl => hb1 k hl (fun e' => d1 k hk e'.symm)))
    have HV1 := hide (own_same (w' := w1) H2.out (fun k hk _ hl => hb1 k hl (fun e' => d2 k hk e'.symm)))
    have hB1 : Below lo w w1 := Below.grown ((hB0.mono hlo).alloc hz0 _) hg1 (by simp; omega) (fun k hk => (HL3.out k hk).1)
    have HK1 : Hid (∀ (b : Nat) (cs : Array Value) (T : TypeId), T ≠ 85 → Bx w b cs T → Bx w1 b cs T) := hide (fun bb cs TT hTT hbx => (hb1 bb (by have := hbx.lt; omega) (fun e' => own_bx (hbx.below hB0 hbx.lt) H3.out hTT e'.symm)).trans (hbx.below hB0 hbx.lt))
    have HO1' := hide ho1
    obtain ⟨a1, k1, rfl⟩ := own_form ho1
    have hs1 : w.heap.size + 1 < w1.heap.size := HY1.out.lt
    clear ho1 hg1 hb1 cx fx cy fy cxa d1 d2 HX HY H1 H2 H3 HO1 M1
    have cx := HX1.out.c
    have fx := HX1.out.f
    go_upto_region 4 with fail
    have HX2 := hide (HX1.out.set 6 (.slice a1 (bs.length + 1) k1))
    have HY2 := hide (HY1.out.setne w.heap.size 6 (.slice a1 (bs.length + 1) k1) (by omega))
    have hB2 := bsc hB1 w.heap.size 6 (.slice a1 (bs.length + 1) k1) hlo
    have HF2 := hide (own_set HX1.out HF1.out (by decide) 6 (.slice a1 (bs.length + 1) k1))
    have HV2 := hide (own_set HX1.out HV1.out (by decide) 6 (.slice a1 (bs.length + 1) k1))
    have HB2 := hide (own_set HX1.out HO1'.out (by decide) 6 (.slice a1 (bs.length + 1) k1))
    have HK2 : Hid (∀ (b : Nat) (cs : Array Value) (T : TypeId), T ≠ 85 → Bx w b cs T → Bx (w1.setCell ⟨w.heap.size, 6, none⟩ (.slice a1 (bs.length + 1) k1)) b cs T) := hide (fun bb cs TT hTT hbx => (HK1.out bb cs TT hTT hbx).setne _ _ _ (by have := hbx.lt; omega))
    obtain ⟨w2, hw2⟩ : ∃ w2, w2 = w1.setCell ⟨w.heap.size, 6, none⟩ (.slice a1 (bs.length + 1) k1) := ⟨_, rfl⟩
    rw [← hw2] at HX2 HY2 hB2 HF2 HV2 HB2 HK2 ⊢
    clear hw2 cx fx HX1 HY1 HF1 HV1 HO1' hB1
    have cx2 := HX2.out.c
    have hvn : IntKind.i64.wrap (((bs.length + 1 : Nat) : Int) - 1) = ((bs.length : Nat) : Int) := by rw [show ((bs.length + 1 : Nat) : Int) - 1 = ((bs.length : Nat) : Int) by omega]; exact IntWalk.i64_in _ ⟨by omega, by omega⟩
    go_wp2_with fail
    refine (l6Next_any _ _ _ _ _ _ _ _ _ _ _ _ _ _ _ _).mono ?_
    rintro r w3 ⟨rfl, hb3⟩
    have HY3 := hide (HY2.out.below hb3 HY2.out.lt)
    have HF3 := hide (own_keep HF2.out (fun k _ hk => hb3.block k hk))
    have HV3 := hide (own_keep HV2.out (fun k _ hk => hb3.block k hk))
    have HB3 := hide (own_keep HB2.out (fun k _ hk => hb3.block k hk))
    have hB3 : Below lo w w3 := hB2.trans (hb3.mono (Nat.le_trans hlo hB2.size))
    have HK3 : Hid (∀ (b : Nat) (cs : Array Value) (T : TypeId), T ≠ 85 → Bx w b cs T → Bx w3 b cs T) := hide (fun bb cs TT hTT hbx => (HK2.out bb cs TT hTT hbx).below hb3 (HK2.out bb cs TT hTT hbx).lt)
    have cy3 := HY3.out.c
    have fy3 := HY3.out.f
    clear hb3 cx2 HX2 HY2 HF2 HV2 HB2
    go_wp2_with fail
    refine bodyPost_ret (v := .tuple #[.agg #[.bool false, .int .i64 q, .int .i64 (bs.length : Int), .int .i64 (-1), .slice af fs.length cf, .slice av vs.length cv, .slice a1 (bs.length + 1) k1], .bool true]) (by simp [results, Tryz.results76, go_sem, cy3]) rfl ⟨_, by rw [HNm.out]; rfl, ?_, ?_, fun bb cs TT hTT hbx => (((((((HK3.out bb cs TT hTT hbx).setne (w.heap.size + 1) 0 _ (by have := hbx.lt; omega)).setne (w.heap.size + 1) 1 _ (by have := hbx.lt; omega)).setne (w.heap.size + 1) 2 _ (by have := hbx.lt; omega)).setne (w.heap.size + 1) 3 _ (by have := hbx.lt; omega)).setne (w.heap.size + 1) 4 _ (by have := hbx.lt; omega)).setne (w.heap.size + 1) 5 _ (by have := hbx.lt; omega)).setne (w.heap.size + 1) 6 _ (by have := hbx.lt; omega)⟩
    · rw [HNm.out]
      have e1 : (bs ++ [(⟨y, up⟩ : Bd)]).length = bs.length + 1 := by simp
      have hv3 := HB3.out
      rw [show rcells 2 Bd.c bs ++ [.int .i64 y, .int .i64 up] = rcells 2 Bd.c (bs ++ [⟨y, up⟩]) from by rw [lies_v]; rfl, ← e1] at hv3
      have q0 : Kp w3 (w.heap.size + 1) lo (.slice af fs.length cf) (.slice av vs.length cv) (.slice a1 (bs ++ [(⟨y, up⟩ : Bd)]).length k1) fs vs (bs ++ [⟨y, up⟩]) := ⟨⟨_, HY3.out⟩, HF3.out, HV3.out, hv3⟩
      have := (((((((q0.set 0 (.bool false)).set 1 (.int .i64 q)).set 2 (.int .i64 (bs.length : Int))).set 3 (.int .i64 (-1))).set 4 (.slice af fs.length cf)).set 5 (.slice av vs.length cv)).set 6 (.slice a1 (bs.length + 1) k1)).sm false q (bs.length : Int) (-1)
      simp only [e1] at this
      exact this
    · exact bsc (bsc (bsc (bsc (bsc (bsc (bsc hB3 _ _ _ (by omega)) _ _ _ (by omega)) _ _ _ (by omega)) _ _ _ (by omega)) _ _ _ (by omega)) _ _ _ (by omega)) _ _ _ (by omega)
end Go.Proofs.YtdajalchdbgooaaGreat.W

/-
  Contracts of l6Do. Conditions: good machines of closed terms.
-/
namespace Go.Proofs.YtdajalchdbgooaaGreat.W
open Go.ChangeShapes Go.WideShapes Go.ChangeAt Go.RowKit
set_option linter.unusedVariables false
set_option linter.unusedSimpArgs false

/-- The code and its term stay, whatever becomes of blocks from lo on. -/
structure SR (w : World) (lo cb : Nat) (ad : Option Addr) (c : Nat) (l : List Cc) (a : F) : Prop where
  base : ∃ w00 : World, CD w00 cb (.slice ad l.length c) l.length a ∧ CRow w00 ad l ∧ w00.heap.size ≤ lo ∧ Below w00.heap.size w00 w
  le : lo ≤ w.heap.size
  lt : cb < lo
theorem SR.below {w w' : World} {lo cb : Nat} {ad : Option Addr} {c : Nat} {l : List Cc} {a : F} (h : SR w lo cb ad c l a) (hb : Below lo w w') : SR w' lo cb ad c l a := by
  obtain ⟨w00, h1, h2, h3, h4⟩ := h.base
  exact ⟨⟨w00, h1, h2, h3, h4.trans (hb.mono h3)⟩, Nat.le_trans h.le hb.size, h.lt⟩
theorem SR.cd {w : World} {lo cb : Nat} {ad : Option Addr} {c : Nat} {l : List Cc} {a : F} (h : SR w lo cb ad c l a) : ∀ w', Below lo w w' → CD w' cb (.slice ad l.length c) l.length a := fun w' hb => by
  obtain ⟨w00, h1, h2, h3, h4⟩ := h.base
  exact h1.below (h4.trans (hb.mono h3))
theorem SR.row {w : World} {lo cb : Nat} {ad : Option Addr} {c : Nat} {l : List Cc} {a : F} (h : SR w lo cb ad c l a) : ∀ w', Below lo w w' → CRow w' ad l := fun w' hb => by
  obtain ⟨w00, h1, h2, h3, h4⟩ := h.base
  exact h2.below (h4.trans (hb.mono h3))
/-- The kids of a place, as they lie. -/
theorem SR.kids {w : World} {lo cb : Nat} {ad : Option Addr} {c : Nat} {l : List Cc} {a : F} (h : SR w lo cb ad c l a) {p : Nat} (hp : p < l.length) (hn : 0 < (tK (ndT a) p).length) :
    ∃ kb g kc, kb < lo ∧ g < lo ∧ w.cell? ⟨cb, 1, none⟩ = some (.slice (some ⟨kb, 0, none⟩) l.length l.length) ∧ w.cell? ⟨kb, p, none⟩ = some (.slice (some ⟨g, 0, none⟩) (tK (ndT a) p).length kc) ∧ ∀ i (h : i < (tK (ndT a) p).length), w.cell? ⟨g, i, none⟩ = some (.int .i64 (tK (ndT a) p)[i]) := by
  obtain ⟨w00, h1, h2, h3, h4⟩ := h.base
  obtain ⟨kb, vb, k1, k2, k3, k4, k5⟩ := h1.ex
  obtain ⟨s, s1, s2⟩ := k5 p hp
  rcases s2 with ⟨e1, e2⟩ | ⟨g, kc, e1, e2, e3, e4⟩
  · rw [e2] at hn; simp at hn
  · subst e1
    exact ⟨kb, g, kc, by omega, by omega, (h4.cell (p := ⟨cb, 1, none⟩) k1.lt).trans (k1.c 1), (h4.cell (p := ⟨kb, p, none⟩) k2).trans s1, fun i hi => (h4.cell (p := ⟨g, i, none⟩) e3).trans (e4 i hi)⟩

set_option maxRecDepth 20000 in
set_option maxHeartbeats 4000000 in
theorem l6Do_num (lo cb0 : Nat) (ad : Option Addr) (c : Nat) (l : List Cc) (a : F) (v : Value) (m : Mc) (w : World) (hCl : Cl l a) (h : SM w lo v m) (hS : SR w lo cb0 ad c l a) (hG : GM a l m) (hd : m.done = false) (x : Cc) (hxx : l[m.pl.toNat]? = some x) (k2h : Hid (x.k = 2)) :
    Calls Tryz.prog 47 #[.pointer (some ⟨cb0, 0, none⟩), v] w fun r w' => ∃ v', r = .returned (.tuple #[v', .bool (isL (newM m ⟨false, x.n, 0, 0⟩))]) ∧ SM w' lo v' (mcOf' m (newM m ⟨false, x.n, 0, 0⟩)) ∧ Below lo w w' ∧ ∀ (b : Nat) (cs : Array Value) (T : TypeId), T ≠ 93 → T ≠ 88 → T ≠ 85 → Bx w b cs T → Bx w' b cs T := by
  have hlo := hS.le
  obtain ⟨n1, n2⟩ := nOk_not hG.now hd
  obtain ⟨q1, q2, q3⟩ := pOk_iff.1 n2
  obtain ⟨x', d0, k, x1, x2, x3, x4, x5, x6, x7⟩ := hCl.part q1
  obtain rfl : x = x' := by rw [x2] at hxx; simpa using hxx.symm
  obtain ⟨p, hp⟩ := Int.eq_ofNat_of_zero_le q1.1
  have hp' : m.pl.toNat = p := by rw [hp]; rfl
  rw [hp'] at x1 x2 x3
  have hpl : p < l.length := by have := q1.2; omega
  have hlx : l[p] = x := by rw [List.getElem?_eq_getElem hpl] at x2; simpa using x2
  have hnv := hG.nv
  have hnb := hG.nb
  have hnf := hG.nf
  have hl6 := hCl.le
  have HBs := hide hG.bs
  have HQ2 := hide q2
  have HQ3 : Hid ((bw m.bs m.env).1 = (d0 : Int)) := hide (by rw [q3, hp']; exact x3)
  have HX1 := hide x1
  have HCl := hide hCl
  obtain ⟨af, cf, av, cv, ab, cb, rfl, h1, h2, h3⟩ := h
  obtain ⟨dn, pl, e, vl, fs, vs, bs⟩ := m
  simp only at h1 h2 h3 hd hp n1 hnv hnb hnf HBs HQ2 HQ3 ⊢
  subst hd hp n1
  have hX := (Bx.new w #[.bool false, .int .i64 (p : Int), .int .i64 e, .int .i64 (-1), .slice af fs.length cf, .slice av vs.length cv, .slice ab bs.length cb] 34).alloc (.cells #[.bool false, .int .i64 0, .int .i64 0, .int .i64 0, .slice none 0 0, .slice none 0 0, .slice none 0 0] 34)
  have hY := Bx.new (w.alloc (.cells #[.bool false, .int .i64 (p : Int), .int .i64 e, .int .i64 (-1), .slice af fs.length cf, .slice av vs.length cv, .slice ab bs.length cb] 34)) #[.bool false, .int .i64 0, .int .i64 0, .int .i64 0, .slice none 0 0, .slice none 0 0, .slice none 0 0] 34
  simp only [World.size_alloc] at hY
  have hB0 : Below w.heap.size w ((w.alloc (.cells #[.bool false, .int .i64 (p : Int), .int .i64 e, .int .i64 (-1), .slice af fs.length cf, .slice av vs.length cv, .slice ab bs.length cb] 34)).alloc (.cells #[.bool false, .int .i64 0, .int .i64 0, .int .i64 0, .slice none 0 0, .slice none 0 0, .slice none 0 0] 34)) := ((Below.refl _ _).alloc (Nat.le_refl _) _).alloc (by simp) _
  have H1 := hide (own_keep h1 (fun k _ hk => hB0.block k hk))
  have H2 := hide (own_keep h2 (fun k _ hk => hB0.block k hk))
  have H3 := hide (own_keep h3 (fun k _ hk => hB0.block k hk))
  have HS := hide (hS.below (hB0.mono hlo))
  have hcl := hS.lt
  clear hxx x2 x4 q1 q2 q3 n2 hp' hG hS hCl
  have HN0 := hide (fun (w' : World) (V : Value) (hb : SM w' lo V ⟨false, (p : Int), e, -1, fs, vs, bs⟩) (hz : lo ≤ w'.heap.size) => l6New_any lo V ⟨false, (p : Int), e, -1, fs, vs, bs⟩ ⟨false, x.n, 0, 0⟩ w' hb hnv hz)
  obtain ⟨NM, hNM⟩ : ∃ NM, NM = newM ⟨false, (p : Int), e, -1, fs, vs, bs⟩ ⟨false, x.n, 0, 0⟩ := ⟨_, rfl⟩
  simp only [← hNM] at HN0 ⊢
  obtain ⟨M, hM⟩ : ∃ M, M = mcOf' ⟨false, (p : Int), e, -1, fs, vs, bs⟩ NM := ⟨_, rfl⟩
  simp only [← hM] at HN0 ⊢
  obtain ⟨R, hR⟩ : ∃ R, R = isL NM := ⟨_, rfl⟩
  simp only [← hR] at HN0 ⊢
  clear hNM hM hR
  go_enter Tryz.func47, Tryz.ntmps47
  go_upto_region 1 with fail
  obtain ⟨w0, hw0⟩ : ∃ w0, w0 = (w.alloc (.cells #[.bool false, .int .i64 (p : Int), .int .i64 e, .int .i64 (-1), .slice af fs.length cf, .slice av vs.length cv, .slice ab bs.length cb] 34)).alloc (.cells #[.bool false, .int .i64 0, .int .i64 0, .int .i64 0, .slice none 0 0, .slice none 0 0, .slice none 0 0] 34) := ⟨_, rfl⟩
  rw [← hw0] at hX hY hB0 H1 H2 H3 HS ⊢
  clear hw0 h1 h2 h3
  have hz0 : lo ≤ w0.heap.size := Nat.le_trans hlo hB0.size
  have hyl := hY.lt
  obtain ⟨kb, vb, k1, k2, k3, k4, k5⟩ := (HS.out.cd w0 (Below.refl _ _)).ex
  have c0 : w0.cell? ⟨cb0, 0, none⟩ = some (.slice ad l.length c) := k1.c 0
  obtain ⟨b, o, hadd, hb, r0, r1⟩ := (HS.out.row w0 (Below.refl _ _)).tok (Below.refl _ _) hpl
  subst hadd
  rw [hlx] at r0 r1
  have m1 : w0.cell? ⟨w.heap.size, 1, none⟩ = some (.int .i64 (p : Int)) := hX.c 1
  have hp1 : (p : Int) < (l.length : Int) := by omega
  have hp0 : (0 : Int) ≤ (p : Int) := by omega
  have HX := hide hX
  have HY := hide hY
  clear hX hY k1 k2 k3 k4 k5 hlx
  go_cut [6] from 9 to 93 (fun v wx => v = .pointer (some ⟨w0.heap.size, 0, none⟩) ∧ Bx wx w0.heap.size #[.int .i64 x.k, .int .i64 x.n] 56 ∧ Below w0.heap.size w0 wx)
  case first =>
    go_region_held3 (fun w' => w'.cell? ⟨cb0, 0, none⟩ = some (.slice (some ⟨b, o, none⟩) l.length c) ∧ w'.cell? ⟨w.heap.size, 1, none⟩ = some (.int .i64 (p : Int)) ∧ w'.cell? ⟨b, o + p * 2, none⟩ = some (.int .i64 x.k) ∧ w'.cell? ⟨b, o + p * 2 + 1, none⟩ = some (.int .i64 x.n)) (go_keep)
      (first | fail)
    go_wp2_with fail
    go_meet
    exact ⟨rfl, (Bx.new w0 _ _).drew, belowDrew ((Below.refl _ _).alloc (Nat.le_refl _) _)⟩
  case rest =>
    obtain ⟨rfl, hC, hBc⟩ := hcut
    have HX1' := hide (HX.out.below hBc HX.out.lt)
    have HY1 := hide (HY.out.below hBc HY.out.lt)
    have HF1 := hide (own_keep H1.out (fun k _ hk => hBc.block k hk))
    have HV1 := hide (own_keep H2.out (fun k _ hk => hBc.block k hk))
    have HB1 := hide (own_keep H3.out (fun k _ hk => hBc.block k hk))
    have HS1 := hide (HS.out.below (hBc.mono hz0))
    have hB1 : Below lo w wc := (hB0.mono hlo).trans (hBc.mono hz0)
    have hz1 : lo ≤ wc.heap.size := Nat.le_trans hlo hB1.size
    have hyl1 := HY1.out.lt
    have hSm : SM wc lo (.agg #[.bool false, .int .i64 (p : Int), .int .i64 e, .int .i64 (-1), .slice af fs.length cf, .slice av vs.length cv, .slice ab bs.length cb]) ⟨false, (p : Int), e, -1, fs, vs, bs⟩ := ⟨_, _, _, _, _, _, rfl, HF1.out, HV1.out, HB1.out⟩
    have HSm := hide hSm
    have cx := HX1'.out.c
    have cc := hC.c
    have HKc : Hid (∀ (b : Nat) (cs : Array Value) (T : TypeId), Bx w b cs T → Bx wc b cs T) := hide (fun bb cs TT hbx => (hbx.below hB0 hbx.lt).below hBc (hbx.below hB0 hbx.lt).lt)
    clear c0 r0 r1 m1 HX HY H1 H2 H3 HS hBc hSm hB0 hyl
    have k2 := k2h.out
    rw [k2] at cc
    go_wp2_with fail
    refine (HN0.out _ _ HSm.out hz1).mono ?_
    rintro r w2 ⟨v2, rfl, hs2, hb2, hk2⟩
    have HY2 := hide (hk2 _ _ _ (by decide) HY1.out)
    have HK2 := hide hk2
    have hB2 : Below lo w w2 := hB1.trans hb2
    have cy := HY2.out.c
    have fy := HY2.out.f
    obtain ⟨f1, g1, f2, g2, f3, g3, rfl, s1, s2, s3⟩ := hs2
    have S1 := hide s1
    have S2 := hide s2
    have S3 := hide s3
    clear hk2 hb2 cx cc s1 s2 s3
    obtain ⟨md, mp, me, mx, mf, mv, mb⟩ := M
    simp only at S1 S2 S3 ⊢
    go_wp2_with fail
    refine bodyPost_ret (v := .tuple #[.agg #[.bool md, .int .i64 mp, .int .i64 me, .int .i64 mx, .slice f1 mf.length g1, .slice f2 mv.length g2, .slice f3 mb.length g3], .bool R]) (by simp [results, Tryz.results47, go_sem, cy]) rfl ⟨_, rfl, ?_, ?_, fun bb cs TT t1 t2 t3 hbx => ((((((((HK2.out bb cs TT t2 (HKc.out bb cs TT hbx)).setne (w.heap.size + 1) 0 _ (by have := hbx.lt; omega)).setne (w.heap.size + 1) 1 _ (by have := hbx.lt; omega)).setne (w.heap.size + 1) 2 _ (by have := hbx.lt; omega)).setne (w.heap.size + 1) 3 _ (by have := hbx.lt; omega)).setne (w.heap.size + 1) 4 _ (by have := hbx.lt; omega)).setne (w.heap.size + 1) 5 _ (by have := hbx.lt; omega)).setne (w.heap.size + 1) 6 _ (by have := hbx.lt; omega))⟩
    · have q0 : Kp w2 (w.heap.size + 1) lo (.slice f1 mf.length g1) (.slice f2 mv.length g2) (.slice f3 mb.length g3) mf mv mb := ⟨⟨_, HY2.out⟩, S1.out, S2.out, S3.out⟩
      exact (((((((q0.set 0 _).set 1 _).set 2 _).set 3 _).set 4 _).set 5 _).set 6 _).sm md mp me mx
    · exact bsc (bsc (bsc (bsc (bsc (bsc (bsc hB2 _ _ _ (by omega)) _ _ _ (by omega)) _ _ _ (by omega)) _ _ _ (by omega)) _ _ _ (by omega)) _ _ _ (by omega)) _ _ _ (by omega)

set_option maxRecDepth 20000 in
set_option maxHeartbeats 4000000 in
theorem l6Do_lam (lo cb0 : Nat) (ad : Option Addr) (c : Nat) (l : List Cc) (a : F) (v : Value) (m : Mc) (w : World) (hCl : Cl l a) (h : SM w lo v m) (hS : SR w lo cb0 ad c l a) (hG : GM a l m) (hd : m.done = false) (x : Cc) (hxx : l[m.pl.toNat]? = some x) (k2h : Hid (x.k = 3)) :
    Calls Tryz.prog 47 #[.pointer (some ⟨cb0, 0, none⟩), v] w fun r w' => ∃ v', r = .returned (.tuple #[v', .bool (isL (newM m ⟨true, 0, m.pl, m.env⟩))]) ∧ SM w' lo v' (mcOf' m (newM m ⟨true, 0, m.pl, m.env⟩)) ∧ Below lo w w' ∧ ∀ (b : Nat) (cs : Array Value) (T : TypeId), T ≠ 93 → T ≠ 88 → T ≠ 85 → Bx w b cs T → Bx w' b cs T := by
  have hlo := hS.le
  obtain ⟨n1, n2⟩ := nOk_not hG.now hd
  obtain ⟨q1, q2, q3⟩ := pOk_iff.1 n2
  obtain ⟨x', d0, k, x1, x2, x3, x4, x5, x6, x7⟩ := hCl.part q1
  obtain rfl : x = x' := by rw [x2] at hxx; simpa using hxx.symm
  obtain ⟨p, hp⟩ := Int.eq_ofNat_of_zero_le q1.1
  have hp' : m.pl.toNat = p := by rw [hp]; rfl
  rw [hp'] at x1 x2 x3
  have hpl : p < l.length := by have := q1.2; omega
  have hlx : l[p] = x := by rw [List.getElem?_eq_getElem hpl] at x2; simpa using x2
  have hnv := hG.nv
  have hnb := hG.nb
  have hnf := hG.nf
  have hl6 := hCl.le
  have HBs := hide hG.bs
  have HQ2 := hide q2
  have HQ3 : Hid ((bw m.bs m.env).1 = (d0 : Int)) := hide (by rw [q3, hp']; exact x3)
  have HX1 := hide x1
  have HCl := hide hCl
  obtain ⟨af, cf, av, cv, ab, cb, rfl, h1, h2, h3⟩ := h
  obtain ⟨dn, pl, e, vl, fs, vs, bs⟩ := m
  simp only at h1 h2 h3 hd hp n1 hnv hnb hnf HBs HQ2 HQ3 ⊢
  subst hd hp n1
  have hX := (Bx.new w #[.bool false, .int .i64 (p : Int), .int .i64 e, .int .i64 (-1), .slice af fs.length cf, .slice av vs.length cv, .slice ab bs.length cb] 34).alloc (.cells #[.bool false, .int .i64 0, .int .i64 0, .int .i64 0, .slice none 0 0, .slice none 0 0, .slice none 0 0] 34)
  have hY := Bx.new (w.alloc (.cells #[.bool false, .int .i64 (p : Int), .int .i64 e, .int .i64 (-1), .slice af fs.length cf, .slice av vs.length cv, .slice ab bs.length cb] 34)) #[.bool false, .int .i64 0, .int .i64 0, .int .i64 0, .slice none 0 0, .slice none 0 0, .slice none 0 0] 34
  simp only [World.size_alloc] at hY
  have hB0 : Below w.heap.size w ((w.alloc (.cells #[.bool false, .int .i64 (p : Int), .int .i64 e, .int .i64 (-1), .slice af fs.length cf, .slice av vs.length cv, .slice ab bs.length cb] 34)).alloc (.cells #[.bool false, .int .i64 0, .int .i64 0, .int .i64 0, .slice none 0 0, .slice none 0 0, .slice none 0 0] 34)) := ((Below.refl _ _).alloc (Nat.le_refl _) _).alloc (by simp) _
  have H1 := hide (own_keep h1 (fun k _ hk => hB0.block k hk))
  have H2 := hide (own_keep h2 (fun k _ hk => hB0.block k hk))
  have H3 := hide (own_keep h3 (fun k _ hk => hB0.block k hk))
  have HS := hide (hS.below (hB0.mono hlo))
  have hcl := hS.lt
  clear hxx x2 x4 q1 q2 q3 n2 hp' hG hS hCl
  have HN0 := hide (fun (w' : World) (V : Value) (hb : SM w' lo V ⟨false, (p : Int), e, -1, fs, vs, bs⟩) (hz : lo ≤ w'.heap.size) => l6New_any lo V ⟨false, (p : Int), e, -1, fs, vs, bs⟩ ⟨true, 0, (p : Int), e⟩ w' hb hnv hz)
  obtain ⟨NM, hNM⟩ : ∃ NM, NM = newM ⟨false, (p : Int), e, -1, fs, vs, bs⟩ ⟨true, 0, (p : Int), e⟩ := ⟨_, rfl⟩
  simp only [← hNM] at HN0 ⊢
  obtain ⟨M, hM⟩ : ∃ M, M = mcOf' ⟨false, (p : Int), e, -1, fs, vs, bs⟩ NM := ⟨_, rfl⟩
  simp only [← hM] at HN0 ⊢
  obtain ⟨R, hR⟩ : ∃ R, R = isL NM := ⟨_, rfl⟩
  simp only [← hR] at HN0 ⊢
  clear hNM hM hR
  go_enter Tryz.func47, Tryz.ntmps47
  go_upto_region 1 with fail
  obtain ⟨w0, hw0⟩ : ∃ w0, w0 = (w.alloc (.cells #[.bool false, .int .i64 (p : Int), .int .i64 e, .int .i64 (-1), .slice af fs.length cf, .slice av vs.length cv, .slice ab bs.length cb] 34)).alloc (.cells #[.bool false, .int .i64 0, .int .i64 0, .int .i64 0, .slice none 0 0, .slice none 0 0, .slice none 0 0] 34) := ⟨_, rfl⟩
  rw [← hw0] at hX hY hB0 H1 H2 H3 HS ⊢
  clear hw0 h1 h2 h3
  have hz0 : lo ≤ w0.heap.size := Nat.le_trans hlo hB0.size
  have hyl := hY.lt
  obtain ⟨kb, vb, k1, k2, k3, k4, k5⟩ := (HS.out.cd w0 (Below.refl _ _)).ex
  have c0 : w0.cell? ⟨cb0, 0, none⟩ = some (.slice ad l.length c) := k1.c 0
  obtain ⟨b, o, hadd, hb, r0, r1⟩ := (HS.out.row w0 (Below.refl _ _)).tok (Below.refl _ _) hpl
  subst hadd
  rw [hlx] at r0 r1
  have m1 : w0.cell? ⟨w.heap.size, 1, none⟩ = some (.int .i64 (p : Int)) := hX.c 1
  have hp1 : (p : Int) < (l.length : Int) := by omega
  have hp0 : (0 : Int) ≤ (p : Int) := by omega
  have HX := hide hX
  have HY := hide hY
  clear hX hY k1 k2 k3 k4 k5 hlx
  go_cut [6] from 9 to 93 (fun v wx => v = .pointer (some ⟨w0.heap.size, 0, none⟩) ∧ Bx wx w0.heap.size #[.int .i64 x.k, .int .i64 x.n] 56 ∧ Below w0.heap.size w0 wx)
  case first =>
    go_region_held3 (fun w' => w'.cell? ⟨cb0, 0, none⟩ = some (.slice (some ⟨b, o, none⟩) l.length c) ∧ w'.cell? ⟨w.heap.size, 1, none⟩ = some (.int .i64 (p : Int)) ∧ w'.cell? ⟨b, o + p * 2, none⟩ = some (.int .i64 x.k) ∧ w'.cell? ⟨b, o + p * 2 + 1, none⟩ = some (.int .i64 x.n)) (go_keep)
      (first | fail)
    go_wp2_with fail
    go_meet
    exact ⟨rfl, (Bx.new w0 _ _).drew, belowDrew ((Below.refl _ _).alloc (Nat.le_refl _) _)⟩
  case rest =>
    obtain ⟨rfl, hC, hBc⟩ := hcut
    have HX1' := hide (HX.out.below hBc HX.out.lt)
    have HY1 := hide (HY.out.below hBc HY.out.lt)
    have HF1 := hide (own_keep H1.out (fun k _ hk => hBc.block k hk))
    have HV1 := hide (own_keep H2.out (fun k _ hk => hBc.block k hk))
    have HB1 := hide (own_keep H3.out (fun k _ hk => hBc.block k hk))
    have HS1 := hide (HS.out.below (hBc.mono hz0))
    have hB1 : Below lo w wc := (hB0.mono hlo).trans (hBc.mono hz0)
    have hz1 : lo ≤ wc.heap.size := Nat.le_trans hlo hB1.size
    have hyl1 := HY1.out.lt
    have hSm : SM wc lo (.agg #[.bool false, .int .i64 (p : Int), .int .i64 e, .int .i64 (-1), .slice af fs.length cf, .slice av vs.length cv, .slice ab bs.length cb]) ⟨false, (p : Int), e, -1, fs, vs, bs⟩ := ⟨_, _, _, _, _, _, rfl, HF1.out, HV1.out, HB1.out⟩
    have HSm := hide hSm
    have cx := HX1'.out.c
    have cc := hC.c
    have HKc : Hid (∀ (b : Nat) (cs : Array Value) (T : TypeId), Bx w b cs T → Bx wc b cs T) := hide (fun bb cs TT hbx => (hbx.below hB0 hbx.lt).below hBc (hbx.below hB0 hbx.lt).lt)
    clear c0 r0 r1 m1 HX HY H1 H2 H3 HS hBc hSm hB0 hyl
    have k2 := k2h.out
    rw [k2] at cc
    go_wp2_with fail
    refine (HN0.out _ _ HSm.out hz1).mono ?_
    rintro r w2 ⟨v2, rfl, hs2, hb2, hk2⟩
    have HY2 := hide (hk2 _ _ _ (by decide) HY1.out)
    have HK2 := hide hk2
    have hB2 : Below lo w w2 := hB1.trans hb2
    have cy := HY2.out.c
    have fy := HY2.out.f
    obtain ⟨f1, g1, f2, g2, f3, g3, rfl, s1, s2, s3⟩ := hs2
    have S1 := hide s1
    have S2 := hide s2
    have S3 := hide s3
    clear hk2 hb2 cx cc s1 s2 s3
    obtain ⟨md, mp, me, mx, mf, mv, mb⟩ := M
    simp only at S1 S2 S3 ⊢
    go_wp2_with fail
    refine bodyPost_ret (v := .tuple #[.agg #[.bool md, .int .i64 mp, .int .i64 me, .int .i64 mx, .slice f1 mf.length g1, .slice f2 mv.length g2, .slice f3 mb.length g3], .bool R]) (by simp [results, Tryz.results47, go_sem, cy]) rfl ⟨_, rfl, ?_, ?_, fun bb cs TT t1 t2 t3 hbx => ((((((((HK2.out bb cs TT t2 (HKc.out bb cs TT hbx)).setne (w.heap.size + 1) 0 _ (by have := hbx.lt; omega)).setne (w.heap.size + 1) 1 _ (by have := hbx.lt; omega)).setne (w.heap.size + 1) 2 _ (by have := hbx.lt; omega)).setne (w.heap.size + 1) 3 _ (by have := hbx.lt; omega)).setne (w.heap.size + 1) 4 _ (by have := hbx.lt; omega)).setne (w.heap.size + 1) 5 _ (by have := hbx.lt; omega)).setne (w.heap.size + 1) 6 _ (by have := hbx.lt; omega))⟩
    · have q0 : Kp w2 (w.heap.size + 1) lo (.slice f1 mf.length g1) (.slice f2 mv.length g2) (.slice f3 mb.length g3) mf mv mb := ⟨⟨_, HY2.out⟩, S1.out, S2.out, S3.out⟩
      exact (((((((q0.set 0 _).set 1 _).set 2 _).set 3 _).set 4 _).set 5 _).set 6 _).sm md mp me mx
    · exact bsc (bsc (bsc (bsc (bsc (bsc (bsc hB2 _ _ _ (by omega)) _ _ _ (by omega)) _ _ _ (by omega)) _ _ _ (by omega)) _ _ _ (by omega)) _ _ _ (by omega)) _ _ _ (by omega)
end Go.Proofs.YtdajalchdbgooaaGreat.W

/-
  A contract of l6Bind. Conditions: at most 500 bindings.
-/
import Derived.Test.YtdajalchdbgooaaMx
import Derived.Deep.RegionHeld3
import Derived.Deep.RegionLaw
import Derived.Deep.AppendLies
import Derived.Deep.CutRange
namespace Go.Proofs.Ytdajalchdbgooaa.W
open Go.ChangeShapes Go.WideShapes Go.ChangeAt Go.RowKit
set_option linter.unusedVariables false
set_option linter.unusedSimpArgs false

/-- A binding more, and the part that is next. -/
def bindN (m : Mc) (v up p : Int) : Mc ⊕ Int := if 500 ≤ m.bs.length then .inr 5 else .inl (nextM { m with bs := m.bs ++ [⟨v, up⟩] } p m.bs.length)
theorem bindM_N (m : Mc) (up p : Int) : bindM m up p = bindN { m with fs := m.fs.dropLast } m.val up p := rfl
set_option maxRecDepth 20000 in
set_option maxHeartbeats 2000000 in
theorem l6Bind_any (lo : Nat) (v : Value) (m : Mc) (y up q : Int) (w : World) (h : SM w lo v m) (hn : m.bs.length ≤ 500) (hlo : lo ≤ w.heap.size) :
    Calls Try.prog 122 #[v, .int .i64 y, .int .i64 up, .int .i64 q] w fun r w' => ∃ v', r = .returned (.tuple #[v', .bool (isL (bindN m y up q))]) ∧ SM w' lo v' (mcOf' m (bindN m y up q)) ∧ Below lo w w' ∧ ∀ (b : Nat) (cs : Array Value) (T : TypeId), T ≠ 124 → Bx w b cs T → Bx w' b cs T := by
  obtain ⟨af, cf, av, cv, ab, cb, rfl, h1, h2, h3⟩ := h
  obtain ⟨d, p, e, x, fs, vs, bs⟩ := m
  simp only at h1 h2 h3 hn ⊢
  have hX := (Bx.new w #[.bool d, .int .i64 p, .int .i64 e, .int .i64 x, .slice af fs.length cf, .slice av vs.length cv, .slice ab bs.length cb] 28).alloc (.cells #[.bool false, .int .i64 0, .int .i64 0, .int .i64 0, .slice none 0 0, .slice none 0 0, .slice none 0 0] 28)
  have hY := Bx.new (w.alloc (.cells #[.bool d, .int .i64 p, .int .i64 e, .int .i64 x, .slice af fs.length cf, .slice av vs.length cv, .slice ab bs.length cb] 28)) #[.bool false, .int .i64 0, .int .i64 0, .int .i64 0, .slice none 0 0, .slice none 0 0, .slice none 0 0] 28
  simp only [World.size_alloc] at hY
  have hB0 : Below w.heap.size w ((w.alloc (.cells #[.bool d, .int .i64 p, .int .i64 e, .int .i64 x, .slice af fs.length cf, .slice av vs.length cv, .slice ab bs.length cb] 28)).alloc (.cells #[.bool false, .int .i64 0, .int .i64 0, .int .i64 0, .slice none 0 0, .slice none 0 0, .slice none 0 0] 28)) := ((Below.refl _ _).alloc (Nat.le_refl _) _).alloc (by simp) _
  have H1 := hide (own_keep h1 (fun k _ hk => hB0.block k hk))
  have H2 := hide (own_keep h2 (fun k _ hk => hB0.block k hk))
  have H3 := hide (own_keep h3 (fun k _ hk => hB0.block k hk))
  have HL3 : Hid (∀ k, (Value.slice ab bs.length cb).ownBlock = some k → lo ≤ k ∧ k < w.heap.size) := hide h3.lt
  obtain ⟨i2, hi2, z0, z1, z2⟩ := infoPartsT infoBd
  have HI2 := hide hi2
  go_enter Try.func122, Try.ntmps122
  go_upto_region 1 with fail
  obtain ⟨w0, hw0⟩ : ∃ w0, w0 = (w.alloc (.cells #[.bool d, .int .i64 p, .int .i64 e, .int .i64 x, .slice af fs.length cf, .slice av vs.length cv, .slice ab bs.length cb] 28)).alloc (.cells #[.bool false, .int .i64 0, .int .i64 0, .int .i64 0, .slice none 0 0, .slice none 0 0, .slice none 0 0] 28) := ⟨_, rfl⟩
  rw [← hw0] at hX hY hB0 H1 H2 H3 ⊢
  clear hw0 h1 h2 h3 hi2
  have HX := hide hX
  have HY := hide hY
  have hyl := hY.lt
  have cx := hX.c
  have fx := hX.f
  have cy := hY.c
  have fy := hY.f
  have hz0 : lo ≤ w0.heap.size := by omega
  by_cases hf : bs.length = 500
  · have hnm : bindN ⟨d, p, e, x, fs, vs, bs⟩ y up q = .inr 5 := by unfold bindN; rw [if_pos (by simp only; omega)]
    have hf' : ((bs.length : Nat) : Int) = 500 := by omega
    clear hX hY
    go_wp2_with fail
    refine bodyPost_ret (v := .tuple #[.agg #[.bool d, .int .i64 p, .int .i64 e, .int .i64 x, .slice af fs.length cf, .slice av vs.length cv, .slice ab bs.length cb], .bool false]) (by simp [results, Try.results122, go_sem, cy, hf]) rfl ⟨_, by rw [hnm]; rfl, ?_, ?_, fun bb cs TT hTT hbx => (((((((hbx.below hB0 hbx.lt).setne (w.heap.size + 1) 0 _ (by have := hbx.lt; omega)).setne (w.heap.size + 1) 1 _ (by have := hbx.lt; omega)).setne (w.heap.size + 1) 2 _ (by have := hbx.lt; omega)).setne (w.heap.size + 1) 3 _ (by have := hbx.lt; omega)).setne (w.heap.size + 1) 4 _ (by have := hbx.lt; omega)).setne (w.heap.size + 1) 5 _ (by have := hbx.lt; omega)).setne (w.heap.size + 1) 6 _ (by have := hbx.lt; omega)⟩
    · rw [hnm]
      have q0 : Kp w0 (w.heap.size + 1) lo (.slice af fs.length cf) (.slice av vs.length cv) (.slice ab bs.length cb) fs vs bs := ⟨⟨_, HY.out⟩, H1.out, H2.out, H3.out⟩
      exact (((((((q0.set 0 _).set 1 _).set 2 _).set 3 _).set 4 _).set 5 _).set 6 _).sm d p e x
    · exact bsc (bsc (bsc (bsc (bsc (bsc (bsc (hB0.mono hlo) _ _ _ (by omega)) _ _ _ (by omega)) _ _ _ (by omega)) _ _ _ (by omega)) _ _ _ (by omega)) _ _ _ (by omega)) _ _ _ (by omega)
  · have hf' : ¬ ((bs.length : Nat) : Int) = 500 := by omega
    have hnm : bindN ⟨d, p, e, x, fs, vs, bs⟩ y up q = .inl ⟨false, q, (bs.length : Int), -1, fs, vs, bs ++ [⟨y, up⟩]⟩ := by unfold bindN; rw [if_neg (by simp only; omega)]; rfl
    have HNm := hide hnm
    have cxa := (hX.alloc (.cells #[.int .i64 y, .int .i64 up] 124)).c
    have M1 : Hid (bs.length + 1 ≤ maxLen) := hide (by unfold maxLen; omega)
    have HO1 : Hid (∀ u ∈ [Value.int .i64 y, .int .i64 up], u.oneCell' = true) := hide (by intro u hu; simp only [List.mem_cons, List.not_mem_nil, or_false] at hu; rcases hu with rfl | rfl <;> rfl)
    clear hX hY hnm
    go_upto_region 3 with fail
    go_wp2_with (at_builtin; refine wpList_append_sep rfl _ _ 26 rfl lo 124 i2 _ 2 16 Try.underlying26 HI2.out z0 z1 z2 rfl (by decide) _ bs.length _ rfl (H3.out.alloc _) ⟨w0.heap.size, 0, none⟩ 1 1 [.int .i64 y, .int .i64 up] rfl rfl (news2 (heap_alloc_new w0 _)) HO1.out M1.out (by omega) (by simp; omega) ?_)
    intro s1 w1 ho1 hg1 hap1
    clear hap1
    have hb1 : ∀ k, k < w0.heap.size → some k ≠ (Value.slice ab bs.length cb).ownBlock → w1.heap[k]? = w0.heap[k]? := fun k hk hne => (hg1.block k (by simp; omega) hne).trans (Below.heap_alloc _ _ _ hk)
    have HX1 : Hid (Bx w1 w.heap.size _ _) := hide ((hb1 _ (by omega) (fun e' => by have := HL3.out _ e'.symm; omega)).trans HX.out)
    have HY1 : Hid (Bx w1 (w.heap.size + 1) _ _) := hide ((hb1 _ hyl (fun e' => by have := HL3.out _ e'.symm; omega)).trans HY.out)
    have d1 := own_apart H1.out H3.out (by decide)
    have d2 := own_apart H2.out H3.out (by decide)
    have HF1 := hide (own_same (w' := w1) H1.out (fun k hk _ hl => hb1 k hl (fun e' => d1 k hk e'.symm)))
    have HV1 := hide (own_same (w' := w1) H2.out (fun k hk _ hl => hb1 k hl (fun e' => d2 k hk e'.symm)))
    have hB1 : Below lo w w1 := Below.grown ((hB0.mono hlo).alloc hz0 _) hg1 (by simp; omega) (fun k hk => (HL3.out k hk).1)
    have HK1 : Hid (∀ (b : Nat) (cs : Array Value) (T : TypeId), T ≠ 124 → Bx w b cs T → Bx w1 b cs T) := hide (fun bb cs TT hTT hbx => (hb1 bb (by have := hbx.lt; omega) (fun e' => own_bx (hbx.below hB0 hbx.lt) H3.out hTT e'.symm)).trans (hbx.below hB0 hbx.lt))
    have HO1' := hide ho1
    obtain ⟨a1, k1, rfl⟩ := own_form ho1
    have hs1 : w.heap.size + 1 < w1.heap.size := HY1.out.lt
    clear ho1 hg1 hb1 cx fx cy fy cxa d1 d2 HX HY H1 H2 H3 HO1 M1
    have cx := HX1.out.c
    have fx := HX1.out.f
    go_upto_region 4 with fail
    have HX2 := hide (HX1.out.set 6 (.slice a1 (bs.length + 1) k1))
    have HY2 := hide (HY1.out.setne w.heap.size 6 (.slice a1 (bs.length + 1) k1) (by omega))
    have hB2 := bsc hB1 w.heap.size 6 (.slice a1 (bs.length + 1) k1) hlo
    have HF2 := hide (own_set HX1.out HF1.out (by decide) 6 (.slice a1 (bs.length + 1) k1))
    have HV2 := hide (own_set HX1.out HV1.out (by decide) 6 (.slice a1 (bs.length + 1) k1))
    have HB2 := hide (own_set HX1.out HO1'.out (by decide) 6 (.slice a1 (bs.length + 1) k1))
    have HK2 : Hid (∀ (b : Nat) (cs : Array Value) (T : TypeId), T ≠ 124 → Bx w b cs T → Bx (w1.setCell ⟨w.heap.size, 6, none⟩ (.slice a1 (bs.length + 1) k1)) b cs T) := hide (fun bb cs TT hTT hbx => (HK1.out bb cs TT hTT hbx).setne _ _ _ (by have := hbx.lt; omega))
    obtain ⟨w2, hw2⟩ : ∃ w2, w2 = w1.setCell ⟨w.heap.size, 6, none⟩ (.slice a1 (bs.length + 1) k1) := ⟨_, rfl⟩
    rw [← hw2] at HX2 HY2 hB2 HF2 HV2 HB2 HK2 ⊢
    clear hw2 cx fx HX1 HY1 HF1 HV1 HO1' hB1
    have cx2 := HX2.out.c
    have hvn : IntKind.i64.wrap (((bs.length + 1 : Nat) : Int) - 1) = ((bs.length : Nat) : Int) := by rw [show ((bs.length + 1 : Nat) : Int) - 1 = ((bs.length : Nat) : Int) by omega]; exact IntWalk.i64_in _ ⟨by omega, by omega⟩
    go_wp2_with fail
    refine (l6Next_any _ _ _ _ _ _ _ _ _ _ _ _ _ _ _ _).mono ?_
    rintro r w3 ⟨rfl, hb3⟩
    have HY3 := hide (HY2.out.below hb3 HY2.out.lt)
    have HF3 := hide (own_keep HF2.out (fun k _ hk => hb3.block k hk))
    have HV3 := hide (own_keep HV2.out (fun k _ hk => hb3.block k hk))
    have HB3 := hide (own_keep HB2.out (fun k _ hk => hb3.block k hk))
    have hB3 : Below lo w w3 := hB2.trans (hb3.mono (Nat.le_trans hlo hB2.size))
    have HK3 : Hid (∀ (b : Nat) (cs : Array Value) (T : TypeId), T ≠ 124 → Bx w b cs T → Bx w3 b cs T) := hide (fun bb cs TT hTT hbx => (HK2.out bb cs TT hTT hbx).below hb3 (HK2.out bb cs TT hTT hbx).lt)
    have cy3 := HY3.out.c
    have fy3 := HY3.out.f
    clear hb3 cx2 HX2 HY2 HF2 HV2 HB2
    go_wp2_with fail
    refine bodyPost_ret (v := .tuple #[.agg #[.bool false, .int .i64 q, .int .i64 (bs.length : Int), .int .i64 (-1), .slice af fs.length cf, .slice av vs.length cv, .slice a1 (bs.length + 1) k1], .bool true]) (by simp [results, Try.results122, go_sem, cy3]) rfl ⟨_, by rw [HNm.out]; rfl, ?_, ?_, fun bb cs TT hTT hbx => (((((((HK3.out bb cs TT hTT hbx).setne (w.heap.size + 1) 0 _ (by have := hbx.lt; omega)).setne (w.heap.size + 1) 1 _ (by have := hbx.lt; omega)).setne (w.heap.size + 1) 2 _ (by have := hbx.lt; omega)).setne (w.heap.size + 1) 3 _ (by have := hbx.lt; omega)).setne (w.heap.size + 1) 4 _ (by have := hbx.lt; omega)).setne (w.heap.size + 1) 5 _ (by have := hbx.lt; omega)).setne (w.heap.size + 1) 6 _ (by have := hbx.lt; omega)⟩
    · rw [HNm.out]
      have e1 : (bs ++ [(⟨y, up⟩ : Bd)]).length = bs.length + 1 := by simp
      have hv3 := HB3.out
      rw [show rcells 2 Bd.c bs ++ [.int .i64 y, .int .i64 up] = rcells 2 Bd.c (bs ++ [⟨y, up⟩]) from by rw [lies_v]; rfl, ← e1] at hv3
      have q0 : Kp w3 (w.heap.size + 1) lo (.slice af fs.length cf) (.slice av vs.length cv) (.slice a1 (bs ++ [(⟨y, up⟩ : Bd)]).length k1) fs vs (bs ++ [⟨y, up⟩]) := ⟨⟨_, HY3.out⟩, HF3.out, HV3.out, hv3⟩
      have := (((((((q0.set 0 (.bool false)).set 1 (.int .i64 q)).set 2 (.int .i64 (bs.length : Int))).set 3 (.int .i64 (-1))).set 4 (.slice af fs.length cf)).set 5 (.slice av vs.length cv)).set 6 (.slice a1 (bs.length + 1) k1)).sm false q (bs.length : Int) (-1)
      simp only [e1] at this
      exact this
    · exact bsc (bsc (bsc (bsc (bsc (bsc (bsc hB3 _ _ _ (by omega)) _ _ _ (by omega)) _ _ _ (by omega)) _ _ _ (by omega)) _ _ _ (by omega)) _ _ _ (by omega)) _ _ _ (by omega)
end Go.Proofs.Ytdajalchdbgooaa.W

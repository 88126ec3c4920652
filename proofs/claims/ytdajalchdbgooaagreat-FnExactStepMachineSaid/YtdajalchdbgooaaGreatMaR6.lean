/-
  A contract of bind of a running machine. Conditions: at most 500 bindings; there is a frame.
-/
import Derived.Test.YtdajalchdbgooaaGreatMaR5
import Derived.Test.YtdajalchdbgooaaGreatGr
import Derived.Deep.RegionHeld3
import Derived.Deep.RegionLaw
import Derived.Deep.AppendLies
import Derived.Deep.CutRange
namespace Go.Proofs.YtdajalchdbgooaaGreat.W
open Go.ChangeShapes Go.WideShapes Go.ChangeAt Go.RowKit
set_option linter.unusedVariables false

/-- A binding more. -/
theorem RB.pushB {w w6 : World} {rb lo : Nat} {tv : Value} {m : Mc} {ab : Option Addr} {cb g6 cap6 : Nat} {v : Bd} (h : RB w rb lo tv m)
    (hx : ∃ sf sv, Bx w rb #[tv, .bool m.done, .int .i64 m.pl, .int .i64 m.env, .int .i64 m.val, sf, sv, .slice ab m.bs.length cb] 64)
    (ho : w6.ownsRow lo 85 2 (.slice (some ⟨g6, 0, none⟩) (m.bs.length + 1) cap6) (m.bs.length + 1) (rcells 2 Bd.c m.bs ++ [.int .i64 v.val, .int .i64 v.up]))
    (hg : ∀ k, k < w.heap.size → some k ≠ (Value.slice ab m.bs.length cb).ownBlock → w6.heap[k]? = w.heap[k]?) : RB (w6.setCell ⟨rb, 7, none⟩ (.slice (some ⟨g6, 0, none⟩) (m.bs.length + 1) cap6)) rb lo tv { m with bs := m.bs ++ [v] } := by
  obtain ⟨sf, sv, sb, h1, h2, h3, h4, h5⟩ := h
  obtain ⟨sf', sv', hx⟩ := hx
  have hcell := (h1.c 7).symm.trans (hx.c 7)
  have hsb : sb = .slice ab m.bs.length cb := by simpa using hcell
  subst hsb
  have d1 := own_apart h2 h4 (by decide)
  have d2 := own_apart h3 h4 (by decide)
  have nb := own_bx h1 h4 (by decide)
  have hX6 : Bx w6 rb #[tv, .bool m.done, .int .i64 m.pl, .int .i64 m.env, .int .i64 m.val, sf, sv, .slice ab m.bs.length cb] 64 := (hg rb h1.lt (fun e => nb e.symm)).trans h1
  have h2' := own_same (w' := w6) h2 (fun k hk _ hl => hg k hl (fun e => d1 k hk e.symm))
  have h3' := own_same (w' := w6) h3 (fun k hk _ hl => hg k hl (fun e => d2 k hk e.symm))
  refine ⟨sf, sv, .slice (some ⟨g6, 0, none⟩) (m.bs.length + 1) cap6, ?_, ?_, ?_, ?_, h5⟩
  · have := hX6.set 7 (.slice (some ⟨g6, 0, none⟩) (m.bs.length + 1) cap6)
    simpa using this
  · exact own_same h2' (fun k hk _ hl => Below.heap_setCell _ _ _ _ (fun e => own_bx hX6 h2' (by decide) ((show k = rb from e) ▸ hk)))
  · exact own_same h3' (fun k hk _ hl => Below.heap_setCell _ _ _ _ (fun e => own_bx hX6 h3' (by decide) ((show k = rb from e) ▸ hk)))
  · simp only
    rw [lies_v, List.length_append]
    exact own_same ho (fun k hk _ hl => Below.heap_setCell _ _ _ _ (fun e => own_bx hX6 ho (by decide) ((show k = rb from e) ▸ hk)))

set_option maxRecDepth 20000 in
set_option maxHeartbeats 2000000 in
theorem bind_any (rb lo : Nat) (tv tv2 : Value) (m : Mc) (up p : Int) (w : World) (h : RB w rb lo tv m) (hn : m.bs.length ≤ 500) (hf : 0 < m.fs.length) (hlo : lo ≤ w.heap.size) (ht : ∃ tn ta tc, tv2 = .slice ta tn tc) :
    Calls Tryz.prog 89 #[.pointer (some ⟨rb, 0, none⟩), .agg #[tv2, .int .i64 p, .int .i64 up]] w fun e w' => RunOut e w' rb lo tv m (bindM m up p) ∧ Below lo w w' := by
  obtain ⟨tn, ta, tc, rfl⟩ := ht
  have hrl := h.lt.1
  have hB0 : Below w.heap.size w (w.alloc (.cells #[.slice ta tn tc, .int .i64 p, .int .i64 up] 136)) := (Below.refl _ _).alloc (Nat.le_refl _) _
  have hV := Bx.new w #[.slice ta tn tc, .int .i64 p, .int .i64 up] 136
  have hR0 := h.below hB0
  by_cases hfl : 500 ≤ m.bs.length
  · unfold bindM
    rw [if_pos hfl]
    have hf' : (500 : Int) ≤ (m.bs.length : Int) := by omega
    obtain ⟨af, cf, av, cv, ab, cb, h1, -⟩ := hR0.slots
    have HR0 := hide hR0
    have hc := h1.c
    obtain ⟨w0, hw0⟩ : ∃ w0, w0 = w.alloc (.cells #[.slice ta tn tc, .int .i64 p, .int .i64 up] 136) := ⟨_, rfl⟩
    rw [← hw0] at HR0 hc hB0
    clear h h1 hR0 hV
    go_enter Tryz.func89, Tryz.ntmps89
    go_upto_region 1 with fail
    rw [← hw0]
    clear hw0
    go_wp2_with fail
    go_ret
    exact ⟨⟨rfl, HR0.out⟩, hB0.mono hlo⟩
  · unfold bindM
    rw [if_neg hfl]
    have hf' : ¬ (500 : Int) ≤ (m.bs.length : Int) := by omega
    obtain ⟨af, cf, av, cv, ab, cb, h1, h2, h3, h4, -⟩ := h.slots
    have HLt : Hid (∀ k, (Value.slice ab m.bs.length cb).ownBlock = some k → lo ≤ k ∧ k < w.heap.size) := hide h4.lt
    have HNb := hide (own_bx h1 h4 (by decide))
    have HX0 := hide (h1.alloc (.cells #[.slice ta tn tc, .int .i64 p, .int .i64 up] 136))
    have H40 := hide (h4.alloc (.cells #[.slice ta tn tc, .int .i64 p, .int .i64 up] 136))
    have HR0 := hide hR0
    obtain ⟨w0, hw0⟩ : ∃ w0, w0 = w.alloc (.cells #[.slice ta tn tc, .int .i64 p, .int .i64 up] 136) := ⟨_, rfl⟩
    rw [← hw0] at HX0 H40 HR0 hB0 hV
    have HV := hide hV
    have hs0 : w0.heap.size = w.heap.size + 1 := by rw [hw0]; simp
    have HS0 := hide hs0
    have hs0' : w.heap.size < w0.heap.size := by omega
    have v2 : w0.cell? ⟨w.heap.size, 2, none⟩ = some (.int .i64 up) := hV.c 2
    have v2a : (w0.alloc (.cells #[.int .i64 m.val, .int .i64 up] 85)).cell? ⟨w.heap.size, 2, none⟩ = some (.int .i64 up) := (hV.alloc _).c 2
    have hc := HX0.out.c
    have hfz := HX0.out.f
    have hca := (HX0.out.alloc (.cells #[.int .i64 m.val, .int .i64 up] 85)).c
    obtain ⟨i0, hi0, hz0, hz1, hz2⟩ := infoPartsT infoBd
    have Hi := hide hi0
    have M1 : Hid (m.bs.length + 1 ≤ maxLen) := hide (by unfold maxLen; omega)
    have HO1 : Hid (∀ u ∈ [Value.int .i64 m.val, .int .i64 up], u.oneCell' = true) := hide (by intro u hu; simp only [List.mem_cons, List.not_mem_nil, or_false] at hu; rcases hu with rfl | rfl <;> rfl)
    have HPush : Hid (∀ (g6 cap6 : Nat) (w6 : World), w6.ownsRow lo 85 2 (.slice (some ⟨g6, 0, none⟩) (m.bs.length + 1) cap6) (m.bs.length + 1) (rcells 2 Bd.c m.bs ++ [.int .i64 m.val, .int .i64 up]) → World.grownBy (w0.alloc (.cells #[.int .i64 m.val, .int .i64 up] 85)) w6 (Value.slice ab m.bs.length cb).ownBlock →
        RB (w6.setCell ⟨rb, 7, none⟩ (.slice (some ⟨g6, 0, none⟩) (m.bs.length + 1) cap6)) rb lo tv { m with bs := m.bs ++ [⟨m.val, up⟩] } ∧ Below lo w (w6.setCell ⟨rb, 7, none⟩ (.slice (some ⟨g6, 0, none⟩) (m.bs.length + 1) cap6)) ∧ Bx (w6.setCell ⟨rb, 7, none⟩ (.slice (some ⟨g6, 0, none⟩) (m.bs.length + 1) cap6)) w.heap.size #[.slice ta tn tc, .int .i64 p, .int .i64 up] 136 ∧ (w6.cell? ⟨rb, 7, none⟩ = some (.slice ab m.bs.length cb)) ∧ (w6.cell? ⟨rb, 4, none⟩ = some (.int .i64 m.val)) ∧ (w6.cell? ⟨w.heap.size, 2, none⟩ = some (.int .i64 up)) ∧ w6.frozen? ⟨rb, 7, none⟩ = false) := hide (by
      intro g6 cap6 w6 ho hg
      have e0 := HS0.out
      have hb : ∀ k, k < w0.heap.size → some k ≠ (Value.slice ab m.bs.length cb).ownBlock → w6.heap[k]? = w0.heap[k]? := fun k hk hne => (hg.block k (by simp; omega) hne).trans (Below.heap_alloc _ _ _ hk)
      have hx6 : Bx w6 rb _ _ := (hb rb (by omega) (fun e => HNb.out e.symm)).trans HX0.out
      have hv6 : Bx w6 w.heap.size _ _ := (hb w.heap.size (by omega) (fun e => by have := HLt.out _ e.symm; omega)).trans HV.out
      refine ⟨RB.pushB HR0.out ⟨_, _, HX0.out⟩ ho hb, bsc ?_ rb 7 _ h.lt.2, hv6.setne _ _ _ (by omega), hx6.c 7, hx6.c 4, hv6.c 2, hx6.f 7⟩
      have hbz := hB0.size
      exact Below.grown ((hB0.mono hlo).alloc (by omega) _) hg (by simp; omega) (fun k hk => (HLt.out k hk).1))
    have hrb := h.lt.2
    clear h h1 h2 h3 h4 hR0 hV hi0 hs0
    obtain ⟨n, hnn⟩ : ∃ n, n = m.bs.length := ⟨_, rfl⟩
    simp only [← hnn] at hc hca HPush H40 HLt HNb HX0 M1 hn hfl hf' ⊢
    have HN := hide hnn
    clear hnn
    go_enter Tryz.func89, Tryz.ntmps89
    go_upto_region 1 with fail
    rw [← hw0]
    clear hw0
    go_upto_region 3 with fail
    go_cut [30] from 5 to 43 (fun _ wx => RB wx rb lo tv { m with bs := m.bs ++ [⟨m.val, up⟩] } ∧ Below lo w wx ∧ Bx wx w.heap.size #[.slice ta tn tc, .int .i64 p, .int .i64 up] 136)
    case first =>
      go_region_law
        (first
          | (refine step_append_lies _ rfl _ _ 32 rfl lo 85 i0 _ 2 16 Tryz.underlying32 Hi.out hz0 hz1 hz2 rfl (by decide) _ n _ rfl (H40.out.alloc _) ⟨w0.heap.size, 0, none⟩ 1 1 [.int .i64 m.val, .int .i64 up] rfl rfl (news2 (heap_alloc_new w0 _)) HO1.out (by omega) M1.out (by omega) (by show lo ≤ (w0.alloc _).heap.size; simp; omega) _ rfl ?_; intro g6 cap6 w6 hown6 hgrow6 hat6 hlt6; obtain ⟨pr1, pr2, pr3, pr4, pr5, pr6, pr7⟩ := HPush.out g6 cap6 w6 hown6 ⟨hgrow6.os, hgrow6.tape, hgrow6.output, hgrow6.size, hgrow6.block⟩; have HPr := hide (And.intro pr1 (And.intro pr2 pr3)); clear hgrow6 hown6 hat6 pr1 pr2 pr3)
          | (go_simp; go_wp2_with fail))
      all_goals
        have hPr := HPr.out
        clear HPr pr4 pr5 pr6 pr7 hc hca v2 v2a hfz
        go_wp2_with fail
        go_meet
        exact hPr
    case rest =>
      obtain ⟨hRc, hBc, hVc⟩ := hcut
      obtain ⟨af', cf', av', cv', ab', cb', k1, -⟩ := hRc.slots
      have HRc := hide hRc
      have HVc := hide hVc
      have hck := k1.c
      have hvk := hVc.c
      have hvf := hVc.f
      have e1 : (m.bs ++ [(⟨m.val, up⟩ : Bd)]).length = n + 1 := by rw [List.length_append, HN.out]; rfl
      simp only [e1] at hck
      clear hRc hVc k1 hc hca v2 v2a hfz HPush H40 HX0
      have hn5 : n ≤ 500 := hn
      have hne : rb ≠ w.heap.size := by omega
      have HR2 : Hid (RB (wc.setCell ⟨w.heap.size, 2, none⟩ (.int .i64 (n : Int))) rb lo tv { m with bs := m.bs ++ [⟨m.val, up⟩] }) := hide (by
        obtain ⟨sf, sv, sb, k1, k2, k3, k4, k5⟩ := HRc.out
        exact ⟨sf, sv, sb, k1.setne _ _ _ hne, own_same k2 (fun k hk _ hl => Below.heap_setCell _ _ _ _ (fun e => own_bx HVc.out k2 (by decide) ((show k = w.heap.size from e) ▸ hk))), own_same k3 (fun k hk _ hl => Below.heap_setCell _ _ _ _ (fun e => own_bx HVc.out k3 (by decide) ((show k = w.heap.size from e) ▸ hk))), own_same k4 (fun k hk _ hl => Below.heap_setCell _ _ _ _ (fun e => own_bx HVc.out k4 (by decide) ((show k = w.heap.size from e) ▸ hk))), k5⟩)
      have HV2 : Hid (Bx (wc.setCell ⟨w.heap.size, 2, none⟩ (.int .i64 (n : Int))) w.heap.size #[.slice ta tn tc, .int .i64 p, .int .i64 (n : Int)] 136) := hide (by have := HVc.out.set 2 (.int .i64 (n : Int)); simpa using this)
      go_wp2_with fail
      refine (dropFrame_any rb lo tv _ _ HR2.out hf).mono ?_
      rintro e w7 ⟨rfl, hR7, hO7⟩
      have HR7 := hide hR7
      have hV7 : Bx w7 w.heap.size #[.slice ta tn tc, .int .i64 p, .int .i64 (n : Int)] 136 := (hO7.block _ HV2.out.lt (Ne.symm hne)).trans HV2.out
      have hB7 : Below lo w w7 := (bsc hBc w.heap.size 2 _ hlo).trans (hO7.below (by simp [World.setCell]; exact Nat.le_trans hlo hBc.size) hrb)
      have hvk7 := hV7.c
      clear hck hvk hvf hR7 hO7 HR2 HV2 hV7 HVc HRc hBc
      go_wp2_with fail
      refine (next_any rb lo tv _ _ _ _ _ HR7.out).mono ?_
      rintro e w8 ⟨rfl, hR8, hO8⟩
      clear hvk7
      go_wp2_with fail
      go_ret
      exact ⟨⟨rfl, hR8⟩, hB7.trans (hO8.below (Nat.le_trans hlo hB7.size) hrb)⟩
end Go.Proofs.YtdajalchdbgooaaGreat.W

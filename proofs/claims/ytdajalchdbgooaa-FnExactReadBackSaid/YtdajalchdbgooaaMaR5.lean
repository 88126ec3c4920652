/-
  A contract of comeNew of a running machine. Conditions: at most 500 values.
-/
import Derived.Test.YtdajalchdbgooaaJ15
import Derived.Deep.RegionHeld3
import Derived.Deep.RegionLaw
import Derived.Deep.AppendLies
import Derived.Deep.CutRange
namespace Go.Proofs.Ytdajalchdbgooaa.W
open Go.ChangeShapes Go.WideShapes Go.ChangeAt Go.RowKit
set_option linter.unusedVariables false

/-- How a method that may stop ends. -/
def RunOut (e : Ending) (w' : World) (rb lo : Nat) (tv : Value) (m : Mc) : Mc ⊕ Int → Prop
  | .inl m' => e = .returned (.int .i64 0) ∧ RB w' rb lo tv m'
  | .inr c => e = .returned (.int .i64 c) ∧ RB w' rb lo tv m
theorem lies_v {α : Type} {z : Nat} {f : α → Nat → Value} {l : List α} {v : α} : rcells z f (l ++ [v]) = rcells z f l ++ (List.range z).map (f v) := by rw [rcells_app]; simp [rcells]
/-- A value more. -/
theorem RB.pushV {w w6 : World} {rb lo : Nat} {tv : Value} {m : Mc} {av : Option Addr} {cv g6 cap6 : Nat} {v : Vl} (h : RB w rb lo tv m) (hlt : lo ≤ w.heap.size)
    (hx : ∃ sf sb, Bx w rb #[tv, .bool m.done, .int .i64 m.pl, .int .i64 m.env, .int .i64 m.val, sf, .slice av m.vs.length cv, sb] 77)
    (ho : w6.ownsRow lo 74 4 (.slice (some ⟨g6, 0, none⟩) (m.vs.length + 1) cap6) (m.vs.length + 1) (rcells 4 Vl.c m.vs ++ [.bool v.fn, .int .i64 v.num, .int .i64 v.pl, .int .i64 v.env]))
    (hg : ∀ k, k < w.heap.size → some k ≠ (Value.slice av m.vs.length cv).ownBlock → w6.heap[k]? = w.heap[k]?) : RB (w6.setCell ⟨rb, 6, none⟩ (.slice (some ⟨g6, 0, none⟩) (m.vs.length + 1) cap6)) rb lo tv { m with vs := m.vs ++ [v] } := by
  obtain ⟨sf, sv, sb, h1, h2, h3, h4, h5⟩ := h
  obtain ⟨sf', sb', hx⟩ := hx
  have hcell := (h1.c 6).symm.trans (hx.c 6)
  have hsv : sv = .slice av m.vs.length cv := by simpa using hcell
  subst hsv
  have d1 := own_apart h2 h3 (by decide)
  have d2 := own_apart h4 h3 (by decide)
  have nb := own_bx h1 h3 (by decide)
  have hX6 : Bx w6 rb #[tv, .bool m.done, .int .i64 m.pl, .int .i64 m.env, .int .i64 m.val, sf, .slice av m.vs.length cv, sb] 77 := (hg rb h1.lt (fun e => nb e.symm)).trans h1
  have h2' := own_same (w' := w6) h2 (fun k hk _ hl => hg k hl (fun e => d1 k hk e.symm))
  have h4' := own_same (w' := w6) h4 (fun k hk _ hl => hg k hl (fun e => d2 k hk e.symm))
  refine ⟨sf, .slice (some ⟨g6, 0, none⟩) (m.vs.length + 1) cap6, sb, ?_, ?_, ?_, ?_, h5⟩
  · have := hX6.set 6 (.slice (some ⟨g6, 0, none⟩) (m.vs.length + 1) cap6)
    simpa using this
  · exact own_same h2' (fun k hk _ hl => Below.heap_setCell _ _ _ _ (fun e => own_bx hX6 h2' (by decide) ((show k = rb from e) ▸ hk)))
  · simp only
    rw [lies_v, List.length_append]
    exact own_same ho (fun k hk _ hl => Below.heap_setCell _ _ _ _ (fun e => own_bx hX6 ho (by decide) ((show k = rb from e) ▸ hk)))
  · exact own_same h4' (fun k hk _ hl => Below.heap_setCell _ _ _ _ (fun e => own_bx hX6 h4' (by decide) ((show k = rb from e) ▸ hk)))
theorem news4 {W : World} {g : Nat} {a b c d : Value} {T : TypeId} (h : W.heap[g]? = some (.cells #[a, b, c, d] T (0, 0))) : ∀ j u, [a, b, c, d][j]? = some u → W.cell? ((⟨g, 0, none⟩ : Addr).add j) = some u := fun j u hu => by
  rw [iAdd, Nat.zero_add, cell_of_blk h, ← hu]; simp
theorem news2 {W : World} {g : Nat} {a b : Value} {T : TypeId} (h : W.heap[g]? = some (.cells #[a, b] T (0, 0))) : ∀ j u, [a, b][j]? = some u → W.cell? ((⟨g, 0, none⟩ : Addr).add j) = some u := fun j u hu => by
  rw [iAdd, Nat.zero_add, cell_of_blk h, ← hu]; simp

set_option maxRecDepth 20000 in
set_option maxHeartbeats 2000000 in
theorem comeNew_any (rb lo : Nat) (tv : Value) (m : Mc) (v : Vl) (w : World) (h : RB w rb lo tv m) (hn : m.vs.length ≤ 500) (hlo : lo ≤ w.heap.size) :
    Calls Try.prog 102 #[.pointer (some ⟨rb, 0, none⟩), v.v] w fun e w' => RunOut e w' rb lo tv m (newM m v) ∧ Below lo w w' := by
  have hrl := h.lt.1
  have hB0 : Below w.heap.size w (w.alloc (.cells #[.bool v.fn, .int .i64 v.num, .int .i64 v.pl, .int .i64 v.env] 74)) := (Below.refl _ _).alloc (Nat.le_refl _) _
  have hV := Bx.new w #[.bool v.fn, .int .i64 v.num, .int .i64 v.pl, .int .i64 v.env] 74
  have hR0 := h.below hB0
  by_cases hf : 500 ≤ m.vs.length
  · unfold newM
    rw [if_pos hf]
    have hf' : (500 : Int) ≤ (m.vs.length : Int) := by omega
    obtain ⟨af, cf, av, cv, ab, cb, h1, -⟩ := hR0.slots
    have HR0 := hide hR0
    have hc := h1.c
    obtain ⟨w0, hw0⟩ : ∃ w0, w0 = w.alloc (.cells #[.bool v.fn, .int .i64 v.num, .int .i64 v.pl, .int .i64 v.env] 74) := ⟨_, rfl⟩
    rw [← hw0] at HR0 hc hB0
    clear h h1 hR0 hV
    obtain ⟨a0, a1, a2, a3⟩ := v
    go_enter Try.func102, Try.ntmps102
    go_upto_region 1 with fail
    rw [← hw0]
    clear hw0
    go_wp2_with fail
    go_ret
    exact ⟨⟨rfl, HR0.out⟩, hB0.mono hlo⟩
  · unfold newM
    rw [if_neg hf]
    have hf' : ¬ (500 : Int) ≤ (m.vs.length : Int) := by omega
    obtain ⟨af, cf, av, cv, ab, cb, h1, h2, h3, h4, -⟩ := h.slots
    have HLt : Hid (∀ k, (Value.slice av m.vs.length cv).ownBlock = some k → lo ≤ k ∧ k < w.heap.size) := hide h3.lt
    have HNb := hide (own_bx h1 h3 (by decide))
    have HX0 := hide (h1.alloc (.cells #[.bool v.fn, .int .i64 v.num, .int .i64 v.pl, .int .i64 v.env] 74))
    have H30 := hide (h3.alloc (.cells #[.bool v.fn, .int .i64 v.num, .int .i64 v.pl, .int .i64 v.env] 74))
    have HR0 := hide hR0
    obtain ⟨w0, hw0⟩ : ∃ w0, w0 = w.alloc (.cells #[.bool v.fn, .int .i64 v.num, .int .i64 v.pl, .int .i64 v.env] 74) := ⟨_, rfl⟩
    rw [← hw0] at HX0 H30 HR0 hB0 hV
    have hs0 : w0.heap.size = w.heap.size + 1 := by rw [hw0]; simp
    have HS0 := hide hs0
    have hs0' : w.heap.size < w0.heap.size := by omega
    have v0 : w0.cell? ⟨w.heap.size, 0, none⟩ = some (.bool v.fn) := hV.c 0
    have v1 : w0.cell? ⟨w.heap.size, 1, none⟩ = some (.int .i64 v.num) := hV.c 1
    have v2 : w0.cell? ⟨w.heap.size, 2, none⟩ = some (.int .i64 v.pl) := hV.c 2
    have v3 : w0.cell? ⟨w.heap.size, 3, none⟩ = some (.int .i64 v.env) := hV.c 3
    have hc := HX0.out.c
    have hfz := HX0.out.f
    have hca := (HX0.out.alloc (.cells #[.bool v.fn, .int .i64 v.num, .int .i64 v.pl, .int .i64 v.env] 74)).c
    obtain ⟨i0, hi0, hz0, hz1, hz2⟩ := infoPartsT infoVl
    have Hi := hide hi0
    have M1 : Hid (m.vs.length + 1 ≤ maxLen) := hide (by unfold maxLen; omega)
    have HO1 : Hid (∀ u ∈ [Value.bool v.fn, .int .i64 v.num, .int .i64 v.pl, .int .i64 v.env], u.oneCell' = true) := hide (by intro u hu; simp only [List.mem_cons, List.not_mem_nil, or_false] at hu; rcases hu with rfl | rfl | rfl | rfl <;> rfl)
    have HPush : Hid (∀ (g6 cap6 : Nat) (w6 : World), w6.ownsRow lo 74 4 (.slice (some ⟨g6, 0, none⟩) (m.vs.length + 1) cap6) (m.vs.length + 1) (rcells 4 Vl.c m.vs ++ [.bool v.fn, .int .i64 v.num, .int .i64 v.pl, .int .i64 v.env]) → World.grownBy (w0.alloc (.cells #[.bool v.fn, .int .i64 v.num, .int .i64 v.pl, .int .i64 v.env] 74)) w6 (Value.slice av m.vs.length cv).ownBlock →
        RB (w6.setCell ⟨rb, 6, none⟩ (.slice (some ⟨g6, 0, none⟩) (m.vs.length + 1) cap6)) rb lo tv { m with vs := m.vs ++ [v] } ∧ Below lo w (w6.setCell ⟨rb, 6, none⟩ (.slice (some ⟨g6, 0, none⟩) (m.vs.length + 1) cap6)) ∧ (w6.cell? ⟨rb, 6, none⟩ = some (.slice av m.vs.length cv)) ∧ w6.frozen? ⟨rb, 6, none⟩ = false) := hide (by
      intro g6 cap6 w6 ho hg
      have e0 := HS0.out
      have hb : ∀ k, k < w0.heap.size → some k ≠ (Value.slice av m.vs.length cv).ownBlock → w6.heap[k]? = w0.heap[k]? := fun k hk hne => (hg.block k (by simp; omega) hne).trans (Below.heap_alloc _ _ _ hk)
      have hx6 : Bx w6 rb _ _ := (hb rb (by omega) (fun e => HNb.out e.symm)).trans HX0.out
      refine ⟨RB.pushV HR0.out (by omega) ⟨_, _, HX0.out⟩ ho hb, bsc ?_ rb 6 _ h.lt.2, hx6.c 6, hx6.f 6⟩
      have hbz := hB0.size
      exact Below.grown ((hB0.mono hlo).alloc (by omega) _) hg (by simp; omega) (fun k hk => (HLt.out k hk).1))
    have hrb := h.lt.2
    clear h h1 h2 h3 h4 hR0 hV hi0 hs0
    obtain ⟨n, hnn⟩ : ∃ n, n = m.vs.length := ⟨_, rfl⟩
    simp only [← hnn] at hc hca HPush H30 HLt HNb HX0 M1 hn hf hf' ⊢
    have HN := hide hnn
    clear hnn
    obtain ⟨a0, a1, a2, a3⟩ := v
    simp only at *
    go_enter Try.func102, Try.ntmps102
    go_upto_region 1 with fail
    rw [← hw0]
    clear hw0
    go_upto_region 3 with fail
    go_cut [23] from 5 to 32 (fun _ wx => RB wx rb lo tv { m with vs := m.vs ++ [⟨a0, a1, a2, a3⟩] } ∧ Below lo w wx)
    case first =>
      go_region_law
        (first
          | (refine step_append_lies _ rfl _ _ 25 rfl lo 74 i0 _ 4 32 Try.underlying25 Hi.out hz0 hz1 hz2 rfl (by decide) _ n _ rfl (H30.out.alloc _) ⟨w0.heap.size, 0, none⟩ 1 1 [.bool a0, .int .i64 a1, .int .i64 a2, .int .i64 a3] rfl rfl (news4 (heap_alloc_new w0 _)) HO1.out (by omega) M1.out (by omega) (by show lo ≤ (w0.alloc _).heap.size; simp; omega) _ rfl ?_; intro g6 cap6 w6 hown6 hgrow6 hat6 hlt6; obtain ⟨pr1, pr2, pr3, pr4⟩ := HPush.out g6 cap6 w6 hown6 ⟨hgrow6.os, hgrow6.tape, hgrow6.output, hgrow6.size, hgrow6.block⟩; have HPr := hide (And.intro pr1 pr2); clear hgrow6 hown6 hat6 pr1 pr2)
          | (go_simp; go_wp2_with fail))
      all_goals
        have hPr := HPr.out
        clear HPr pr3 pr4 hc hca v0 v1 v2 v3 hfz
        go_wp2_with fail
        go_meet
        exact hPr
    case rest =>
      obtain ⟨hRc, hBc⟩ := hcut
      obtain ⟨af', cf', av', cv', ab', cb', k1, -⟩ := hRc.slots
      have HRc := hide hRc
      have hck := k1.c
      have e1 : (m.vs ++ [(⟨a0, a1, a2, a3⟩ : Vl)]).length = n + 1 := by rw [List.length_append, HN.out]; rfl
      simp only [e1] at hck
      clear hRc k1 hc hca v0 v1 v2 v3 hfz HPush H30 HX0
      have hn5 : n ≤ 500 := hn
      go_wp2_with (first | (go_at_call 101; (with_reducible refine (come_any rb lo tv _ _ _ HRc.out).mono ?_); rintro e w7 ⟨rfl, hR7, hO7⟩))
      go_ret
      refine ⟨⟨rfl, ?_⟩, hBc.trans (hO7.below (Nat.le_trans hlo hBc.size) hrb)⟩
      exact hR7
end Go.Proofs.Ytdajalchdbgooaa.W

/-
  Trees handled by the specification: the contract of l9Handle. Conditions: a good handler, at most 60 cells. Written by wip/build/mk_hct.py.
-/
import Derived.Test.YtaddopoafaojdaaHcS
import Derived.Test.YtaddopoafaojdaaRwG
import Derived.Lib.QuietBelow
import Derived.Deep.RegionHeld3
import Derived.Deep.CutRange
namespace Go.Proofs.Ytaddopoafaojdaa.C
open Go.Proofs.Ytaddopoafaojdaa.W
open Go.ChangeShapes Go.WideShapes Go.ChangeAt Go.RowKit
set_option linter.unusedVariables false

/-- What l9Handle tells. -/
def HT (w : World) (x : Option Tr) (e : Ending) (w' : World) : Prop := ∃ (b : Bool) (n : Int) (a : Option Addr) (l c : Nat), e = .returned (.tuple #[.agg #[.bool b, .int .i64 n, .slice a l c], .bool x.isSome]) ∧ (∀ z, x = some z → CV w' (fun g => w.heap.size ≤ g) z (.agg #[.bool b, .int .i64 n, .slice a l c])) ∧ Below w.heap.size w w'
def HsGoal (q : Int) (R : List Ru) (ha : Option Addr) (hc : Nat) (t : Tr) : Prop := ∀ (u : Value) (P : Nat → Prop) (w : World), t.ok → CV w P t u → RuRow w ha R →
    Calls Try.prog 18 #[.agg #[.int .i64 q, .slice ha 3 hc], u] w (HT w (t.hnd ⟨q, R⟩))
theorem far3 {w : World} {b k o : Nat} {v : Value} (x y z : Value) (h : w.cell? ⟨k, o, none⟩ = some v) (hn : ¬ b = k) : (set3 w b x y z).cell? ⟨k, o, none⟩ = some v :=
  (World.cell?_of_block (w := w) (a := ⟨k, o, none⟩) (set3_ne w b x y z (fun e => hn e.symm))).trans h

set_option maxRecDepth 20000 in
set_option maxHeartbeats 4000000 in
theorem hnd_ret (q : Int) (R : List Ru) (ha : Option Addr) (hc : Nat) (hg : goodH ⟨q, R⟩ = true) (n : Int) : HsGoal q R ha hc (.ret n) := by
  intro u P w hok hT hRu
  obtain rfl : u = .agg #[.bool false, .int .i64 n, .slice none 0 0] := hT
  obtain ⟨q0, q1, -, -⟩ := goodH_parts hg
  have q0' : 0 ≤ q := q0
  have q1' : q ≤ 99 := q1
  have hn : 0 ≤ n ∧ n ≤ 99 := by simpa [Tr.ok, inB] using hok
  obtain ⟨n0, n1⟩ := hn
  unfold HT
  obtain ⟨w0, hw0⟩ : ∃ w0, w0 = ((w.alloc (.cells #[.int .i64 q, .slice ha 3 hc] 33)).alloc (.cells #[.bool false, .int .i64 n, .slice none 0 0] 44)).alloc (.cells #[.bool false, .int .i64 0, .slice none 0 0] 44) := ⟨_, rfl⟩
  have hB0 : Below w.heap.size w w0 := by rw [hw0]; exact (((Below.refl _ _).alloc (Nat.le_refl _) _).alloc (by simp) _).alloc (by simp; omega) _
  have hXh : Bx w0 w.heap.size #[.int .i64 q, .slice ha 3 hc] 33 := by rw [hw0]; exact ((Bx.new w _ _).alloc _).alloc _
  have hXt : Bx w0 (w.heap.size + 1) #[.bool false, .int .i64 n, .slice none 0 0] 44 := by
    rw [hw0]
    have := (Bx.new (w.alloc (.cells #[.int .i64 q, .slice ha 3 hc] 33)) #[.bool false, .int .i64 n, .slice none 0 0] 44).alloc (.cells #[.bool false, .int .i64 0, .slice none 0 0] 44)
    simpa using this
  have hXr : Bx w0 (w.heap.size + 1 + 1) #[.bool false, .int .i64 0, .slice none 0 0] 44 := by
    rw [hw0]
    have := Bx.new ((w.alloc (.cells #[.int .i64 q, .slice ha 3 hc] 33)).alloc (.cells #[.bool false, .int .i64 n, .slice none 0 0] 44)) #[.bool false, .int .i64 0, .slice none 0 0] 44
    simpa using this
  have ch := hXh.c
  have ct := hXt.c
  have cr := hXr.c
  have fr := hXr.f
  have HXr := hide hXr
  have HB0 := hide hB0
  have HW0 := hide hw0
  have hSum : Hid ((n + q) % 100 = (n + q).tmod 100) := hide (by rw [Int.tmod_eq_emod_of_nonneg (by omega)])
  clear hok hg hw0 hXh hXt hXr hB0 hRu q0 q1
  go_enter Try.func18, Try.ntmps18
  go_upto_region 1 with fail
  rw [← HW0.out]
  clear HW0
  go_wp2_with fail
  have hR := set3_at HXr.out (.bool false) (.int .i64 ((n + q) % 100)) (.slice none 0 0)
  have r0 := (cell_of_blk hR 0).trans rfl
  have r1 := (cell_of_blk hR 1).trans rfl
  have r2 := (cell_of_blk hR 2).trans rfl
  refine bodyPost_ret (v := .tuple #[.agg #[.bool false, .int .i64 ((n + q) % 100), .slice none 0 0], .bool true]) (by first | (simp [results, Try.results18, go_sem, r0, r1, r2]; done) | (simp [results, Try.results18, go_sem, r0, r1, r2]; omega)) rfl ⟨_, _, _, _, _, rfl, ?_, below_set3 HB0.out (by omega) _ _ _⟩
  intro z hz
  simp only [Tr.hnd, Option.some.injEq] at hz
  subst hz
  rfl

set_option maxRecDepth 20000 in
set_option maxHeartbeats 8000000 in
theorem hnd_ask (q : Int) (R : List Ru) (ha : Option Addr) (hc : Nat) (hg : goodH ⟨q, R⟩ = true) (xn : Int) (ta tb : Tr) (iha : HsGoal q R ha hc ta) (ihb : HsGoal q R ha hc tb) : HsGoal q R ha hc (.ask xn ta tb) := by
  intro u P w hok hT hRu
  obtain ⟨g, cap, ba, na, sa, bb, nb, sb, rfl, hP, hgl, c0, c1, c2, c3, c4, c5, h1, h2⟩ := hT
  obtain ⟨aad, al, ac, ea⟩ : ∃ aad al ac, sa = .slice aad al ac := by obtain ⟨_, _, ad, l, c, e⟩ := h1.form; simp at e; exact ⟨_, _, _, e.2.2⟩
  obtain ⟨bad, bl, bc, eb⟩ : ∃ bad bl bc, sb = .slice bad bl bc := by obtain ⟨_, _, ad, l, c, e⟩ := h2.form; simp at e; exact ⟨_, _, _, e.2.2⟩
  subst ea eb
  obtain ⟨⟨n0, n2⟩, hoa, hob⟩ := Tr.ask_in hok
  obtain ⟨hh, hre, hgr⟩ := ruAt_good hg n0 n2
  obtain ⟨hk, hk4, hk0⟩ := goodRu_kinds hgr
  obtain ⟨-, -, hR3, -⟩ := goodH_parts hg
  have hR3' : R.length = 3 := hR3
  obtain ⟨rb, ro, rfl, hrb, -⟩ := RuRow.tok hRu (Below.refl _ _) hh
  have HRu := hide hRu
  obtain ⟨m, rfl⟩ : ∃ m : Nat, xn = (m : Int) := ⟨xn.toNat, by omega⟩
  have hmR : m < R.length := by omega
  have hRc : ∀ w', Below w.heap.size w w' → w'.cell? ⟨rb, ro + m * 2, none⟩ = some (.int .i64 (ruAt ⟨q, R⟩ (m : Int)).kd) ∧ w'.cell? ⟨rb, ro + m * 2 + 1, none⟩ = some (.int .i64 (ruAt ⟨q, R⟩ (m : Int)).n) := fun w' hb => by
    obtain ⟨b', o', e, -, p0, p1⟩ := RuRow.tok HRu.out hb hmR
    simp only [Option.some.injEq, Addr.mk.injEq] at e
    obtain ⟨rfl, rfl, -⟩ := e
    have er : ruAt ⟨q, R⟩ (m : Int) = R[m] := hre
    rw [er]
    exact ⟨p0, p1⟩
  have HIa := hide (fun (w' : World) (hb : Below w.heap.size w w') => iha _ P w' hoa (h1.below hb) (RRow.below HRu.out hb))
  have HIb := hide (fun (w' : World) (hb : Below w.heap.size w w') => ihb _ P w' hob (h2.below hb) (RRow.below HRu.out hb))
  have Hoa : Hid (∀ z, ta.hnd ⟨q, R⟩ = some z → z.ok ∧ z.flat.length ≤ 60) := hide (fun z e => hnd_ok hg ta z hoa e)
  have Hob : Hid (∀ z, tb.hnd ⟨q, R⟩ = some z → z.ok ∧ z.flat.length ≤ 60) := hide (fun z e => hnd_ok hg tb z hob e)
  have HXr : Hid ((Tr.ask (m : Int) ta tb).hnd ⟨q, R⟩ = if (ruAt ⟨q, R⟩ (m : Int)).kd = 1 then ta.hnd ⟨q, R⟩ else if (ruAt ⟨q, R⟩ (m : Int)).kd = 2 then tb.hnd ⟨q, R⟩ else if (ruAt ⟨q, R⟩ (m : Int)).kd = 3 then bth (ta.hnd ⟨q, R⟩) (tb.hnd ⟨q, R⟩) else if (ruAt ⟨q, R⟩ (m : Int)).kd = 4 then some (.ret (ruAt ⟨q, R⟩ (m : Int)).n) else pas (m : Int) (ta.hnd ⟨q, R⟩) (tb.hnd ⟨q, R⟩)) := hide rfl
  rw [HXr.out]
  obtain ⟨rr, hrr⟩ : ∃ rr, rr = ruAt ⟨q, R⟩ (m : Int) := ⟨_, rfl⟩
  rw [← hrr] at hRc hk hk4 hk0 ⊢
  obtain ⟨rk, rn⟩ := rr
  simp only at hRc hk hk4 hk0 ⊢
  obtain ⟨xa, hxa⟩ : ∃ xa, xa = ta.hnd ⟨q, R⟩ := ⟨_, rfl⟩
  obtain ⟨xb, hxb⟩ : ∃ xb, xb = tb.hnd ⟨q, R⟩ := ⟨_, rfl⟩
  rw [← hxa] at HIa Hoa ⊢
  rw [← hxb] at HIb Hob ⊢
  unfold HT at HIa HIb
  have hm3 : (m : Int) < 3 := by omega
  have hm0 : (0 : Int) ≤ (m : Int) := by omega
  obtain ⟨w0, hw0⟩ : ∃ w0, w0 = ((w.alloc (.cells #[.int .i64 q, .slice (some ⟨rb, ro, none⟩) 3 hc] 33)).alloc (.cells #[.bool true, .int .i64 (m : Int), .slice (some ⟨g, 0, none⟩) 2 cap] 44)).alloc (.cells #[.bool false, .int .i64 0, .slice none 0 0] 44) := ⟨_, rfl⟩
  have hB0 : Below w.heap.size w w0 := by rw [hw0]; exact (((Below.refl _ _).alloc (Nat.le_refl _) _).alloc (by simp) _).alloc (by simp; omega) _
  have hXh : Bx w0 w.heap.size #[.int .i64 q, .slice (some ⟨rb, ro, none⟩) 3 hc] 33 := by rw [hw0]; exact ((Bx.new w _ _).alloc _).alloc _
  have hXt : Bx w0 (w.heap.size + 1) #[.bool true, .int .i64 (m : Int), .slice (some ⟨g, 0, none⟩) 2 cap] 44 := by
    rw [hw0]
    have := (Bx.new (w.alloc (.cells #[.int .i64 q, .slice (some ⟨rb, ro, none⟩) 3 hc] 33)) #[.bool true, .int .i64 (m : Int), .slice (some ⟨g, 0, none⟩) 2 cap] 44).alloc (.cells #[.bool false, .int .i64 0, .slice none 0 0] 44)
    simpa using this
  have hXr : Bx w0 (w.heap.size + 1 + 1) #[.bool false, .int .i64 0, .slice none 0 0] 44 := by
    rw [hw0]
    have := Bx.new ((w.alloc (.cells #[.int .i64 q, .slice (some ⟨rb, ro, none⟩) 3 hc] 33)).alloc (.cells #[.bool true, .int .i64 (m : Int), .slice (some ⟨g, 0, none⟩) 2 cap] 44)) #[.bool false, .int .i64 0, .slice none 0 0] 44
    simpa using this
  have hsz0 : w0.heap.size = w.heap.size + 1 + 1 + 1 := by rw [hw0]; simp
  obtain ⟨W, hW⟩ : ∃ W, W = w0.alloc (.cells #[.int .i64 rk, .int .i64 rn] 62) := ⟨_, rfl⟩
  have hbW : Below w0.heap.size w0 W := by rw [hW]; exact (Below.refl _ _).alloc (Nat.le_refl _) _
  have hB : Below w.heap.size w W := hB0.trans (hbW.mono hB0.size)
  have hXu : Bx W w0.heap.size #[.int .i64 rk, .int .i64 rn] 62 := by rw [hW]; exact Bx.new _ _ _
  have HXh := hide (hXh.below hbW hXh.lt)
  have HXt := hide (hXt.below hbW hXt.lt)
  have HXz := hide (hXr.below hbW hXr.lt)
  have HXu := hide hXu
  have HG : Hid (∀ w', Below w.heap.size w w' → w'.cell? ⟨g, 0, none⟩ = some (.bool ba) ∧ w'.cell? ⟨g, 1, none⟩ = some (.int .i64 na) ∧ w'.cell? ⟨g, 2, none⟩ = some (.slice aad al ac) ∧ w'.cell? ⟨g, 3, none⟩ = some (.bool bb) ∧ w'.cell? ⟨g, 4, none⟩ = some (.int .i64 nb) ∧ w'.cell? ⟨g, 5, none⟩ = some (.slice bad bl bc)) := hide (fun w' hb =>
    ⟨(hb.cell (p := ⟨g, 0, none⟩) hgl).trans c0, (hb.cell (p := ⟨g, 1, none⟩) hgl).trans c1, (hb.cell (p := ⟨g, 2, none⟩) hgl).trans c2, (hb.cell (p := ⟨g, 3, none⟩) hgl).trans c3, (hb.cell (p := ⟨g, 4, none⟩) hgl).trans c4, (hb.cell (p := ⟨g, 5, none⟩) hgl).trans c5⟩)
  have HB := hide hB
  have HW := hide hW
  have HW0 := hide hw0
  obtain ⟨s0, s1⟩ := hRc w0 hB0
  have ch := hXh.c
  have ct := hXt.c
  have hrl : rb < w0.heap.size := Nat.lt_of_lt_of_le hrb hB0.size
  have hWw : w.heap.size + 1 + 1 + 1 < W.heap.size := by have := hXu.lt; omega
  have HSz := hide hsz0
  obtain ⟨RES, hRES⟩ : ∃ RES, RES = (if rk = 1 then xa else if rk = 2 then xb else if rk = 3 then bth xa xb else if rk = 4 then some (.ret rn) else pas (m : Int) xa xb) := ⟨_, rfl⟩
  rw [← hRES]
  have HRE := hide hRES
  clear hRES hxa hxb hrr hok hRu hre hgr hR3 hR3' iha ihb h1 h2 c0 c1 c2 c3 c4 c5 hXh hXt hXr hXu hW hw0 hB hbW hsz0 hRc HXr hg hoa hob hh hmR n0 n2
  go_enter Try.func18, Try.ntmps18
  go_upto_region 1 with fail
  rw [← HW0.out]
  clear HW0
  go_upto_region 4 with fail
  rw [← HW.out]
  clear HW s0 s1 ch ct hrl
  have cu := HXu.out.c
  rw [HSz.out] at cu ⊢
  obtain rfl | rfl | rfl | rfl | rfl : rk = 1 ∨ rk = 2 ∨ rk = 3 ∨ rk = 4 ∨ rk = 5 := by omega
  · have HRs : Hid (RES = xa) := hide (by rw [HRE.out, if_pos rfl])
    have HOk : Hid (xa.isSome = RES.isSome) := hide (by rw [HRs.out])
    have hz1 := HXz.out.c
    go_upto_region 8 with fail
    clear cu hz1
    have HAll : Hid (∀ w', Below W.heap.size W w' → w'.cell? ⟨w.heap.size, 0, none⟩ = some (.int .i64 q) ∧ w'.cell? ⟨w.heap.size, 1, none⟩ = some (.slice (some ⟨rb, ro, none⟩) 3 hc) ∧ w'.cell? ⟨w.heap.size + 1, 2, none⟩ = some (.slice (some ⟨g, 0, none⟩) 2 cap) ∧ w'.cell? ⟨g, 0, none⟩ = some (.bool ba) ∧ w'.cell? ⟨g, 1, none⟩ = some (.int .i64 na) ∧ w'.cell? ⟨g, 2, none⟩ = some (.slice aad al ac)) := hide (fun w' hb => by
      obtain ⟨qa, qb, qc, qd, qe, qf⟩ := HG.out w' (HB.out.trans (hb.mono HB.out.size))
      exact ⟨((HXh.out.below hb HXh.out.lt).c 0).trans rfl, ((HXh.out.below hb HXh.out.lt).c 1).trans rfl, ((HXt.out.below hb HXt.out.lt).c 2).trans rfl, qa, qb, qc⟩)
    have HWB0 : Hid (Below W.heap.size W W.drew) := hide (belowDrew (Below.refl _ _))
    have HBd : Hid (Below w.heap.size w W.drew) := hide (belowDrew HB.out)
    obtain ⟨u0, u1, u2, u3, u4, u5⟩ := HAll.out W.drew HWB0.out
    have H44 := hide (HIa.out _ HBd.out)
    have hn0 : ¬ w.heap.size + 1 + 1 = w.heap.size := by omega
    have hn1 : ¬ w.heap.size + 1 + 1 = w.heap.size := by omega
    have hn2 : ¬ w.heap.size + 1 + 1 = w.heap.size + 1 := by omega
    have hn3 : ¬ w.heap.size + 1 + 1 = g := by omega
    have hn4 : ¬ w.heap.size + 1 + 1 = g := by omega
    have hn5 : ¬ w.heap.size + 1 + 1 = g := by omega
    go_region_held3 (fun w' => w'.cell? ⟨w.heap.size, 0, none⟩ = some (.int .i64 q) ∧ w'.cell? ⟨w.heap.size, 1, none⟩ = some (.slice (some ⟨rb, ro, none⟩) 3 hc) ∧ w'.cell? ⟨w.heap.size + 1, 2, none⟩ = some (.slice (some ⟨g, 0, none⟩) 2 cap) ∧ w'.cell? ⟨g, 0, none⟩ = some (.bool ba) ∧ w'.cell? ⟨g, 1, none⟩ = some (.int .i64 na) ∧ w'.cell? ⟨g, 2, none⟩ = some (.slice aad al ac)) (first | (with_reducible exact HAll.out _ HWB0.out) | (with_reducible exact HAll.out _ HWB1.out) | (with_reducible exact ⟨far3 _ _ _ y0 hn0, far3 _ _ _ y1 hn1, far3 _ _ _ y2 hn2, far3 _ _ _ y3 hn3, far3 _ _ _ y4 hn4, far3 _ _ _ y5 hn5⟩))
      (first
        | ((with_reducible refine Calls.mono H44.out ?_); rintro e W1 ⟨zb, zn, za, zl, zc, rfl, hv, hx⟩; have HWB1 : Hid (Below W.heap.size W W1) := hide (HWB0.out.trans (hx.mono HWB0.out.size)); obtain ⟨y0, y1, y2, y3, y4, y5⟩ := HAll.out W1 HWB1.out; have HV := hide hv; have hz := HXz.out.below HWB1.out HXz.out.lt; have cz := hz.c; have fz := hz.f; have HZ := hide hz; clear hv hx hz))
    all_goals
      clear u0 u1 u2 u3 u4 u5 y0 y1 y2 y3 y4 y5
      go_wp2_with fail
      have hBf : Below w.heap.size w W1 := HB.out.trans (HWB1.out.mono HB.out.size)
      have hR := set3_at HZ.out (.bool zb) (.int .i64 zn) (.slice za zl zc)
      have r0 := (cell_of_blk hR 0).trans rfl
      have r1 := (cell_of_blk hR 1).trans rfl
      have r2 := (cell_of_blk hR 2).trans rfl
      refine bodyPost_ret (v := .tuple #[.agg #[.bool zb, .int .i64 zn, .slice za zl zc], .bool xa.isSome]) (by first | (simp [results, Try.results18, go_sem, r0, r1, r2]; done) | (simp [results, Try.results18, go_sem, r0, r1, r2]; omega)) rfl ?_
      unfold HT
      refine ⟨_, _, _, _, _, by rw [← HOk.out], ?_, below_set3 hBf (by omega) _ _ _⟩
      intro z hz
      refine (HV.out z (by rw [← HRs.out]; exact hz)).keep (by show _ ≤ (set3 W1 (w.heap.size + 1 + 1) (.bool zb) (.int .i64 zn) (.slice za zl zc)).heap.size; rw [set3_size]; exact Nat.le_refl _) (fun k h1 h2 => ?_)
      have h1' : W.heap.size ≤ k := h1
      have hBs := HB.out.size
      exact ⟨set3_ne _ _ _ _ _ (by omega), by omega⟩
  · have HRs : Hid (RES = xb) := hide (by rw [HRE.out, if_neg (by decide), if_pos rfl])
    have HOk : Hid (xb.isSome = RES.isSome) := hide (by rw [HRs.out])
    have hz1 := HXz.out.c
    go_upto_region 10 with fail
    clear cu hz1
    have HAll : Hid (∀ w', Below W.heap.size W w' → w'.cell? ⟨w.heap.size, 0, none⟩ = some (.int .i64 q) ∧ w'.cell? ⟨w.heap.size, 1, none⟩ = some (.slice (some ⟨rb, ro, none⟩) 3 hc) ∧ w'.cell? ⟨w.heap.size + 1, 2, none⟩ = some (.slice (some ⟨g, 0, none⟩) 2 cap) ∧ w'.cell? ⟨g, 3, none⟩ = some (.bool bb) ∧ w'.cell? ⟨g, 4, none⟩ = some (.int .i64 nb) ∧ w'.cell? ⟨g, 5, none⟩ = some (.slice bad bl bc)) := hide (fun w' hb => by
      obtain ⟨qa, qb, qc, qd, qe, qf⟩ := HG.out w' (HB.out.trans (hb.mono HB.out.size))
      exact ⟨((HXh.out.below hb HXh.out.lt).c 0).trans rfl, ((HXh.out.below hb HXh.out.lt).c 1).trans rfl, ((HXt.out.below hb HXt.out.lt).c 2).trans rfl, qd, qe, qf⟩)
    have HWB0 : Hid (Below W.heap.size W W.drew) := hide (belowDrew (Below.refl _ _))
    have HBd : Hid (Below w.heap.size w W.drew) := hide (belowDrew HB.out)
    obtain ⟨u0, u1, u2, u3, u4, u5⟩ := HAll.out W.drew HWB0.out
    have H44 := hide (HIb.out _ HBd.out)
    have hn0 : ¬ w.heap.size + 1 + 1 = w.heap.size := by omega
    have hn1 : ¬ w.heap.size + 1 + 1 = w.heap.size := by omega
    have hn2 : ¬ w.heap.size + 1 + 1 = w.heap.size + 1 := by omega
    have hn3 : ¬ w.heap.size + 1 + 1 = g := by omega
    have hn4 : ¬ w.heap.size + 1 + 1 = g := by omega
    have hn5 : ¬ w.heap.size + 1 + 1 = g := by omega
    go_region_held3 (fun w' => w'.cell? ⟨w.heap.size, 0, none⟩ = some (.int .i64 q) ∧ w'.cell? ⟨w.heap.size, 1, none⟩ = some (.slice (some ⟨rb, ro, none⟩) 3 hc) ∧ w'.cell? ⟨w.heap.size + 1, 2, none⟩ = some (.slice (some ⟨g, 0, none⟩) 2 cap) ∧ w'.cell? ⟨g, 3, none⟩ = some (.bool bb) ∧ w'.cell? ⟨g, 4, none⟩ = some (.int .i64 nb) ∧ w'.cell? ⟨g, 5, none⟩ = some (.slice bad bl bc)) (first | (with_reducible exact HAll.out _ HWB0.out) | (with_reducible exact HAll.out _ HWB1.out) | (with_reducible exact ⟨far3 _ _ _ y0 hn0, far3 _ _ _ y1 hn1, far3 _ _ _ y2 hn2, far3 _ _ _ y3 hn3, far3 _ _ _ y4 hn4, far3 _ _ _ y5 hn5⟩))
      (first
        | ((with_reducible refine Calls.mono H44.out ?_); rintro e W1 ⟨zb, zn, za, zl, zc, rfl, hv, hx⟩; have HWB1 : Hid (Below W.heap.size W W1) := hide (HWB0.out.trans (hx.mono HWB0.out.size)); obtain ⟨y0, y1, y2, y3, y4, y5⟩ := HAll.out W1 HWB1.out; have HV := hide hv; have hz := HXz.out.below HWB1.out HXz.out.lt; have cz := hz.c; have fz := hz.f; have HZ := hide hz; clear hv hx hz))
    all_goals
      clear u0 u1 u2 u3 u4 u5 y0 y1 y2 y3 y4 y5
      go_wp2_with fail
      have hBf : Below w.heap.size w W1 := HB.out.trans (HWB1.out.mono HB.out.size)
      have hR := set3_at HZ.out (.bool zb) (.int .i64 zn) (.slice za zl zc)
      have r0 := (cell_of_blk hR 0).trans rfl
      have r1 := (cell_of_blk hR 1).trans rfl
      have r2 := (cell_of_blk hR 2).trans rfl
      refine bodyPost_ret (v := .tuple #[.agg #[.bool zb, .int .i64 zn, .slice za zl zc], .bool xb.isSome]) (by first | (simp [results, Try.results18, go_sem, r0, r1, r2]; done) | (simp [results, Try.results18, go_sem, r0, r1, r2]; omega)) rfl ?_
      unfold HT
      refine ⟨_, _, _, _, _, by rw [← HOk.out], ?_, below_set3 hBf (by omega) _ _ _⟩
      intro z hz
      refine (HV.out z (by rw [← HRs.out]; exact hz)).keep (by show _ ≤ (set3 W1 (w.heap.size + 1 + 1) (.bool zb) (.int .i64 zn) (.slice za zl zc)).heap.size; rw [set3_size]; exact Nat.le_refl _) (fun k h1 h2 => ?_)
      have h1' : W.heap.size ≤ k := h1
      have hBs := HB.out.size
      exact ⟨set3_ne _ _ _ _ _ (by omega), by omega⟩
  · have HRs : Hid (RES = bth xa xb) := hide (by rw [HRE.out, if_neg (by decide), if_neg (by decide), if_pos rfl])
    clear HRE hk hk4 hk0
    go_upto_region 11 with fail
    clear cu
    obtain ⟨OKa, hOKa⟩ : ∃ OKa, OKa = xa.isSome := ⟨_, rfl⟩
    rw [← hOKa] at HIa
    have HOKa := hide hOKa
    clear hOKa
    go_upto_region 11 with fail
    have HAll : Hid (∀ w', Below W.heap.size W w' → w'.cell? ⟨w.heap.size, 0, none⟩ = some (.int .i64 q) ∧ w'.cell? ⟨w.heap.size, 1, none⟩ = some (.slice (some ⟨rb, ro, none⟩) 3 hc) ∧ w'.cell? ⟨w.heap.size + 1, 2, none⟩ = some (.slice (some ⟨g, 0, none⟩) 2 cap) ∧ w'.cell? ⟨g, 0, none⟩ = some (.bool ba) ∧ w'.cell? ⟨g, 1, none⟩ = some (.int .i64 na) ∧ w'.cell? ⟨g, 2, none⟩ = some (.slice aad al ac)) := hide (fun w' hb => by
      obtain ⟨qa, qb, qc, qd, qe, qf⟩ := HG.out w' (HB.out.trans (hb.mono HB.out.size))
      exact ⟨((HXh.out.below hb HXh.out.lt).c 0).trans rfl, ((HXh.out.below hb HXh.out.lt).c 1).trans rfl, ((HXt.out.below hb HXt.out.lt).c 2).trans rfl, qa, qb, qc⟩)
    have HWB0 : Hid (Below W.heap.size W W.drew) := hide (belowDrew (Below.refl _ _))
    have HWBa : Hid (Below W.heap.size W (W.alloc (.cells #[.bool false, .int .i64 0, .slice none 0 0] 44)).drew) := hide (belowDrew ((Below.refl _ _).alloc (Nat.le_refl _) _))
    have HC0 := hide (HIa.out _ ((HB.out).trans (HWB0.out.mono (HB.out).size)))
    have HCa := hide (HIa.out _ ((HB.out).trans (HWBa.out.mono (HB.out).size)))
    go_cut [7, 8] from 55 to 63 (fun v o wx => ∃ (BBa : Nat) (p0 : Bool) (p1 : Int) (p2 : Option Addr) (p3 p4 : Nat), v = .pointer (some ⟨BBa, 0, none⟩) ∧ o = .bool OKa ∧ W.heap.size ≤ BBa ∧ Bx wx BBa #[.bool p0, .int .i64 p1, .slice p2 p3 p4] 44 ∧ (∀ z, xa = some z → CV wx (fun k => W.heap.size ≤ k ∧ k ≠ BBa) z (.agg #[.bool p0, .int .i64 p1, .slice p2 p3 p4])) ∧ Below W.heap.size W wx)
    case first =>
      obtain ⟨u0, u1, u2, u3, u4, u5⟩ := HAll.out W.drew HWB0.out
      obtain ⟨q0, q1, q2, q3, q4, q5⟩ := HAll.out _ HWBa.out
      have hn0 : ¬ W.heap.size = w.heap.size := by have := HXt.out.lt; have := (HB.out).size; omega
      have hn1 : ¬ W.heap.size = w.heap.size := by have := HXt.out.lt; have := (HB.out).size; omega
      have hn2 : ¬ W.heap.size = w.heap.size + 1 := by have := HXt.out.lt; have := (HB.out).size; omega
      have hn3 : ¬ W.heap.size = g := by have := HXt.out.lt; have := (HB.out).size; omega
      have hn4 : ¬ W.heap.size = g := by have := HXt.out.lt; have := (HB.out).size; omega
      have hn5 : ¬ W.heap.size = g := by have := HXt.out.lt; have := (HB.out).size; omega
      go_region_held3 (fun w' => w'.cell? ⟨w.heap.size, 0, none⟩ = some (.int .i64 q) ∧ w'.cell? ⟨w.heap.size, 1, none⟩ = some (.slice (some ⟨rb, ro, none⟩) 3 hc) ∧ w'.cell? ⟨w.heap.size + 1, 2, none⟩ = some (.slice (some ⟨g, 0, none⟩) 2 cap) ∧ w'.cell? ⟨g, 0, none⟩ = some (.bool ba) ∧ w'.cell? ⟨g, 1, none⟩ = some (.int .i64 na) ∧ w'.cell? ⟨g, 2, none⟩ = some (.slice aad al ac)) (first | (with_reducible exact HAll.out _ HWB0.out) | (with_reducible exact HAll.out _ HWBa.out) | (with_reducible exact HAll.out _ HWB1.out) | (with_reducible exact HAll.out _ HWB2.out) | (with_reducible exact HAll.out _ HWB3.out) | (with_reducible exact ⟨far3 _ _ _ y0 hn0, far3 _ _ _ y1 hn1, far3 _ _ _ y2 hn2, far3 _ _ _ y3 hn3, far3 _ _ _ y4 hn4, far3 _ _ _ y5 hn5⟩))
        (first
          | ((with_reducible refine Calls.mono HC0.out ?_); rintro e W1 ⟨zb, zn, za, zl, zc, rfl, hv, hx⟩; have HWB1 : Hid (Below W.heap.size W W1) := hide (HWB0.out.trans (hx.mono HWB0.out.size)); have HWB2 : Hid (Below W.heap.size W (W1.alloc (.cells #[.bool false, .int .i64 0, .slice none 0 0] 44))) := hide (HWB1.out.alloc HWB1.out.size _); have HWB3 : Hid (Below W.heap.size W (W1.alloc (.cells #[.bool zb, .int .i64 zn, .slice za zl zc] 44))) := hide (HWB1.out.alloc HWB1.out.size _); obtain ⟨y0, y1, y2, y3, y4, y5⟩ := HAll.out W1 HWB1.out; obtain ⟨t0, t1, t2, t3, t4, t5⟩ := HAll.out _ HWB2.out; obtain ⟨v0, v1, v2, v3, v4, v5⟩ := HAll.out _ HWB3.out; have HV := hide hv; have hx1 := hx.size; clear hv hx)
          | ((with_reducible refine Calls.mono HCa.out ?_); rintro e W1 ⟨zb, zn, za, zl, zc, rfl, hv, hx⟩; have HWB1 : Hid (Below W.heap.size W W1) := hide (HWBa.out.trans (hx.mono HWBa.out.size)); have HWB2 : Hid (Below W.heap.size W (W1.alloc (.cells #[.bool false, .int .i64 0, .slice none 0 0] 44))) := hide (HWB1.out.alloc HWB1.out.size _); have HWB3 : Hid (Below W.heap.size W (W1.alloc (.cells #[.bool zb, .int .i64 zn, .slice za zl zc] 44))) := hide (HWB1.out.alloc HWB1.out.size _); obtain ⟨y0, y1, y2, y3, y4, y5⟩ := HAll.out W1 HWB1.out; obtain ⟨t0, t1, t2, t3, t4, t5⟩ := HAll.out _ HWB2.out; obtain ⟨v0, v1, v2, v3, v4, v5⟩ := HAll.out _ HWB3.out; have HV := hide hv; have hx1 := hx.size; have hxx := ((Bx.new W #[.bool false, .int .i64 0, .slice none 0 0] 44).drew).below hx (by simp); have cxx := hxx.c; have fxx := hxx.f; have HXx := hide hxx; clear hxx; clear hv hx))
      all_goals
        go_wp2_with fail
        go_meet
        clear u0 u1 u2 u3 u4 u5 q0 q1 q2 q3 q4 q5 y0 y1 y2 y3 y4 y5 t0 t1 t2 t3 t4 t5 v0 v1 v2 v3 v4 v5
        first
          | exact ⟨W1.heap.size, zb, zn, za, zl, zc, rfl, rfl, HWB1.out.size, Bx.new _ _ _, fun z hz => (HV.out z hz).keep (by simp) (fun k h1 h2 => ⟨heap_alloc_old _ _ h2, by have h1' : W.drew.heap.size ≤ k := h1; exact h1', by omega⟩), HWB3.out⟩
          | exact ⟨W.heap.size, zb, zn, za, zl, zc, rfl, rfl, Nat.le_refl _, set3_at HXx.out _ _ _, fun z hz => (HV.out z hz).keep (by show _ ≤ (set3 W1 W.heap.size _ _ _).heap.size; rw [set3_size]; exact Nat.le_refl _) (fun k h1 h2 => by
              have h1' : W.heap.size + 1 ≤ k := by have := h1; simpa using this
              exact ⟨set3_ne _ _ _ _ _ (by omega), by omega, by omega⟩), below_set3 HWB1.out (Nat.le_refl _) _ _ _⟩
    case rest =>
      obtain ⟨BBa, p0, p1, p2, p3, p4, rfl, rfl, hBa, hXa, hVa, hBc⟩ := hcut
      obtain ⟨X, hX⟩ : ∃ X, X = wc := ⟨_, rfl⟩
      subst hX
      have HXa := hide hXa
      have HVa := hide hVa
      have HBc := hide hBc
      have HBX := hide (HB.out.trans (hBc.mono HB.out.size))
      replace HXh := hide (HXh.out.below hBc HXh.out.lt)
      replace HXt := hide (HXt.out.below hBc HXt.out.lt)
      replace HXz := hide (HXz.out.below hBc HXz.out.lt)
      replace HXu := hide (HXu.out.below hBc HXu.out.lt)
      have hXl := hXa.lt
      have hWX := hBc.size
      clear hXa hVa hBc HAll HWB0 HWBa HC0 HCa
      obtain ⟨OKb, hOKb⟩ : ∃ OKb, OKb = xb.isSome := ⟨_, rfl⟩
      rw [← hOKb] at HIb
      have HOKb := hide hOKb
      clear hOKb
      go_upto_region 12 with fail
      have HAll : Hid (∀ w', Below X.heap.size X w' → w'.cell? ⟨w.heap.size, 0, none⟩ = some (.int .i64 q) ∧ w'.cell? ⟨w.heap.size, 1, none⟩ = some (.slice (some ⟨rb, ro, none⟩) 3 hc) ∧ w'.cell? ⟨w.heap.size + 1, 2, none⟩ = some (.slice (some ⟨g, 0, none⟩) 2 cap) ∧ w'.cell? ⟨g, 3, none⟩ = some (.bool bb) ∧ w'.cell? ⟨g, 4, none⟩ = some (.int .i64 nb) ∧ w'.cell? ⟨g, 5, none⟩ = some (.slice bad bl bc)) := hide (fun w' hb => by
        obtain ⟨qa, qb, qc, qd, qe, qf⟩ := HG.out w' (HBX.out.trans (hb.mono HBX.out.size))
        exact ⟨((HXh.out.below hb HXh.out.lt).c 0).trans rfl, ((HXh.out.below hb HXh.out.lt).c 1).trans rfl, ((HXt.out.below hb HXt.out.lt).c 2).trans rfl, qd, qe, qf⟩)
      have HWB0 : Hid (Below X.heap.size X X.drew) := hide (belowDrew (Below.refl _ _))
      have HWBa : Hid (Below X.heap.size X (X.alloc (.cells #[.bool false, .int .i64 0, .slice none 0 0] 44)).drew) := hide (belowDrew ((Below.refl _ _).alloc (Nat.le_refl _) _))
      have HC0 := hide (HIb.out _ ((HBX.out).trans (HWB0.out.mono (HBX.out).size)))
      have HCa := hide (HIb.out _ ((HBX.out).trans (HWBa.out.mono (HBX.out).size)))
      go_cut [9, 10] from 64 to 72 (fun v o wx => ∃ (BBb : Nat) (p0 : Bool) (p1 : Int) (p2 : Option Addr) (p3 p4 : Nat), v = .pointer (some ⟨BBb, 0, none⟩) ∧ o = .bool OKb ∧ X.heap.size ≤ BBb ∧ Bx wx BBb #[.bool p0, .int .i64 p1, .slice p2 p3 p4] 44 ∧ (∀ z, xb = some z → CV wx (fun k => X.heap.size ≤ k ∧ k ≠ BBb) z (.agg #[.bool p0, .int .i64 p1, .slice p2 p3 p4])) ∧ Below X.heap.size X wx)
      case first =>
        obtain ⟨u0, u1, u2, u3, u4, u5⟩ := HAll.out X.drew HWB0.out
        obtain ⟨q0, q1, q2, q3, q4, q5⟩ := HAll.out _ HWBa.out
        have hn0 : ¬ X.heap.size = w.heap.size := by have := HXt.out.lt; have := (HBX.out).size; omega
        have hn1 : ¬ X.heap.size = w.heap.size := by have := HXt.out.lt; have := (HBX.out).size; omega
        have hn2 : ¬ X.heap.size = w.heap.size + 1 := by have := HXt.out.lt; have := (HBX.out).size; omega
        have hn3 : ¬ X.heap.size = g := by have := HXt.out.lt; have := (HBX.out).size; omega
        have hn4 : ¬ X.heap.size = g := by have := HXt.out.lt; have := (HBX.out).size; omega
        have hn5 : ¬ X.heap.size = g := by have := HXt.out.lt; have := (HBX.out).size; omega
        go_region_held3 (fun w' => w'.cell? ⟨w.heap.size, 0, none⟩ = some (.int .i64 q) ∧ w'.cell? ⟨w.heap.size, 1, none⟩ = some (.slice (some ⟨rb, ro, none⟩) 3 hc) ∧ w'.cell? ⟨w.heap.size + 1, 2, none⟩ = some (.slice (some ⟨g, 0, none⟩) 2 cap) ∧ w'.cell? ⟨g, 3, none⟩ = some (.bool bb) ∧ w'.cell? ⟨g, 4, none⟩ = some (.int .i64 nb) ∧ w'.cell? ⟨g, 5, none⟩ = some (.slice bad bl bc)) (first | (with_reducible exact HAll.out _ HWB0.out) | (with_reducible exact HAll.out _ HWBa.out) | (with_reducible exact HAll.out _ HWB1.out) | (with_reducible exact HAll.out _ HWB2.out) | (with_reducible exact HAll.out _ HWB3.out) | (with_reducible exact ⟨far3 _ _ _ y0 hn0, far3 _ _ _ y1 hn1, far3 _ _ _ y2 hn2, far3 _ _ _ y3 hn3, far3 _ _ _ y4 hn4, far3 _ _ _ y5 hn5⟩))
          (first
            | ((with_reducible refine Calls.mono HC0.out ?_); rintro e W1 ⟨zb, zn, za, zl, zc, rfl, hv, hx⟩; have HWB1 : Hid (Below X.heap.size X W1) := hide (HWB0.out.trans (hx.mono HWB0.out.size)); have HWB2 : Hid (Below X.heap.size X (W1.alloc (.cells #[.bool false, .int .i64 0, .slice none 0 0] 44))) := hide (HWB1.out.alloc HWB1.out.size _); have HWB3 : Hid (Below X.heap.size X (W1.alloc (.cells #[.bool zb, .int .i64 zn, .slice za zl zc] 44))) := hide (HWB1.out.alloc HWB1.out.size _); obtain ⟨y0, y1, y2, y3, y4, y5⟩ := HAll.out W1 HWB1.out; obtain ⟨t0, t1, t2, t3, t4, t5⟩ := HAll.out _ HWB2.out; obtain ⟨v0, v1, v2, v3, v4, v5⟩ := HAll.out _ HWB3.out; have HV := hide hv; have hx1 := hx.size; clear hv hx)
            | ((with_reducible refine Calls.mono HCa.out ?_); rintro e W1 ⟨zb, zn, za, zl, zc, rfl, hv, hx⟩; have HWB1 : Hid (Below X.heap.size X W1) := hide (HWBa.out.trans (hx.mono HWBa.out.size)); have HWB2 : Hid (Below X.heap.size X (W1.alloc (.cells #[.bool false, .int .i64 0, .slice none 0 0] 44))) := hide (HWB1.out.alloc HWB1.out.size _); have HWB3 : Hid (Below X.heap.size X (W1.alloc (.cells #[.bool zb, .int .i64 zn, .slice za zl zc] 44))) := hide (HWB1.out.alloc HWB1.out.size _); obtain ⟨y0, y1, y2, y3, y4, y5⟩ := HAll.out W1 HWB1.out; obtain ⟨t0, t1, t2, t3, t4, t5⟩ := HAll.out _ HWB2.out; obtain ⟨v0, v1, v2, v3, v4, v5⟩ := HAll.out _ HWB3.out; have HV := hide hv; have hx1 := hx.size; have hxx := ((Bx.new X #[.bool false, .int .i64 0, .slice none 0 0] 44).drew).below hx (by simp); have cxx := hxx.c; have fxx := hxx.f; have HXx := hide hxx; clear hxx; clear hv hx))
        all_goals
          go_wp2_with fail
          go_meet
          clear u0 u1 u2 u3 u4 u5 q0 q1 q2 q3 q4 q5 y0 y1 y2 y3 y4 y5 t0 t1 t2 t3 t4 t5 v0 v1 v2 v3 v4 v5
          first
            | exact ⟨W1.heap.size, zb, zn, za, zl, zc, rfl, rfl, HWB1.out.size, Bx.new _ _ _, fun z hz => (HV.out z hz).keep (by simp) (fun k h1 h2 => ⟨heap_alloc_old _ _ h2, by have h1' : X.drew.heap.size ≤ k := h1; exact h1', by omega⟩), HWB3.out⟩
            | exact ⟨X.heap.size, zb, zn, za, zl, zc, rfl, rfl, Nat.le_refl _, set3_at HXx.out _ _ _, fun z hz => (HV.out z hz).keep (by show _ ≤ (set3 W1 X.heap.size _ _ _).heap.size; rw [set3_size]; exact Nat.le_refl _) (fun k h1 h2 => by
                have h1' : X.heap.size + 1 ≤ k := by have := h1; simpa using this
                exact ⟨set3_ne _ _ _ _ _ (by omega), by omega, by omega⟩), below_set3 HWB1.out (Nat.le_refl _) _ _ _⟩
      case rest =>
        obtain ⟨BBb, m0, m1, m2, m3, m4, rfl, rfl, hBb, hXb, hVb, hBc⟩ := hcut
        obtain ⟨Y, hY⟩ : ∃ Y, Y = wc := ⟨_, rfl⟩
        subst hY
        have HXb := hide hXb
        have HVb := hide hVb
        have HBY := hide (HBX.out.trans (hBc.mono HBX.out.size))
        have HXa2 := hide (HXa.out.below hBc hXl)
        have HVa2 : Hid (∀ z, xa = some z → CV Y (fun k => W.heap.size ≤ k ∧ k ≠ BBa) z (.agg #[.bool p0, .int .i64 p1, .slice p2 p3 p4])) := hide (fun z hz => (HVa.out z hz).below hBc)
        have HXt2 := hide (HXt.out.below hBc HXt.out.lt)
        have HXu2 := hide (HXu.out.below hBc HXu.out.lt)
        have HZ := hide (HXz.out.below hBc HXz.out.lt)
        have hXY := hBc.size
        clear hXb hVb hBc HAll HWB0 HWBa HC0 HCa HXa HVa HXh HXt HXz HXu HIa HIb HG
        have hRW : w.heap.size + 1 + 1 < W.heap.size := by omega
        cases OKa with
        | false =>
          have hxa : xa = none := by have := HOKa.out; cases xa with | none => rfl | some a => simp at this
          have HNone : Hid (RES = none) := hide (by rw [HRs.out, hxa]; rfl)
          clear hxa
          have HOk : Hid (false = RES.isSome) := hide (by rw [HNone.out]; rfl)
          have hz1 := HZ.out.c
          have hz2 := HZ.out.f
          go_wp2_with fail
          have hR := set3_at HZ.out (.bool false) (.int .i64 0) (.slice none 0 0)
          have r0 := (cell_of_blk hR 0).trans rfl
          have r1 := (cell_of_blk hR 1).trans rfl
          have r2 := (cell_of_blk hR 2).trans rfl
          refine bodyPost_ret (v := .tuple #[.agg #[.bool false, .int .i64 0, .slice none 0 0], .bool false]) (by first | (simp [results, Try.results18, go_sem, r0, r1, r2]; done) | (simp [results, Try.results18, go_sem, r0, r1, r2]; omega)) rfl ?_
          unfold HT
          refine ⟨_, _, _, _, _, by rw [← HOk.out], ?_, below_set3 HBY.out (by omega) _ _ _⟩
          intro z hz
          rw [HNone.out] at hz
          cases hz
        | true =>
          cases OKb with
          | false =>
            have hxb : xb = none := by have := HOKb.out; cases xb with | none => rfl | some a => simp at this
            have HNone : Hid (RES = none) := hide (by rw [HRs.out, hxb]; cases xa <;> rfl)
            clear hxb
            have HOk : Hid (false = RES.isSome) := hide (by rw [HNone.out]; rfl)
            have hz1 := HZ.out.c
            have hz2 := HZ.out.f
            go_wp2_with fail
            have hR := set3_at HZ.out (.bool false) (.int .i64 0) (.slice none 0 0)
            have r0 := (cell_of_blk hR 0).trans rfl
            have r1 := (cell_of_blk hR 1).trans rfl
            have r2 := (cell_of_blk hR 2).trans rfl
            refine bodyPost_ret (v := .tuple #[.agg #[.bool false, .int .i64 0, .slice none 0 0], .bool false]) (by first | (simp [results, Try.results18, go_sem, r0, r1, r2]; done) | (simp [results, Try.results18, go_sem, r0, r1, r2]; omega)) rfl ?_
            unfold HT
            refine ⟨_, _, _, _, _, by rw [← HOk.out], ?_, below_set3 HBY.out (by omega) _ _ _⟩
            intro z hz
            rw [HNone.out] at hz
            cases hz
          | true =>
            obtain ⟨a, ea⟩ : ∃ a, xa = some a := by have := HOKa.out; cases xa with | none => simp at this | some a => exact ⟨a, rfl⟩
            obtain ⟨b, eb⟩ : ∃ b, xb = some b := by have := HOKb.out; cases xb with | none => simp at this | some a => exact ⟨a, rfl⟩
            obtain ⟨hao, ha6⟩ := Hoa.out a ea
            obtain ⟨hbo, hb6⟩ := Hob.out b eb
            have HCa := hide (HVa2.out a ea)
            have HCb := hide (HVb.out b eb)
            rw [ea, eb] at HRs
            have hpa := a.flat_pos
            have hpb := b.flat_pos
            clear ea eb HVa2 HVb Hoa Hob HOKa HOKb
            have HWl := hide (Tr.wit_len b a)
            have HWo : Hid ((a.wit b).ok) := hide (Tr.wit_ok hao hbo)
            have hlv := a.lvs_le
            have HAll : Hid (∀ w', Below Y.heap.size Y w' → w'.cell? ⟨BBa, 0, none⟩ = some (.bool p0) ∧ w'.cell? ⟨BBa, 1, none⟩ = some (.int .i64 p1) ∧ w'.cell? ⟨BBa, 2, none⟩ = some (.slice p2 p3 p4) ∧ w'.cell? ⟨BBb, 0, none⟩ = some (.bool m0) ∧ w'.cell? ⟨BBb, 1, none⟩ = some (.int .i64 m1) ∧ w'.cell? ⟨BBb, 2, none⟩ = some (.slice m2 m3 m4)) := hide (fun w' hb => by
              have ca := (HXa2.out.below hb HXa2.out.lt).c
              have cb := (HXb.out.below hb HXb.out.lt).c
              exact ⟨(ca 0).trans rfl, (ca 1).trans rfl, (ca 2).trans rfl, (cb 0).trans rfl, (cb 1).trans rfl, (cb 2).trans rfl⟩)
            have HWB0 : Hid (Below Y.heap.size Y Y.drew) := hide (belowDrew (Below.refl _ _))
            have HSa := hide (fun (w' : World) (hb : Below Y.heap.size Y w') => l9Size_any a _ _ w' (by omega) (HCa.out.below hb))
            have HLa := hide (fun (w' : World) (hb : Below Y.heap.size Y w') => l9Leaves_any a _ _ w' (by omega) (HCa.out.below hb))
            have HSb := hide (fun (w' : World) (hb : Below Y.heap.size Y w') => l9Size_any b _ _ w' (by omega) (HCb.out.below hb))
            have HWi := hide (fun (w' : World) (hb : Below Y.heap.size Y w') => l9With_any b a _ _ _ _ w' hbo hao (HCa.out.below hb) (HCb.out.below hb))
            obtain ⟨LA, hLA⟩ : ∃ LA, LA = a.flat.length := ⟨_, rfl⟩
            obtain ⟨LB, hLB⟩ : ∃ LB, LB = b.flat.length := ⟨_, rfl⟩
            obtain ⟨VA, hVA⟩ : ∃ VA, VA = a.lvs := ⟨_, rfl⟩
            rw [← hLA] at HSa HWl ha6 hlv
            rw [← hLB] at HSb HWl hb6 hpb
            rw [← hVA] at HLa HWl hlv
            obtain ⟨PR, hPR⟩ : ∃ PR : Nat, PR = VA * (LB - 1) := ⟨_, rfl⟩
            have hPi : (VA : Int) * ((LB : Int) - 1) = (PR : Int) := by rw [hPR, Int.natCast_mul, Int.natCast_sub (by omega)]; rfl
            have hPb : PR ≤ 3600 := by rw [hPR]; exact Nat.le_trans (Nat.mul_le_mul (show VA ≤ 60 by omega) (show LB - 1 ≤ 60 by omega)) (by decide)
            rw [← hPR] at HWl
            have k1 : IntKind.i64.wrap ((LB : Int) - 1) = (LB : Int) - 1 := by rw [IntKind.wrap_i64]; omega
            have k2 : IntKind.i64.wrap ((VA : Int) * ((LB : Int) - 1)) = (PR : Int) := by rw [hPi, IntKind.wrap_i64]; omega
            have k3 : IntKind.i64.wrap ((LA : Int) + (PR : Int)) = (LA : Int) + (PR : Int) := by rw [IntKind.wrap_i64]; omega
            have k4 : IntKind.i64.wrap (PR : Int) = (PR : Int) := by rw [IntKind.wrap_i64]; omega
            have cu := HXu2.out.c
            rw [HSz.out] at cu
            clear hLA hLB hVA hPR hpa
            go_wp2_with fail
            clear cu
            obtain ⟨u0, u1, u2, u3, u4, u5⟩ := HAll.out Y.drew HWB0.out
            go_region_held3 (fun w' => w'.cell? ⟨BBa, 0, none⟩ = some (.bool p0) ∧ w'.cell? ⟨BBa, 1, none⟩ = some (.int .i64 p1) ∧ w'.cell? ⟨BBa, 2, none⟩ = some (.slice p2 p3 p4) ∧ w'.cell? ⟨BBb, 0, none⟩ = some (.bool m0) ∧ w'.cell? ⟨BBb, 1, none⟩ = some (.int .i64 m1) ∧ w'.cell? ⟨BBb, 2, none⟩ = some (.slice m2 m3 m4)) (first | (with_reducible exact HAll.out _ HWB0.out) | (with_reducible exact HAll.out _ HWB1.out) | (with_reducible exact HAll.out _ HWB2.out) | (with_reducible exact HAll.out _ HWB3.out))
              (first
                | ((with_reducible refine Calls.mono (HSb.out _ HWB2.out) ?_); rintro e W3 ⟨rfl, hx⟩; have HWB3 : Hid (Below Y.heap.size Y W3) := hide (HWB2.out.trans (hx.mono HWB2.out.size)); clear hx)
                | ((with_reducible refine Calls.mono (HLa.out _ HWB1.out) ?_); rintro e W2 ⟨rfl, hx⟩; have HWB2 : Hid (Below Y.heap.size Y W2) := hide (HWB1.out.trans (hx.mono HWB1.out.size)); clear hx)
                | ((with_reducible refine Calls.mono (HSa.out _ HWB0.out) ?_); rintro e W1 ⟨rfl, hx⟩; have HWB1 : Hid (Below Y.heap.size Y W1) := hide (HWB0.out.trans (hx.mono HWB0.out.size)); clear hx))
            all_goals
              clear u0 u1 u2 u3 u4 u5
              have HB3 := hide (HBY.out.trans (HWB3.out.mono HBY.out.size))
              have HZ3 := hide (HZ.out.below HWB3.out HZ.out.lt)
              clear HZ
              have HZ := HZ3
              clear HZ3
              by_cases hfit : (LA : Int) + (PR : Int) ≤ 60
              · have hfi : ¬ (60 : Int) < (LA : Int) + (PR : Int) := by omega
                have HSome : Hid (RES = some (a.wit b)) := hide (by rw [HRs.out]; unfold bth; simp only; rw [if_pos (by rw [HWl.out]; omega)])
                have HOk : Hid (true = RES.isSome) := hide (by rw [HSome.out]; rfl)
                obtain ⟨t0, t1, t2, t3, t4, t5⟩ := HAll.out W3 HWB3.out
                go_wp2_with fail
                refine Calls.mono (HWi.out _ HWB3.out) ?_
                rintro e W4 ⟨vz, rfl, hv, hx⟩
                obtain ⟨zb, zn, za, zl, zc, rfl⟩ := hv.form
                have HV := hide hv
                have hz := HZ.out.below hx HZ.out.lt
                have hz1 := hz.c
                have hz2 := hz.f
                have HZ4 := hide hz
                have HB4 := hide (HB3.out.trans (hx.mono HB3.out.size))
                have hs3 := HB3.out.size
                have hs4 := HWB3.out.size
                clear hv hx hz HZ t0 t1 t2 t3 t4 t5
                have HZ := HZ4
                clear HZ4
                go_wp2_with fail
                have hR := set3_at HZ.out (.bool zb) (.int .i64 zn) (.slice za zl zc)
                have r0 := (cell_of_blk hR 0).trans rfl
                have r1 := (cell_of_blk hR 1).trans rfl
                have r2 := (cell_of_blk hR 2).trans rfl
                refine bodyPost_ret (v := .tuple #[.agg #[.bool zb, .int .i64 zn, .slice za zl zc], .bool true]) (by first | (simp [results, Try.results18, go_sem, r0, r1, r2]; done) | (simp [results, Try.results18, go_sem, r0, r1, r2]; omega)) rfl ?_
                unfold HT
                refine ⟨_, _, _, _, _, by rw [← HOk.out], ?_, below_set3 HB4.out (by omega) _ _ _⟩
                intro z hz
                rw [HSome.out] at hz
                simp only [Option.some.injEq] at hz
                subst hz
                refine HV.out.keep (by show _ ≤ (set3 W4 (w.heap.size + 1 + 1) (.bool zb) (.int .i64 zn) (.slice za zl zc)).heap.size; rw [set3_size]; exact Nat.le_refl _) (fun k h1 h2 => ?_)
                have h1' : W3.heap.size ≤ k := h1
                exact ⟨set3_ne _ _ _ _ _ (by omega), by omega⟩
              · have hfi : (60 : Int) < (LA : Int) + (PR : Int) := by omega
                have HNone : Hid (RES = none) := hide (by rw [HRs.out]; unfold bth; simp only; rw [if_neg (by rw [HWl.out]; omega)])
                have HOk : Hid (false = RES.isSome) := hide (by rw [HNone.out]; rfl)
                have hz1 := HZ.out.c
                have hz2 := HZ.out.f
                go_wp2_with fail
                have hR := set3_at HZ.out (.bool false) (.int .i64 0) (.slice none 0 0)
                have r0 := (cell_of_blk hR 0).trans rfl
                have r1 := (cell_of_blk hR 1).trans rfl
                have r2 := (cell_of_blk hR 2).trans rfl
                refine bodyPost_ret (v := .tuple #[.agg #[.bool false, .int .i64 0, .slice none 0 0], .bool false]) (by first | (simp [results, Try.results18, go_sem, r0, r1, r2]; done) | (simp [results, Try.results18, go_sem, r0, r1, r2]; omega)) rfl ?_
                unfold HT
                refine ⟨_, _, _, _, _, by rw [← HOk.out], ?_, below_set3 HB3.out (by omega) _ _ _⟩
                intro z hz
                rw [HNone.out] at hz
                cases hz
  · have HRs : Hid (RES = some (Tr.ret rn)) := hide (by rw [HRE.out, if_neg (by decide), if_neg (by decide), if_neg (by decide), if_pos rfl])
    have HOk : Hid (true = RES.isSome) := hide (by rw [HRs.out]; rfl)
    have hz1 := HXz.out.c
    have hz2 := HXz.out.f
    have HZ := HXz
    go_wp2_with fail
    have hR := set3_at HZ.out (.bool false) (.int .i64 rn) (.slice none 0 0)
    have r0 := (cell_of_blk hR 0).trans rfl
    have r1 := (cell_of_blk hR 1).trans rfl
    have r2 := (cell_of_blk hR 2).trans rfl
    refine bodyPost_ret (v := .tuple #[.agg #[.bool false, .int .i64 rn, .slice none 0 0], .bool true]) (by first | (simp [results, Try.results18, go_sem, r0, r1, r2]; done) | (simp [results, Try.results18, go_sem, r0, r1, r2]; omega)) rfl ?_
    unfold HT
    refine ⟨_, _, _, _, _, by rw [← HOk.out], ?_, below_set3 HB.out (by omega) _ _ _⟩
    intro z hz
    rw [HRs.out] at hz
    simp only [Option.some.injEq] at hz
    subst hz
    rfl
  · have HRs : Hid (RES = pas (m : Int) xa xb) := hide (by rw [HRE.out, if_neg (by decide), if_neg (by decide), if_neg (by decide), if_neg (by decide)])
    clear HRE hk hk4 hk0
    go_upto_region 11 with fail
    clear cu
    obtain ⟨OKa, hOKa⟩ : ∃ OKa, OKa = xa.isSome := ⟨_, rfl⟩
    rw [← hOKa] at HIa
    have HOKa := hide hOKa
    clear hOKa
    go_upto_region 11 with fail
    have HAll : Hid (∀ w', Below W.heap.size W w' → w'.cell? ⟨w.heap.size, 0, none⟩ = some (.int .i64 q) ∧ w'.cell? ⟨w.heap.size, 1, none⟩ = some (.slice (some ⟨rb, ro, none⟩) 3 hc) ∧ w'.cell? ⟨w.heap.size + 1, 2, none⟩ = some (.slice (some ⟨g, 0, none⟩) 2 cap) ∧ w'.cell? ⟨g, 0, none⟩ = some (.bool ba) ∧ w'.cell? ⟨g, 1, none⟩ = some (.int .i64 na) ∧ w'.cell? ⟨g, 2, none⟩ = some (.slice aad al ac)) := hide (fun w' hb => by
      obtain ⟨qa, qb, qc, qd, qe, qf⟩ := HG.out w' (HB.out.trans (hb.mono HB.out.size))
      exact ⟨((HXh.out.below hb HXh.out.lt).c 0).trans rfl, ((HXh.out.below hb HXh.out.lt).c 1).trans rfl, ((HXt.out.below hb HXt.out.lt).c 2).trans rfl, qa, qb, qc⟩)
    have HWB0 : Hid (Below W.heap.size W W.drew) := hide (belowDrew (Below.refl _ _))
    have HWBa : Hid (Below W.heap.size W (W.alloc (.cells #[.bool false, .int .i64 0, .slice none 0 0] 44)).drew) := hide (belowDrew ((Below.refl _ _).alloc (Nat.le_refl _) _))
    have HC0 := hide (HIa.out _ ((HB.out).trans (HWB0.out.mono (HB.out).size)))
    have HCa := hide (HIa.out _ ((HB.out).trans (HWBa.out.mono (HB.out).size)))
    go_cut [7, 8] from 55 to 63 (fun v o wx => ∃ (BBa : Nat) (p0 : Bool) (p1 : Int) (p2 : Option Addr) (p3 p4 : Nat), v = .pointer (some ⟨BBa, 0, none⟩) ∧ o = .bool OKa ∧ W.heap.size ≤ BBa ∧ Bx wx BBa #[.bool p0, .int .i64 p1, .slice p2 p3 p4] 44 ∧ (∀ z, xa = some z → CV wx (fun k => W.heap.size ≤ k ∧ k ≠ BBa) z (.agg #[.bool p0, .int .i64 p1, .slice p2 p3 p4])) ∧ Below W.heap.size W wx)
    case first =>
      obtain ⟨u0, u1, u2, u3, u4, u5⟩ := HAll.out W.drew HWB0.out
      obtain ⟨q0, q1, q2, q3, q4, q5⟩ := HAll.out _ HWBa.out
      have hn0 : ¬ W.heap.size = w.heap.size := by have := HXt.out.lt; have := (HB.out).size; omega
      have hn1 : ¬ W.heap.size = w.heap.size := by have := HXt.out.lt; have := (HB.out).size; omega
      have hn2 : ¬ W.heap.size = w.heap.size + 1 := by have := HXt.out.lt; have := (HB.out).size; omega
      have hn3 : ¬ W.heap.size = g := by have := HXt.out.lt; have := (HB.out).size; omega
      have hn4 : ¬ W.heap.size = g := by have := HXt.out.lt; have := (HB.out).size; omega
      have hn5 : ¬ W.heap.size = g := by have := HXt.out.lt; have := (HB.out).size; omega
      go_region_held3 (fun w' => w'.cell? ⟨w.heap.size, 0, none⟩ = some (.int .i64 q) ∧ w'.cell? ⟨w.heap.size, 1, none⟩ = some (.slice (some ⟨rb, ro, none⟩) 3 hc) ∧ w'.cell? ⟨w.heap.size + 1, 2, none⟩ = some (.slice (some ⟨g, 0, none⟩) 2 cap) ∧ w'.cell? ⟨g, 0, none⟩ = some (.bool ba) ∧ w'.cell? ⟨g, 1, none⟩ = some (.int .i64 na) ∧ w'.cell? ⟨g, 2, none⟩ = some (.slice aad al ac)) (first | (with_reducible exact HAll.out _ HWB0.out) | (with_reducible exact HAll.out _ HWBa.out) | (with_reducible exact HAll.out _ HWB1.out) | (with_reducible exact HAll.out _ HWB2.out) | (with_reducible exact HAll.out _ HWB3.out) | (with_reducible exact ⟨far3 _ _ _ y0 hn0, far3 _ _ _ y1 hn1, far3 _ _ _ y2 hn2, far3 _ _ _ y3 hn3, far3 _ _ _ y4 hn4, far3 _ _ _ y5 hn5⟩))
        (first
          | ((with_reducible refine Calls.mono HC0.out ?_); rintro e W1 ⟨zb, zn, za, zl, zc, rfl, hv, hx⟩; have HWB1 : Hid (Below W.heap.size W W1) := hide (HWB0.out.trans (hx.mono HWB0.out.size)); have HWB2 : Hid (Below W.heap.size W (W1.alloc (.cells #[.bool false, .int .i64 0, .slice none 0 0] 44))) := hide (HWB1.out.alloc HWB1.out.size _); have HWB3 : Hid (Below W.heap.size W (W1.alloc (.cells #[.bool zb, .int .i64 zn, .slice za zl zc] 44))) := hide (HWB1.out.alloc HWB1.out.size _); obtain ⟨y0, y1, y2, y3, y4, y5⟩ := HAll.out W1 HWB1.out; obtain ⟨t0, t1, t2, t3, t4, t5⟩ := HAll.out _ HWB2.out; obtain ⟨v0, v1, v2, v3, v4, v5⟩ := HAll.out _ HWB3.out; have HV := hide hv; have hx1 := hx.size; clear hv hx)
          | ((with_reducible refine Calls.mono HCa.out ?_); rintro e W1 ⟨zb, zn, za, zl, zc, rfl, hv, hx⟩; have HWB1 : Hid (Below W.heap.size W W1) := hide (HWBa.out.trans (hx.mono HWBa.out.size)); have HWB2 : Hid (Below W.heap.size W (W1.alloc (.cells #[.bool false, .int .i64 0, .slice none 0 0] 44))) := hide (HWB1.out.alloc HWB1.out.size _); have HWB3 : Hid (Below W.heap.size W (W1.alloc (.cells #[.bool zb, .int .i64 zn, .slice za zl zc] 44))) := hide (HWB1.out.alloc HWB1.out.size _); obtain ⟨y0, y1, y2, y3, y4, y5⟩ := HAll.out W1 HWB1.out; obtain ⟨t0, t1, t2, t3, t4, t5⟩ := HAll.out _ HWB2.out; obtain ⟨v0, v1, v2, v3, v4, v5⟩ := HAll.out _ HWB3.out; have HV := hide hv; have hx1 := hx.size; have hxx := ((Bx.new W #[.bool false, .int .i64 0, .slice none 0 0] 44).drew).below hx (by simp); have cxx := hxx.c; have fxx := hxx.f; have HXx := hide hxx; clear hxx; clear hv hx))
      all_goals
        go_wp2_with fail
        go_meet
        clear u0 u1 u2 u3 u4 u5 q0 q1 q2 q3 q4 q5 y0 y1 y2 y3 y4 y5 t0 t1 t2 t3 t4 t5 v0 v1 v2 v3 v4 v5
        first
          | exact ⟨W1.heap.size, zb, zn, za, zl, zc, rfl, rfl, HWB1.out.size, Bx.new _ _ _, fun z hz => (HV.out z hz).keep (by simp) (fun k h1 h2 => ⟨heap_alloc_old _ _ h2, by have h1' : W.drew.heap.size ≤ k := h1; exact h1', by omega⟩), HWB3.out⟩
          | exact ⟨W.heap.size, zb, zn, za, zl, zc, rfl, rfl, Nat.le_refl _, set3_at HXx.out _ _ _, fun z hz => (HV.out z hz).keep (by show _ ≤ (set3 W1 W.heap.size _ _ _).heap.size; rw [set3_size]; exact Nat.le_refl _) (fun k h1 h2 => by
              have h1' : W.heap.size + 1 ≤ k := by have := h1; simpa using this
              exact ⟨set3_ne _ _ _ _ _ (by omega), by omega, by omega⟩), below_set3 HWB1.out (Nat.le_refl _) _ _ _⟩
    case rest =>
      obtain ⟨BBa, p0, p1, p2, p3, p4, rfl, rfl, hBa, hXa, hVa, hBc⟩ := hcut
      obtain ⟨X, hX⟩ : ∃ X, X = wc := ⟨_, rfl⟩
      subst hX
      have HXa := hide hXa
      have HVa := hide hVa
      have HBc := hide hBc
      have HBX := hide (HB.out.trans (hBc.mono HB.out.size))
      replace HXh := hide (HXh.out.below hBc HXh.out.lt)
      replace HXt := hide (HXt.out.below hBc HXt.out.lt)
      replace HXz := hide (HXz.out.below hBc HXz.out.lt)
      replace HXu := hide (HXu.out.below hBc HXu.out.lt)
      have hXl := hXa.lt
      have hWX := hBc.size
      clear hXa hVa hBc HAll HWB0 HWBa HC0 HCa
      obtain ⟨OKb, hOKb⟩ : ∃ OKb, OKb = xb.isSome := ⟨_, rfl⟩
      rw [← hOKb] at HIb
      have HOKb := hide hOKb
      clear hOKb
      go_upto_region 12 with fail
      have HAll : Hid (∀ w', Below X.heap.size X w' → w'.cell? ⟨w.heap.size, 0, none⟩ = some (.int .i64 q) ∧ w'.cell? ⟨w.heap.size, 1, none⟩ = some (.slice (some ⟨rb, ro, none⟩) 3 hc) ∧ w'.cell? ⟨w.heap.size + 1, 2, none⟩ = some (.slice (some ⟨g, 0, none⟩) 2 cap) ∧ w'.cell? ⟨g, 3, none⟩ = some (.bool bb) ∧ w'.cell? ⟨g, 4, none⟩ = some (.int .i64 nb) ∧ w'.cell? ⟨g, 5, none⟩ = some (.slice bad bl bc)) := hide (fun w' hb => by
        obtain ⟨qa, qb, qc, qd, qe, qf⟩ := HG.out w' (HBX.out.trans (hb.mono HBX.out.size))
        exact ⟨((HXh.out.below hb HXh.out.lt).c 0).trans rfl, ((HXh.out.below hb HXh.out.lt).c 1).trans rfl, ((HXt.out.below hb HXt.out.lt).c 2).trans rfl, qd, qe, qf⟩)
      have HWB0 : Hid (Below X.heap.size X X.drew) := hide (belowDrew (Below.refl _ _))
      have HWBa : Hid (Below X.heap.size X (X.alloc (.cells #[.bool false, .int .i64 0, .slice none 0 0] 44)).drew) := hide (belowDrew ((Below.refl _ _).alloc (Nat.le_refl _) _))
      have HC0 := hide (HIb.out _ ((HBX.out).trans (HWB0.out.mono (HBX.out).size)))
      have HCa := hide (HIb.out _ ((HBX.out).trans (HWBa.out.mono (HBX.out).size)))
      go_cut [9, 10] from 64 to 72 (fun v o wx => ∃ (BBb : Nat) (p0 : Bool) (p1 : Int) (p2 : Option Addr) (p3 p4 : Nat), v = .pointer (some ⟨BBb, 0, none⟩) ∧ o = .bool OKb ∧ X.heap.size ≤ BBb ∧ Bx wx BBb #[.bool p0, .int .i64 p1, .slice p2 p3 p4] 44 ∧ (∀ z, xb = some z → CV wx (fun k => X.heap.size ≤ k ∧ k ≠ BBb) z (.agg #[.bool p0, .int .i64 p1, .slice p2 p3 p4])) ∧ Below X.heap.size X wx)
      case first =>
        obtain ⟨u0, u1, u2, u3, u4, u5⟩ := HAll.out X.drew HWB0.out
        obtain ⟨q0, q1, q2, q3, q4, q5⟩ := HAll.out _ HWBa.out
        have hn0 : ¬ X.heap.size = w.heap.size := by have := HXt.out.lt; have := (HBX.out).size; omega
        have hn1 : ¬ X.heap.size = w.heap.size := by have := HXt.out.lt; have := (HBX.out).size; omega
        have hn2 : ¬ X.heap.size = w.heap.size + 1 := by have := HXt.out.lt; have := (HBX.out).size; omega
        have hn3 : ¬ X.heap.size = g := by have := HXt.out.lt; have := (HBX.out).size; omega
        have hn4 : ¬ X.heap.size = g := by have := HXt.out.lt; have := (HBX.out).size; omega
        have hn5 : ¬ X.heap.size = g := by have := HXt.out.lt; have := (HBX.out).size; omega
        go_region_held3 (fun w' => w'.cell? ⟨w.heap.size, 0, none⟩ = some (.int .i64 q) ∧ w'.cell? ⟨w.heap.size, 1, none⟩ = some (.slice (some ⟨rb, ro, none⟩) 3 hc) ∧ w'.cell? ⟨w.heap.size + 1, 2, none⟩ = some (.slice (some ⟨g, 0, none⟩) 2 cap) ∧ w'.cell? ⟨g, 3, none⟩ = some (.bool bb) ∧ w'.cell? ⟨g, 4, none⟩ = some (.int .i64 nb) ∧ w'.cell? ⟨g, 5, none⟩ = some (.slice bad bl bc)) (first | (with_reducible exact HAll.out _ HWB0.out) | (with_reducible exact HAll.out _ HWBa.out) | (with_reducible exact HAll.out _ HWB1.out) | (with_reducible exact HAll.out _ HWB2.out) | (with_reducible exact HAll.out _ HWB3.out) | (with_reducible exact ⟨far3 _ _ _ y0 hn0, far3 _ _ _ y1 hn1, far3 _ _ _ y2 hn2, far3 _ _ _ y3 hn3, far3 _ _ _ y4 hn4, far3 _ _ _ y5 hn5⟩))
          (first
            | ((with_reducible refine Calls.mono HC0.out ?_); rintro e W1 ⟨zb, zn, za, zl, zc, rfl, hv, hx⟩; have HWB1 : Hid (Below X.heap.size X W1) := hide (HWB0.out.trans (hx.mono HWB0.out.size)); have HWB2 : Hid (Below X.heap.size X (W1.alloc (.cells #[.bool false, .int .i64 0, .slice none 0 0] 44))) := hide (HWB1.out.alloc HWB1.out.size _); have HWB3 : Hid (Below X.heap.size X (W1.alloc (.cells #[.bool zb, .int .i64 zn, .slice za zl zc] 44))) := hide (HWB1.out.alloc HWB1.out.size _); obtain ⟨y0, y1, y2, y3, y4, y5⟩ := HAll.out W1 HWB1.out; obtain ⟨t0, t1, t2, t3, t4, t5⟩ := HAll.out _ HWB2.out; obtain ⟨v0, v1, v2, v3, v4, v5⟩ := HAll.out _ HWB3.out; have HV := hide hv; have hx1 := hx.size; clear hv hx)
            | ((with_reducible refine Calls.mono HCa.out ?_); rintro e W1 ⟨zb, zn, za, zl, zc, rfl, hv, hx⟩; have HWB1 : Hid (Below X.heap.size X W1) := hide (HWBa.out.trans (hx.mono HWBa.out.size)); have HWB2 : Hid (Below X.heap.size X (W1.alloc (.cells #[.bool false, .int .i64 0, .slice none 0 0] 44))) := hide (HWB1.out.alloc HWB1.out.size _); have HWB3 : Hid (Below X.heap.size X (W1.alloc (.cells #[.bool zb, .int .i64 zn, .slice za zl zc] 44))) := hide (HWB1.out.alloc HWB1.out.size _); obtain ⟨y0, y1, y2, y3, y4, y5⟩ := HAll.out W1 HWB1.out; obtain ⟨t0, t1, t2, t3, t4, t5⟩ := HAll.out _ HWB2.out; obtain ⟨v0, v1, v2, v3, v4, v5⟩ := HAll.out _ HWB3.out; have HV := hide hv; have hx1 := hx.size; have hxx := ((Bx.new X #[.bool false, .int .i64 0, .slice none 0 0] 44).drew).below hx (by simp); have cxx := hxx.c; have fxx := hxx.f; have HXx := hide hxx; clear hxx; clear hv hx))
        all_goals
          go_wp2_with fail
          go_meet
          clear u0 u1 u2 u3 u4 u5 q0 q1 q2 q3 q4 q5 y0 y1 y2 y3 y4 y5 t0 t1 t2 t3 t4 t5 v0 v1 v2 v3 v4 v5
          first
            | exact ⟨W1.heap.size, zb, zn, za, zl, zc, rfl, rfl, HWB1.out.size, Bx.new _ _ _, fun z hz => (HV.out z hz).keep (by simp) (fun k h1 h2 => ⟨heap_alloc_old _ _ h2, by have h1' : X.drew.heap.size ≤ k := h1; exact h1', by omega⟩), HWB3.out⟩
            | exact ⟨X.heap.size, zb, zn, za, zl, zc, rfl, rfl, Nat.le_refl _, set3_at HXx.out _ _ _, fun z hz => (HV.out z hz).keep (by show _ ≤ (set3 W1 X.heap.size _ _ _).heap.size; rw [set3_size]; exact Nat.le_refl _) (fun k h1 h2 => by
                have h1' : X.heap.size + 1 ≤ k := by have := h1; simpa using this
                exact ⟨set3_ne _ _ _ _ _ (by omega), by omega, by omega⟩), below_set3 HWB1.out (Nat.le_refl _) _ _ _⟩
      case rest =>
        obtain ⟨BBb, m0, m1, m2, m3, m4, rfl, rfl, hBb, hXb, hVb, hBc⟩ := hcut
        obtain ⟨Y, hY⟩ : ∃ Y, Y = wc := ⟨_, rfl⟩
        subst hY
        have HXb := hide hXb
        have HVb := hide hVb
        have HBY := hide (HBX.out.trans (hBc.mono HBX.out.size))
        have HXa2 := hide (HXa.out.below hBc hXl)
        have HVa2 : Hid (∀ z, xa = some z → CV Y (fun k => W.heap.size ≤ k ∧ k ≠ BBa) z (.agg #[.bool p0, .int .i64 p1, .slice p2 p3 p4])) := hide (fun z hz => (HVa.out z hz).below hBc)
        have HXt2 := hide (HXt.out.below hBc HXt.out.lt)
        have HXu2 := hide (HXu.out.below hBc HXu.out.lt)
        have HZ := hide (HXz.out.below hBc HXz.out.lt)
        have hXY := hBc.size
        clear hXb hVb hBc HAll HWB0 HWBa HC0 HCa HXa HVa HXh HXt HXz HXu HIa HIb HG
        have hRW : w.heap.size + 1 + 1 < W.heap.size := by omega
        cases OKa with
        | false =>
          have hxa : xa = none := by have := HOKa.out; cases xa with | none => rfl | some a => simp at this
          have HNone : Hid (RES = none) := hide (by rw [HRs.out, hxa]; rfl)
          clear hxa
          have HOk : Hid (false = RES.isSome) := hide (by rw [HNone.out]; rfl)
          have hz1 := HZ.out.c
          have hz2 := HZ.out.f
          go_wp2_with fail
          have hR := set3_at HZ.out (.bool false) (.int .i64 0) (.slice none 0 0)
          have r0 := (cell_of_blk hR 0).trans rfl
          have r1 := (cell_of_blk hR 1).trans rfl
          have r2 := (cell_of_blk hR 2).trans rfl
          refine bodyPost_ret (v := .tuple #[.agg #[.bool false, .int .i64 0, .slice none 0 0], .bool false]) (by first | (simp [results, Try.results18, go_sem, r0, r1, r2]; done) | (simp [results, Try.results18, go_sem, r0, r1, r2]; omega)) rfl ?_
          unfold HT
          refine ⟨_, _, _, _, _, by rw [← HOk.out], ?_, below_set3 HBY.out (by omega) _ _ _⟩
          intro z hz
          rw [HNone.out] at hz
          cases hz
        | true =>
          cases OKb with
          | false =>
            have hxb : xb = none := by have := HOKb.out; cases xb with | none => rfl | some a => simp at this
            have HNone : Hid (RES = none) := hide (by rw [HRs.out, hxb]; cases xa <;> rfl)
            clear hxb
            have HOk : Hid (false = RES.isSome) := hide (by rw [HNone.out]; rfl)
            have hz1 := HZ.out.c
            have hz2 := HZ.out.f
            go_wp2_with fail
            have hR := set3_at HZ.out (.bool false) (.int .i64 0) (.slice none 0 0)
            have r0 := (cell_of_blk hR 0).trans rfl
            have r1 := (cell_of_blk hR 1).trans rfl
            have r2 := (cell_of_blk hR 2).trans rfl
            refine bodyPost_ret (v := .tuple #[.agg #[.bool false, .int .i64 0, .slice none 0 0], .bool false]) (by first | (simp [results, Try.results18, go_sem, r0, r1, r2]; done) | (simp [results, Try.results18, go_sem, r0, r1, r2]; omega)) rfl ?_
            unfold HT
            refine ⟨_, _, _, _, _, by rw [← HOk.out], ?_, below_set3 HBY.out (by omega) _ _ _⟩
            intro z hz
            rw [HNone.out] at hz
            cases hz
          | true =>
            obtain ⟨a, ea⟩ : ∃ a, xa = some a := by have := HOKa.out; cases xa with | none => simp at this | some a => exact ⟨a, rfl⟩
            obtain ⟨b, eb⟩ : ∃ b, xb = some b := by have := HOKb.out; cases xb with | none => simp at this | some a => exact ⟨a, rfl⟩
            obtain ⟨hao, ha6⟩ := Hoa.out a ea
            obtain ⟨hbo, hb6⟩ := Hob.out b eb
            have HCa := hide (HVa2.out a ea)
            have HCb := hide (HVb.out b eb)
            rw [ea, eb] at HRs
            have hpa := a.flat_pos
            have hpb := b.flat_pos
            clear ea eb HVa2 HVb Hoa Hob HOKa HOKb
            obtain ⟨Y2, hY2⟩ : ∃ Y2, Y2 = (Y.alloc (.cells #[.bool p0, .int .i64 p1, .slice p2 p3 p4, .bool m0, .int .i64 m1, .slice m2 m3 m4] 44)).alloc (.cells #[.bool true, .int .i64 (m : Int), .slice (some ⟨Y.heap.size, 0, none⟩) 2 2] 44) := ⟨_, rfl⟩
            have hb2 : Below Y.heap.size Y Y2 := by rw [hY2]; exact ((Below.refl _ _).alloc (Nat.le_refl _) _).alloc (by simp) _
            have hXk : Bx Y2 Y.heap.size #[.bool p0, .int .i64 p1, .slice p2 p3 p4, .bool m0, .int .i64 m1, .slice m2 m3 m4] 44 := by rw [hY2]; exact (Bx.new Y _ _).alloc _
            have hXx : Bx Y2 (Y.heap.size + 1) #[.bool true, .int .i64 (m : Int), .slice (some ⟨Y.heap.size, 0, none⟩) 2 2] 44 := by
              rw [hY2]
              have := Bx.new (Y.alloc (.cells #[.bool p0, .int .i64 p1, .slice p2 p3 p4, .bool m0, .int .i64 m1, .slice m2 m3 m4] 44)) #[.bool true, .int .i64 (m : Int), .slice (some ⟨Y.heap.size, 0, none⟩) 2 2] 44
              simpa using this
            have HT5 := hide (CV.pair (n := (m : Int)) (P := fun k => W.heap.size ≤ k ∧ k ≠ Y.heap.size + 1) hXk ⟨by omega, by omega⟩ (HCa.out.keep hb2.size (fun k h1 h2 => ⟨hb2.block k h2, h1.1, by omega⟩)) (HCb.out.keep hb2.size (fun k h1 h2 => ⟨hb2.block k h2, by have := h1.1; omega, by omega⟩)))
            have hfl : (Tr.ask (m : Int) a b).flat.length = 1 + a.flat.length + b.flat.length := by simp [Tr.flat]; omega
            have HS5 := hide (fun (w' : World) (hb : Below Y2.heap.size Y2 w') => l9Size_any (.ask (m : Int) a b) _ _ w' (by rw [hfl]; omega) (HT5.out.below hb))
            obtain ⟨LT, hLT⟩ : ∃ LT, LT = (Tr.ask (m : Int) a b).flat.length := ⟨_, rfl⟩
            rw [← hLT] at HS5
            have HPs : Hid (RES = if LT ≤ 60 then some (.ask (m : Int) a b) else none) := hide (by rw [HRs.out, hLT, hfl]; rfl)
            have HAll : Hid (∀ w', Below Y2.heap.size Y2 w' → w'.cell? ⟨Y.heap.size + 1, 0, none⟩ = some (.bool true) ∧ w'.cell? ⟨Y.heap.size + 1, 1, none⟩ = some (.int .i64 (m : Int)) ∧ w'.cell? ⟨Y.heap.size + 1, 2, none⟩ = some (.slice (some ⟨Y.heap.size, 0, none⟩) 2 2)) := hide (fun w' hb => by
              have ca := (hXx.below hb hXx.lt).c
              exact ⟨(ca 0).trans rfl, (ca 1).trans rfl, (ca 2).trans rfl⟩)
            have HWB0 : Hid (Below Y2.heap.size Y2 Y2.drew) := hide (belowDrew (Below.refl _ _))
            have HBY2 := hide (HBY.out.trans (hb2.mono HBY.out.size))
            have HZ2 := hide (HZ.out.below hb2 HZ.out.lt)
            have hy2 := hXx.lt
            have HY2 := hide hY2
            have cu := HXu2.out.c
            rw [HSz.out] at cu
            have ct := HXt2.out.c
            have ca := HXa2.out.c
            have cb := HXb.out.c
            have hyw := HBY.out.size
            clear hY2 hb2 hXk hXx hLT hfl HZ hpa hpb
            go_wp2_with fail
            rw [← HY2.out]
            clear HY2 cu ct ca cb
            obtain ⟨u0, u1, u2⟩ := HAll.out Y2.drew HWB0.out
            have hn0 : ¬ w.heap.size + 1 + 1 = Y.heap.size + 1 := by omega
            by_cases hfit : LT ≤ 60
            · have hfi : (LT : Int) ≤ 60 := by omega
              have HSome : Hid (RES = some (.ask (m : Int) a b)) := hide (by rw [HPs.out, if_pos hfit])
              have HOk : Hid (true = RES.isSome) := hide (by rw [HSome.out]; rfl)
              go_region_held3 (fun w' => w'.cell? ⟨Y.heap.size + 1, 0, none⟩ = some (.bool true) ∧ w'.cell? ⟨Y.heap.size + 1, 1, none⟩ = some (.int .i64 (m : Int)) ∧ w'.cell? ⟨Y.heap.size + 1, 2, none⟩ = some (.slice (some ⟨Y.heap.size, 0, none⟩) 2 2)) (first | (with_reducible exact HAll.out _ HWB0.out) | (with_reducible exact HAll.out _ HWB1.out) | (with_reducible exact ⟨far3 _ _ _ y0 hn0, far3 _ _ _ y1 hn0, far3 _ _ _ y2 hn0⟩))
                (first
                  | ((with_reducible refine Calls.mono (HS5.out _ HWB0.out) ?_); rintro e W1 ⟨rfl, hx⟩; have HWB1 : Hid (Below Y2.heap.size Y2 W1) := hide (HWB0.out.trans (hx.mono HWB0.out.size)); obtain ⟨y0, y1, y2⟩ := HAll.out W1 HWB1.out; have hz := HZ2.out.below HWB1.out HZ2.out.lt; have cz := hz.c; have fz := hz.f; have HZ := hide hz; clear hx hz))
              all_goals
                clear u0 u1 u2 y0 y1 y2
                go_wp2_with fail
                have hBf : Below w.heap.size w W1 := HBY2.out.trans (HWB1.out.mono HBY2.out.size)
                have hR := set3_at HZ.out (.bool true) (.int .i64 (m : Int)) (.slice (some ⟨Y.heap.size, 0, none⟩) 2 2)
                have r0 := (cell_of_blk hR 0).trans rfl
                have r1 := (cell_of_blk hR 1).trans rfl
                have r2 := (cell_of_blk hR 2).trans rfl
                refine bodyPost_ret (v := .tuple #[.agg #[.bool true, .int .i64 (m : Int), .slice (some ⟨Y.heap.size, 0, none⟩) 2 2], .bool true]) (by first | (simp [results, Try.results18, go_sem, r0, r1, r2]; done) | (simp [results, Try.results18, go_sem, r0, r1, r2]; omega)) rfl ?_
                unfold HT
                refine ⟨_, _, _, _, _, by rw [← HOk.out], ?_, below_set3 hBf (by omega) _ _ _⟩
                intro z hz
                rw [HSome.out] at hz
                simp only [Option.some.injEq] at hz
                subst hz
                refine (HT5.out.below HWB1.out).keep (by show _ ≤ (set3 W1 (w.heap.size + 1 + 1) (.bool true) (.int .i64 (m : Int)) (.slice (some ⟨Y.heap.size, 0, none⟩) 2 2)).heap.size; rw [set3_size]; exact Nat.le_refl _) (fun k h1 h2 => ?_)
                have h1' : W.heap.size ≤ k := h1.1
                exact ⟨set3_ne _ _ _ _ _ (by omega), by omega⟩
            · have hfi : ¬ (LT : Int) ≤ 60 := by omega
              have HNone : Hid (RES = none) := hide (by rw [HPs.out, if_neg hfit])
              have HOk : Hid (false = RES.isSome) := hide (by rw [HNone.out]; rfl)
              go_region_held3 (fun w' => w'.cell? ⟨Y.heap.size + 1, 0, none⟩ = some (.bool true) ∧ w'.cell? ⟨Y.heap.size + 1, 1, none⟩ = some (.int .i64 (m : Int)) ∧ w'.cell? ⟨Y.heap.size + 1, 2, none⟩ = some (.slice (some ⟨Y.heap.size, 0, none⟩) 2 2)) (first | (with_reducible exact HAll.out _ HWB0.out) | (with_reducible exact HAll.out _ HWB1.out) | (with_reducible exact ⟨far3 _ _ _ y0 hn0, far3 _ _ _ y1 hn0, far3 _ _ _ y2 hn0⟩))
                (first
                  | ((with_reducible refine Calls.mono (HS5.out _ HWB0.out) ?_); rintro e W1 ⟨rfl, hx⟩; have HWB1 : Hid (Below Y2.heap.size Y2 W1) := hide (HWB0.out.trans (hx.mono HWB0.out.size)); obtain ⟨y0, y1, y2⟩ := HAll.out W1 HWB1.out; have hz := HZ2.out.below HWB1.out HZ2.out.lt; have cz := hz.c; have fz := hz.f; have HZ := hide hz; clear hx hz))
              all_goals
                clear u0 u1 u2 y0 y1 y2
                go_wp2_with fail
                have hBf : Below w.heap.size w W1 := HBY2.out.trans (HWB1.out.mono HBY2.out.size)
                have hR := set3_at HZ.out (.bool true) (.int .i64 (m : Int)) (.slice (some ⟨Y.heap.size, 0, none⟩) 2 2)
                have r0 := (cell_of_blk hR 0).trans rfl
                have r1 := (cell_of_blk hR 1).trans rfl
                have r2 := (cell_of_blk hR 2).trans rfl
                refine bodyPost_ret (v := .tuple #[.agg #[.bool true, .int .i64 (m : Int), .slice (some ⟨Y.heap.size, 0, none⟩) 2 2], .bool false]) (by first | (simp [results, Try.results18, go_sem, r0, r1, r2]; done) | (simp [results, Try.results18, go_sem, r0, r1, r2]; omega)) rfl ?_
                unfold HT
                refine ⟨_, _, _, _, _, by rw [← HOk.out], ?_, below_set3 hBf (by omega) _ _ _⟩
                intro z hz
                rw [HNone.out] at hz
                cases hz
end Go.Proofs.Ytaddopoafaojdaa.C

/-
  Two handlers made one, by the program: the contract of AfterBoth. Conditions: at most 1048576 rules. Written by wip/build/mk_hac.py.
-/
import Derived.Test.YtlicfmjkoopmnabHaB
import Derived.Test.YtlicfmjkoopmnabCoB
namespace Go.Proofs.Ytlicfmjkoopmnab.C
open Go.Proofs.Ytlicfmjkoopmnab.W
open Go.ChangeShapes Go.WideShapes Go.ChangeAt Go.RowKit
set_option linter.unusedVariables false

set_option maxRecDepth 20000 in
set_option maxHeartbeats 4000000 in
theorem implAfter_g (v1 v2 : Value) (g h : Hd) (w : World) (h1 : HRow w v1 g) (h2 : HRow w v2 h) (hg : goodH g = false) :
    Calls Try.prog 15 #[v1, v2] w (RH w g h) := by
  unfold RH
  have HE : Hid (abOK g h = false ∧ abH g h = ⟨0, []⟩) := hide ⟨by simp [abOK, hg], by simp [abH, abOK, hg]⟩
  rw [HE.out.1, HE.out.2]
  have HG := hide (fun w' (hb : Below w.heap.size w w') => implGoodH_any v1 g w' (h1.below hb))
  have HH := hide (fun w' (hb : Below w.heap.size w w') => implGoodH_any v2 h w' (h2.below hb))
  rw [hg] at HG
  clear hg HH
  obtain ⟨ga, gc, rfl⟩ := h1.form
  obtain ⟨ha, hc, rfl⟩ := h2.form
  clear h1 h2 HE
  obtain ⟨q, R⟩ := g
  obtain ⟨p, Q⟩ := h
  simp only at HG ⊢
  have hB0 : Below w.heap.size w (((w.alloc (.cells #[.int .i64 q, .slice ga R.length gc] 39)).alloc (.cells #[.int .i64 p, .slice ha Q.length hc] 39)).alloc (.cells #[.int .i64 0, .slice none 0 0] 39)) := bel3 _ _ _ _
  obtain ⟨W, hW⟩ : ∃ W, W = (((w.alloc (.cells #[.int .i64 q, .slice ga R.length gc] 39)).alloc (.cells #[.int .i64 p, .slice ha Q.length hc] 39)).alloc (.cells #[.int .i64 0, .slice none 0 0] 39)) := ⟨_, rfl⟩
  have xg : Bx W w.heap.size #[.int .i64 q, .slice ga R.length gc] 39 := by rw [hW]; exact ((Bx.new w _ _).alloc _).alloc _
  have xh : Bx W (w.heap.size + 1) #[.int .i64 p, .slice ha Q.length hc] 39 := by
    have := (Bx.new (w.alloc (.cells #[.int .i64 q, .slice ga R.length gc] 39)) #[.int .i64 p, .slice ha Q.length hc] 39).alloc (.cells #[.int .i64 0, .slice none 0 0] 39)
    rw [hW]; simpa using this
  have xr : Bx W (w.heap.size + 1 + 1) #[.int .i64 0, .slice none 0 0] 39 := by
    have := Bx.new ((w.alloc (.cells #[.int .i64 q, .slice ga R.length gc] 39)).alloc (.cells #[.int .i64 p, .slice ha Q.length hc] 39)) #[.int .i64 0, .slice none 0 0] 39
    rw [hW]; simpa using this
  rw [← hW] at hB0
  have HW := hide hW
  have HXr := hide xr
  have HXh := hide xh
  have hlr := xr.lt
  have cg := xg.c
  clear hW xh xr
  go_enter Try.func15, Try.ntmps15
  go_upto_region 1 with fail
  rw [← HW.out]
  clear HW
  go_wp2_with fail
  refine Calls.mono (HG.out _ hB0) ?_
  rintro e w1 ⟨rfl, hb1⟩
  have hB1 : Below w.heap.size w w1 := hB0.trans (hb1.mono hB0.size)
  have HXr1 := hide (HXr.out.below hb1 hlr)
  have hlr1 := HXr1.out.lt
  have x2 := HXr1.out
  have hB2 := hB1
  clear hb1 cg HG HXr
  have c2 := x2.c
  have f2 := x2.f
  have hl2 := x2.lt
  have HX2 := hide x2
  clear x2
  go_wp2_with fail
  have hx := (HX2.out.set 0 (.int .i64 0)).set 1 (.slice none 0 0)
  have r0 := (hx.c 0).trans rfl
  have r1 := (hx.c 1).trans rfl
  clear c2 f2
  exact bodyPost_ret (v := .tuple #[.agg #[.int .i64 0, .slice none 0 0], .bool false]) (by simp [results, Try.results15, go_sem, r0, r1]) rfl ⟨_, rfl, ⟨_, rfl, World.ownsRow_nil _ _ _ _⟩, (hB2.setCell (p := ⟨w.heap.size + 1 + 1, 0, none⟩) (by simp; omega) _).setCell (p := ⟨w.heap.size + 1 + 1, 1, none⟩) (by simp; omega) _⟩

set_option maxRecDepth 20000 in
set_option maxHeartbeats 4000000 in
theorem implAfter_h (v1 v2 : Value) (g h : Hd) (w : World) (h1 : HRow w v1 g) (h2 : HRow w v2 h) (hg : goodH g = true) (hh : goodH h = false) :
    Calls Try.prog 15 #[v1, v2] w (RH w g h) := by
  unfold RH
  have HE : Hid (abOK g h = false ∧ abH g h = ⟨0, []⟩) := hide ⟨by simp [abOK, hg, hh], by simp [abH, abOK, hg, hh]⟩
  rw [HE.out.1, HE.out.2]
  have HG := hide (fun w' (hb : Below w.heap.size w w') => implGoodH_any v1 g w' (h1.below hb))
  have HH := hide (fun w' (hb : Below w.heap.size w w') => implGoodH_any v2 h w' (h2.below hb))
  rw [hg] at HG
  rw [hh] at HH
  clear hg hh
  obtain ⟨ga, gc, rfl⟩ := h1.form
  obtain ⟨ha, hc, rfl⟩ := h2.form
  clear h1 h2 HE
  obtain ⟨q, R⟩ := g
  obtain ⟨p, Q⟩ := h
  simp only at HG HH ⊢
  have hB0 : Below w.heap.size w (((w.alloc (.cells #[.int .i64 q, .slice ga R.length gc] 39)).alloc (.cells #[.int .i64 p, .slice ha Q.length hc] 39)).alloc (.cells #[.int .i64 0, .slice none 0 0] 39)) := bel3 _ _ _ _
  obtain ⟨W, hW⟩ : ∃ W, W = (((w.alloc (.cells #[.int .i64 q, .slice ga R.length gc] 39)).alloc (.cells #[.int .i64 p, .slice ha Q.length hc] 39)).alloc (.cells #[.int .i64 0, .slice none 0 0] 39)) := ⟨_, rfl⟩
  have xg : Bx W w.heap.size #[.int .i64 q, .slice ga R.length gc] 39 := by rw [hW]; exact ((Bx.new w _ _).alloc _).alloc _
  have xh : Bx W (w.heap.size + 1) #[.int .i64 p, .slice ha Q.length hc] 39 := by
    have := (Bx.new (w.alloc (.cells #[.int .i64 q, .slice ga R.length gc] 39)) #[.int .i64 p, .slice ha Q.length hc] 39).alloc (.cells #[.int .i64 0, .slice none 0 0] 39)
    rw [hW]; simpa using this
  have xr : Bx W (w.heap.size + 1 + 1) #[.int .i64 0, .slice none 0 0] 39 := by
    have := Bx.new ((w.alloc (.cells #[.int .i64 q, .slice ga R.length gc] 39)).alloc (.cells #[.int .i64 p, .slice ha Q.length hc] 39)) #[.int .i64 0, .slice none 0 0] 39
    rw [hW]; simpa using this
  rw [← hW] at hB0
  have HW := hide hW
  have HXr := hide xr
  have HXh := hide xh
  have hlr := xr.lt
  have cg := xg.c
  clear hW xh xr
  go_enter Try.func15, Try.ntmps15
  go_upto_region 1 with fail
  rw [← HW.out]
  clear HW
  go_wp2_with fail
  refine Calls.mono (HG.out _ hB0) ?_
  rintro e w1 ⟨rfl, hb1⟩
  have hB1 : Below w.heap.size w w1 := hB0.trans (hb1.mono hB0.size)
  have HXr1 := hide (HXr.out.below hb1 hlr)
  have hlr1 := HXr1.out.lt
  have ch := (HXh.out.below hb1 HXh.out.lt).c
  have hlh := (HXh.out.below hb1 HXh.out.lt).lt
  clear hb1 cg HG HXr
  go_wp2_with fail
  refine Calls.mono (HH.out _ hB1) ?_
  rintro e w2 ⟨rfl, hb2⟩
  have hB2 : Below w.heap.size w w2 := hB1.trans (hb2.mono hB1.size)
  have x2 := HXr1.out.below hb2 hlr1
  clear hb2 ch HH HXr1
  have c2 := x2.c
  have f2 := x2.f
  have hl2 := x2.lt
  have HX2 := hide x2
  clear x2
  go_wp2_with fail
  have hx := (HX2.out.set 0 (.int .i64 0)).set 1 (.slice none 0 0)
  have r0 := (hx.c 0).trans rfl
  have r1 := (hx.c 1).trans rfl
  clear c2 f2
  exact bodyPost_ret (v := .tuple #[.agg #[.int .i64 0, .slice none 0 0], .bool false]) (by simp [results, Try.results15, go_sem, r0, r1]) rfl ⟨_, rfl, ⟨_, rfl, World.ownsRow_nil _ _ _ _⟩, (hB2.setCell (p := ⟨w.heap.size + 1 + 1, 0, none⟩) (by simp; omega) _).setCell (p := ⟨w.heap.size + 1 + 1, 1, none⟩) (by simp; omega) _⟩

set_option maxRecDepth 20000 in
set_option maxHeartbeats 8000000 in
theorem implAfter_both (v1 v2 : Value) (g h : Hd) (w : World) (h1 : HRow w v1 g) (h2 : HRow w v2 h) (hg : goodH g = true) (hh : goodH h = true) :
    Calls Try.prog 15 #[v1, v2] w (RH w g h) := by
  unfold RH
  have HE : Hid (abOK g h = nb h.rs) := hide (by simp [abOK, hg, hh])
  have HEH : Hid (nb h.rs = true → abH g h = ⟨(h.ret + g.ret) % 100, afL g h.rs⟩) := hide (fun e => by simp [abH, abOK, hg, hh, e])
  have HEN : Hid (nb h.rs = false → abH g h = ⟨0, []⟩) := hide (fun e => by simp [abH, abOK, hg, hh, e])
  rw [HE.out]
  have HG := hide (fun w' (hb : Below w.heap.size w w') => implGoodH_any v1 g w' (h1.below hb))
  have HH := hide (fun w' (hb : Below w.heap.size w w') => implGoodH_any v2 h w' (h2.below hb))
  rw [hg] at HG
  rw [hh] at HH
  obtain ⟨g0, g1, g3, ggr⟩ := goodH_parts hg
  obtain ⟨k0, k1, k3, kgr⟩ := goodH_parts hh
  obtain ⟨ga, gc, rfl, hRg, hlg⟩ := h1
  obtain ⟨ha, hc, rfl, hRh, hlh0⟩ := h2
  clear HE hg hh
  obtain ⟨q, R⟩ := g
  obtain ⟨p, Q⟩ := h
  simp only at *
  obtain ⟨AH, hAH⟩ : ∃ AH, AH = abH ⟨q, R⟩ ⟨p, Q⟩ := ⟨_, rfl⟩
  rw [← hAH] at HEH HEN ⊢
  clear hAH
  obtain ⟨OK, hOK⟩ : ∃ OK, OK = nb Q := ⟨_, rfl⟩
  rw [← hOK] at HEH HEN ⊢
  have HOK := hide hOK
  have HRg := hide hRg
  have HRh := hide hRh
  have HKg := hide kgr
  have HQ3 := hide k3
  have HR3 := hide g3
  rw [g3] at HG ⊢
  rw [k3] at HH ⊢
  clear hOK hRg hRh kgr ggr k3 g3 hlg hlh0
  have hB0 : Below w.heap.size w (((w.alloc (.cells #[.int .i64 q, .slice ga 3 gc] 39)).alloc (.cells #[.int .i64 p, .slice ha 3 hc] 39)).alloc (.cells #[.int .i64 0, .slice none 0 0] 39)) := bel3 _ _ _ _
  obtain ⟨W, hW⟩ : ∃ W, W = (((w.alloc (.cells #[.int .i64 q, .slice ga 3 gc] 39)).alloc (.cells #[.int .i64 p, .slice ha 3 hc] 39)).alloc (.cells #[.int .i64 0, .slice none 0 0] 39)) := ⟨_, rfl⟩
  have xg : Bx W w.heap.size #[.int .i64 q, .slice ga 3 gc] 39 := by rw [hW]; exact ((Bx.new w _ _).alloc _).alloc _
  have xh : Bx W (w.heap.size + 1) #[.int .i64 p, .slice ha 3 hc] 39 := by
    have := (Bx.new (w.alloc (.cells #[.int .i64 q, .slice ga 3 gc] 39)) #[.int .i64 p, .slice ha 3 hc] 39).alloc (.cells #[.int .i64 0, .slice none 0 0] 39)
    rw [hW]; simpa using this
  have xr : Bx W (w.heap.size + 1 + 1) #[.int .i64 0, .slice none 0 0] 39 := by
    have := Bx.new ((w.alloc (.cells #[.int .i64 q, .slice ga 3 gc] 39)).alloc (.cells #[.int .i64 p, .slice ha 3 hc] 39)) #[.int .i64 0, .slice none 0 0] 39
    rw [hW]; simpa using this
  rw [← hW] at hB0
  have HW := hide hW
  have hlr := xr.lt
  have hlg := xg.lt
  have hlh := xh.lt
  have cg := xg.c
  have HXg := hide xg
  have HXh := hide xh
  have HXr := hide xr
  clear hW xh xr xg
  go_enter Try.func15, Try.ntmps15
  go_upto_region 1 with fail
  rw [← HW.out]
  clear HW
  go_wp2_with fail
  refine Calls.mono (HG.out _ hB0) ?_
  rintro e w1 ⟨rfl, hb1⟩
  have hB1 : Below w.heap.size w w1 := hB0.trans (hb1.mono hB0.size)
  have HXg1 := hide (HXg.out.below hb1 hlg)
  have HXh1 := hide (HXh.out.below hb1 hlh)
  have HXr1 := hide (HXr.out.below hb1 hlr)
  have hlr1 := HXr1.out.lt
  have ch := HXh1.out.c
  clear hb1 cg HG HXr HXg HXh hlr hlg hlh
  go_wp2_with fail
  refine Calls.mono (HH.out _ hB1) ?_
  rintro e w2 ⟨rfl, hb2⟩
  have hB2 : Below w.heap.size w w2 := hB1.trans (hb2.mono hB1.size)
  have HXg2 := hide (HXg1.out.below hb2 (by omega))
  have HXh2 := hide (HXh1.out.below hb2 (by omega))
  have HXr2 := hide (HXr1.out.below hb2 hlr1)
  have hlr2 := HXr2.out.lt
  have hlg2 := HXg2.out.lt
  have hlh2 := HXh2.out.lt
  have cg := HXg2.out.c
  have ch2 := HXh2.out.c
  clear hb2 ch HH HXr1 HXg1 HXh1 hlr1 hB0 hB1
  have HSm := hide (fun w' => sumTold_any' p q w' k0 k1 g0 g1)
  obtain ⟨S, hS⟩ : ∃ S, S = (p + q) % 100 := ⟨_, rfl⟩
  rw [← hS] at HSm
  have HSum := hide hS
  clear hS
  go_wp2_with fail
  refine (HSm.out _).mono ?_
  rintro e w3 ⟨rfl, hw3⟩
  obtain rfl := hw3.symm
  clear HSm
  go_wp2_with fail
  clear cg ch2
  have hwB : w.heap.size + 1 + 1 < w2.heap.size := hlr2
  go_loopw [31] (fun i w' => ∃ (j : Nat) (s : Value), j ≤ 3 ∧ i = .int .i64 j ∧ Bx w' w.heap.size #[.int .i64 q, .slice ga 3 gc] 39 ∧ Bx w' (w.heap.size + 1 + 1) #[.int .i64 0, .slice none 0 0] 39 ∧ Bx w' w2.heap.size #[.int .i64 S, s] 39 ∧ w'.ownsRow (w2.heap.size + 1) 61 2 s j (rcells 2 Ru.c (afL ⟨q, R⟩ (Q.take j))) ∧ OK = nb (Q.drop j) ∧ Below w.heap.size w w') (fun i _ => 3 - (intOf i).toNat)
  case atStart => exact ⟨0, _, by omega, rfl, HXg2.out.alloc _, HXr2.out.alloc _, Bx.new w2 _ _, World.ownsRow_nil _ _ _ _, HOK.out, hB2.alloc hB2.size _⟩
  case round =>
    obtain ⟨j, s, hj, rfl, hxg, hxr, hxb, hown, hOK, hB⟩ := hrel
    have HXg := hide hxg
    have HXr := hide hxr
    have HXb := hide hxb
    have HO := hide hown
    have HOj := hide hOK
    have hlb := hxb.lt
    obtain ⟨sad, sc, rfl⟩ := own_form hown
    clear hxg hxr hxb hown hOK HXg2 HXr2
    by_cases hlt : j < 3
    · have hlt' : (j : Int) < 3 := by omega
      have hltQ : j < Q.length := by have := HQ3.out; omega
      have hltR : j < R.length := by have := HR3.out; omega
      obtain ⟨b, o, rfl, hbq, p0, p1⟩ := RuRow.tok HRh.out hB hltQ
      have hgx := HKg.out _ (List.getElem_mem hltQ)
      have HS := hide (HOj.out.trans (nb_drop hltQ))
      have HL := hide (afL_succ ⟨q, R⟩ hltQ)
      obtain ⟨x, hx⟩ : ∃ x, x = Q[j] := ⟨_, rfl⟩
      rw [← hx] at p0 p1 HS HL hgx
      obtain ⟨hk, hn4, hn0⟩ := goodRu_kinds hgx
      clear hx HOj hgx
      obtain ⟨k, n⟩ := x
      simp only at p0 p1 hk hn4 hn0
      have hBs := hB.size
      obtain ⟨i0, hi0, hz0, hz1, hz2⟩ := infoPartsT infoRu
      have Hi := hide hi0
      have M1 : Hid (j + 1 ≤ maxLen) := hide (by unfold maxLen; omega)
      clear hi0
      obtain ⟨AL, hAL⟩ : ∃ AL, AL = rcells 2 Ru.c (afL ⟨q, R⟩ (Q.take j)) := ⟨_, rfl⟩
      rw [← hAL] at HO
      have HAL := hide hAL
      clear hAL
      obtain rfl | rfl | rfl | rfl | rfl : k = 1 ∨ k = 2 ∨ k = 3 ∨ k = 4 ∨ k = 5 := by omega
      · have HD := hide (fun w' => doingOf_any 1 n w')
        rw [show dg 1 = .agg #[.func (.func 39) #[] #[], .func (.func 40) #[] #[], .func (.func 41) #[] #[]] from rfl, show inB 1 1 5 = true from rfl] at HD
        have HC := hide (fun (w' : World) (hb : Below w.heap.size w w') => asItIs_any 1 n q ga 3 gc (j : Int) w')
        have HAf : Hid (aft ⟨q, R⟩ j ⟨1, n⟩ = ⟨1, n⟩) := hide (by simp [aft])
        have HS2 : Hid (OK = nb (Q.drop (j + 1))) := hide (HS.out.trans (by simp))
        clear hn4 hn0 hk
        go_wp2_with fail
        refine (HD.out _).mono ?_
        rintro e w4 ⟨rfl, hb4⟩
        have hB4 : Below w.heap.size w w4 := (hB.alloc hB.size _).trans (hb4.mono (by simp; omega))
        have x8 : Bx w4 wr.heap.size #[.int .i64 1, .int .i64 n] 61 := (Bx.new wr _ _).below hb4 (by simp)
        have xg4 := (HXg.out.alloc (.cells #[.int .i64 1, .int .i64 n] 61)).below hb4 (by simp; omega)
        have xr4 := (HXr.out.alloc (.cells #[.int .i64 1, .int .i64 n] 61)).below hb4 (by simp; omega)
        have xb4 := (HXb.out.alloc (.cells #[.int .i64 1, .int .i64 n] 61)).below hb4 (by simp; omega)
        have HO4 := hide (own_keep (HO.out.alloc (.cells #[.int .i64 1, .int .i64 n] 61)) (w' := w4) (fun k _ hk => hb4.block k hk))
        have hw4 := x8.lt
        obtain ⟨W5, hW5⟩ : ∃ W5, W5 = w4.alloc (.cells #[.func (.func 39) #[] #[], .func (.func 40) #[] #[], .func (.func 41) #[] #[]] 68) := ⟨_, rfl⟩
        have hB5 : Below w.heap.size w W5 := by rw [hW5]; exact hB4.alloc hB4.size _
        have xd5 : Bx W5 w4.heap.size #[.func (.func 39) #[] #[], .func (.func 40) #[] #[], .func (.func 41) #[] #[]] 68 := by rw [hW5]; exact Bx.new w4 _ _
        have x85 : Bx W5 wr.heap.size #[.int .i64 1, .int .i64 n] 61 := by rw [hW5]; exact x8.alloc _
        have xg5 : Bx W5 w.heap.size #[.int .i64 q, .slice ga 3 gc] 39 := by rw [hW5]; exact xg4.alloc _
        have xr5 : Bx W5 (w.heap.size + 1 + 1) #[.int .i64 0, .slice none 0 0] 39 := by rw [hW5]; exact xr4.alloc _
        have xb5 : Bx W5 w2.heap.size #[.int .i64 S, .slice sad j sc] 39 := by rw [hW5]; exact xb4.alloc _
        have HO5 : Hid (W5.ownsRow (w2.heap.size + 1) 61 2 (.slice sad j sc) j AL) := hide (by rw [hW5]; exact HO4.out.alloc _)
        have cd5 := xd5.c
        have c85 := x85.c
        have cg5 := xg5.c
        have HW5 := hide hW5
        have HXr5 := hide xr5
        have HXg5 := hide xg5
        have HXb5 := hide xb5
        clear hW5 xd5 x85 xg5 xr5 xb5 x8 xg4 xr4 xb4 HO4 hb4 p0 p1 HD
        go_upto_region 8 with fail
        rw [← HW5.out]
        clear HW5
        go_wp2_with fail
        (with_reducible refine Calls.mono (HC.out _ hB5) ?_)
        rintro e w6 ⟨rfl, hb6⟩
        have hB6' : Below w.heap.size w w6 := hB5.trans (hb6.mono hB5.size)
        have hs5 := hb6.size
        have hbW5 := HXb5.out.lt
        obtain ⟨WW, hWW⟩ : ∃ WW, WW = w6.alloc (.cells #[.int .i64 (1), .int .i64 (n)] 61) := ⟨_, rfl⟩
        have HBW : Hid (Below w.heap.size w WW) := hide (by rw [hWW]; exact hB6'.alloc hB6'.size _)
        have xxW : Bx WW w6.heap.size #[.int .i64 (1), .int .i64 (n)] 61 := by rw [hWW]; exact Bx.new w6 _ _
        have xgW : Bx WW w.heap.size #[.int .i64 q, .slice ga 3 gc] 39 := by rw [hWW]; exact (HXg5.out.below hb6 (by omega)).alloc _
        have xrW : Bx WW (w.heap.size + 1 + 1) #[.int .i64 0, .slice none 0 0] 39 := by rw [hWW]; exact (HXr5.out.below hb6 (by omega)).alloc _
        have xbW : Bx WW w2.heap.size #[.int .i64 S, .slice sad j sc] 39 := by rw [hWW]; exact (HXb5.out.below hb6 (by omega)).alloc _
        have HOW : Hid (WW.ownsRow (w2.heap.size + 1) 61 2 (.slice sad j sc) j AL) := hide (by rw [hWW]; exact (own_keep HO5.out (w' := w6) (fun k _ hk => hb6.block k hk)).alloc _)
        have cbW := xbW.c
        have cgW := xgW.c
        have crW := xrW.c
        have cxW := xxW.c
        have hlW := xbW.lt
        have hlxW := xxW.lt
        have HXgW := hide xgW
        have HXrW := hide xrW
        have HXbW := hide xbW
        have HWW := hide hWW
        clear hWW xxW xgW xrW xbW hb6 cd5 c85 cg5 HC HO5 HXg5 HXr5 HXb5
        go_upto_region 11 with fail
        rw [← HWW.out]
        clear HWW
        go_wp2_with (at_builtin; refine wpList_append_sep rfl _ _ 37 rfl (w2.heap.size + 1) 61 i0 (.agg #[.int .i64 0, .int .i64 0]) 2 16 Try.underlying37 Hi.out hz0 hz1 hz2 rfl (by decide) _ j AL rfl (HOW.out.alloc _) ⟨WW.heap.size, 0, none⟩ 1 1 [.int .i64 (1), .int .i64 (n)] rfl rfl (c2_news (heap_alloc_new WW (.cells #[.int .i64 (1), .int .i64 (n)] 61))) (c2_one _ _) M1.out (by omega) (by simp; omega) ?_)
        intro v' w6 hown6 hgrow6 hap6
        obtain ⟨nad, nc, rfl⟩ := own_form hown6
        have hk6 : ∀ k, k < w2.heap.size + 1 → w6.heap[k]? = WW.heap[k]? := fun k hk => by
          rw [hgrow6.block k (by simp; omega) (fun e => by have := (HOW.out.lt k e.symm).1; omega)]
          exact heap_alloc_old _ _ (by omega)
        have hs6 : WW.heap.size ≤ w6.heap.size := by have := hgrow6.size; simp at this; omega
        have hxb6 : Bx w6 w2.heap.size #[.int .i64 S, .slice sad j sc] 39 := (hk6 _ (by omega)).trans HXbW.out
        have cb6 := hxb6.c
        have fb6 := hxb6.f
        have hlb6 := hxb6.lt
        have HXb6 := hide hxb6
        have HXg6 : Hid (Bx w6 w.heap.size #[.int .i64 q, .slice ga 3 gc] 39) := hide ((hk6 _ (by omega)).trans HXgW.out)
        have HXr6 : Hid (Bx w6 (w.heap.size + 1 + 1) #[.int .i64 0, .slice none 0 0] 39) := hide ((hk6 _ (by omega)).trans HXrW.out)
        have hB6 : Below w.heap.size w w6 := (HBW.out.alloc HBW.out.size _).grown hgrow6 (by have := HBW.out.size; simp; omega) (fun k hk => by have := (HOW.out.lt k hk).1; omega)
        have HO6 := hide hown6
        clear hown6 hgrow6 hap6 cbW cgW crW cxW hk6 hxb6
        go_wp2_with fail
        refine ⟨⟨j + 1, .slice nad (j + 1) nc, by omega, by go_num, HXg6.out.setne _ _ _ (by omega), HXr6.out.setne _ _ _ (by omega), HXb6.out.set 1 _, ?_, HS2.out, hB6.setCell (p := ⟨w2.heap.size, 1, none⟩) (by simp; omega) _⟩, by simp [intOf]; omega⟩
        rw [HL.out, HAf.out, rcells_app, ← HAL.out]
        exact own_keep HO6.out (fun k hk1 hk2 => by
          have hne : k ≠ w2.heap.size := by omega
          exact Below.heap_setCell _ _ _ _ hne)
      · have HD := hide (fun w' => doingOf_any 2 n w')
        rw [show dg 2 = .agg #[.func (.func 39) #[] #[], .func (.func 42) #[] #[], .func (.func 41) #[] #[]] from rfl, show inB 2 1 5 = true from rfl] at HD
        have HC := hide (fun (w' : World) (hb : Below w.heap.size w w') => asItIs_any 2 n q ga 3 gc (j : Int) w')
        have HAf : Hid (aft ⟨q, R⟩ j ⟨2, n⟩ = ⟨2, n⟩) := hide (by simp [aft])
        have HS2 : Hid (OK = nb (Q.drop (j + 1))) := hide (HS.out.trans (by simp))
        clear hn4 hn0 hk
        go_wp2_with fail
        refine (HD.out _).mono ?_
        rintro e w4 ⟨rfl, hb4⟩
        have hB4 : Below w.heap.size w w4 := (hB.alloc hB.size _).trans (hb4.mono (by simp; omega))
        have x8 : Bx w4 wr.heap.size #[.int .i64 2, .int .i64 n] 61 := (Bx.new wr _ _).below hb4 (by simp)
        have xg4 := (HXg.out.alloc (.cells #[.int .i64 2, .int .i64 n] 61)).below hb4 (by simp; omega)
        have xr4 := (HXr.out.alloc (.cells #[.int .i64 2, .int .i64 n] 61)).below hb4 (by simp; omega)
        have xb4 := (HXb.out.alloc (.cells #[.int .i64 2, .int .i64 n] 61)).below hb4 (by simp; omega)
        have HO4 := hide (own_keep (HO.out.alloc (.cells #[.int .i64 2, .int .i64 n] 61)) (w' := w4) (fun k _ hk => hb4.block k hk))
        have hw4 := x8.lt
        obtain ⟨W5, hW5⟩ : ∃ W5, W5 = w4.alloc (.cells #[.func (.func 39) #[] #[], .func (.func 42) #[] #[], .func (.func 41) #[] #[]] 68) := ⟨_, rfl⟩
        have hB5 : Below w.heap.size w W5 := by rw [hW5]; exact hB4.alloc hB4.size _
        have xd5 : Bx W5 w4.heap.size #[.func (.func 39) #[] #[], .func (.func 42) #[] #[], .func (.func 41) #[] #[]] 68 := by rw [hW5]; exact Bx.new w4 _ _
        have x85 : Bx W5 wr.heap.size #[.int .i64 2, .int .i64 n] 61 := by rw [hW5]; exact x8.alloc _
        have xg5 : Bx W5 w.heap.size #[.int .i64 q, .slice ga 3 gc] 39 := by rw [hW5]; exact xg4.alloc _
        have xr5 : Bx W5 (w.heap.size + 1 + 1) #[.int .i64 0, .slice none 0 0] 39 := by rw [hW5]; exact xr4.alloc _
        have xb5 : Bx W5 w2.heap.size #[.int .i64 S, .slice sad j sc] 39 := by rw [hW5]; exact xb4.alloc _
        have HO5 : Hid (W5.ownsRow (w2.heap.size + 1) 61 2 (.slice sad j sc) j AL) := hide (by rw [hW5]; exact HO4.out.alloc _)
        have cd5 := xd5.c
        have c85 := x85.c
        have cg5 := xg5.c
        have HW5 := hide hW5
        have HXr5 := hide xr5
        have HXg5 := hide xg5
        have HXb5 := hide xb5
        clear hW5 xd5 x85 xg5 xr5 xb5 x8 xg4 xr4 xb4 HO4 hb4 p0 p1 HD
        go_upto_region 8 with fail
        rw [← HW5.out]
        clear HW5
        go_wp2_with fail
        (with_reducible refine Calls.mono (HC.out _ hB5) ?_)
        rintro e w6 ⟨rfl, hb6⟩
        have hB6' : Below w.heap.size w w6 := hB5.trans (hb6.mono hB5.size)
        have hs5 := hb6.size
        have hbW5 := HXb5.out.lt
        obtain ⟨WW, hWW⟩ : ∃ WW, WW = w6.alloc (.cells #[.int .i64 (2), .int .i64 (n)] 61) := ⟨_, rfl⟩
        have HBW : Hid (Below w.heap.size w WW) := hide (by rw [hWW]; exact hB6'.alloc hB6'.size _)
        have xxW : Bx WW w6.heap.size #[.int .i64 (2), .int .i64 (n)] 61 := by rw [hWW]; exact Bx.new w6 _ _
        have xgW : Bx WW w.heap.size #[.int .i64 q, .slice ga 3 gc] 39 := by rw [hWW]; exact (HXg5.out.below hb6 (by omega)).alloc _
        have xrW : Bx WW (w.heap.size + 1 + 1) #[.int .i64 0, .slice none 0 0] 39 := by rw [hWW]; exact (HXr5.out.below hb6 (by omega)).alloc _
        have xbW : Bx WW w2.heap.size #[.int .i64 S, .slice sad j sc] 39 := by rw [hWW]; exact (HXb5.out.below hb6 (by omega)).alloc _
        have HOW : Hid (WW.ownsRow (w2.heap.size + 1) 61 2 (.slice sad j sc) j AL) := hide (by rw [hWW]; exact (own_keep HO5.out (w' := w6) (fun k _ hk => hb6.block k hk)).alloc _)
        have cbW := xbW.c
        have cgW := xgW.c
        have crW := xrW.c
        have cxW := xxW.c
        have hlW := xbW.lt
        have hlxW := xxW.lt
        have HXgW := hide xgW
        have HXrW := hide xrW
        have HXbW := hide xbW
        have HWW := hide hWW
        clear hWW xxW xgW xrW xbW hb6 cd5 c85 cg5 HC HO5 HXg5 HXr5 HXb5
        go_upto_region 11 with fail
        rw [← HWW.out]
        clear HWW
        go_wp2_with (at_builtin; refine wpList_append_sep rfl _ _ 37 rfl (w2.heap.size + 1) 61 i0 (.agg #[.int .i64 0, .int .i64 0]) 2 16 Try.underlying37 Hi.out hz0 hz1 hz2 rfl (by decide) _ j AL rfl (HOW.out.alloc _) ⟨WW.heap.size, 0, none⟩ 1 1 [.int .i64 (2), .int .i64 (n)] rfl rfl (c2_news (heap_alloc_new WW (.cells #[.int .i64 (2), .int .i64 (n)] 61))) (c2_one _ _) M1.out (by omega) (by simp; omega) ?_)
        intro v' w6 hown6 hgrow6 hap6
        obtain ⟨nad, nc, rfl⟩ := own_form hown6
        have hk6 : ∀ k, k < w2.heap.size + 1 → w6.heap[k]? = WW.heap[k]? := fun k hk => by
          rw [hgrow6.block k (by simp; omega) (fun e => by have := (HOW.out.lt k e.symm).1; omega)]
          exact heap_alloc_old _ _ (by omega)
        have hs6 : WW.heap.size ≤ w6.heap.size := by have := hgrow6.size; simp at this; omega
        have hxb6 : Bx w6 w2.heap.size #[.int .i64 S, .slice sad j sc] 39 := (hk6 _ (by omega)).trans HXbW.out
        have cb6 := hxb6.c
        have fb6 := hxb6.f
        have hlb6 := hxb6.lt
        have HXb6 := hide hxb6
        have HXg6 : Hid (Bx w6 w.heap.size #[.int .i64 q, .slice ga 3 gc] 39) := hide ((hk6 _ (by omega)).trans HXgW.out)
        have HXr6 : Hid (Bx w6 (w.heap.size + 1 + 1) #[.int .i64 0, .slice none 0 0] 39) := hide ((hk6 _ (by omega)).trans HXrW.out)
        have hB6 : Below w.heap.size w w6 := (HBW.out.alloc HBW.out.size _).grown hgrow6 (by have := HBW.out.size; simp; omega) (fun k hk => by have := (HOW.out.lt k hk).1; omega)
        have HO6 := hide hown6
        clear hown6 hgrow6 hap6 cbW cgW crW cxW hk6 hxb6
        go_wp2_with fail
        refine ⟨⟨j + 1, .slice nad (j + 1) nc, by omega, by go_num, HXg6.out.setne _ _ _ (by omega), HXr6.out.setne _ _ _ (by omega), HXb6.out.set 1 _, ?_, HS2.out, hB6.setCell (p := ⟨w2.heap.size, 1, none⟩) (by simp; omega) _⟩, by simp [intOf]; omega⟩
        rw [HL.out, HAf.out, rcells_app, ← HAL.out]
        exact own_keep HO6.out (fun k hk1 hk2 => by
          have hne : k ≠ w2.heap.size := by omega
          exact Below.heap_setCell _ _ _ _ hne)
      · have HD := hide (fun w' => doingOf_any 3 n w')
        rw [show dg 3 = .agg #[.func (.func 39) #[] #[], .func (.func 43) #[] #[], .func (.func 44) #[] #[]] from rfl, show inB 3 1 5 = true from rfl] at HD
        have HC := hide (fun (w' : World) (hb : Below w.heap.size w w') => asNone_any 3 n q ga 3 gc (j : Int) w')
        clear hn4 hn0 hk
        go_wp2_with fail
        refine (HD.out _).mono ?_
        rintro e w4 ⟨rfl, hb4⟩
        have hB4 : Below w.heap.size w w4 := (hB.alloc hB.size _).trans (hb4.mono (by simp; omega))
        have x8 : Bx w4 wr.heap.size #[.int .i64 3, .int .i64 n] 61 := (Bx.new wr _ _).below hb4 (by simp)
        have xg4 := (HXg.out.alloc (.cells #[.int .i64 3, .int .i64 n] 61)).below hb4 (by simp; omega)
        have xr4 := (HXr.out.alloc (.cells #[.int .i64 3, .int .i64 n] 61)).below hb4 (by simp; omega)
        have xb4 := (HXb.out.alloc (.cells #[.int .i64 3, .int .i64 n] 61)).below hb4 (by simp; omega)
        have HO4 := hide (own_keep (HO.out.alloc (.cells #[.int .i64 3, .int .i64 n] 61)) (w' := w4) (fun k _ hk => hb4.block k hk))
        have hw4 := x8.lt
        obtain ⟨W5, hW5⟩ : ∃ W5, W5 = w4.alloc (.cells #[.func (.func 39) #[] #[], .func (.func 43) #[] #[], .func (.func 44) #[] #[]] 68) := ⟨_, rfl⟩
        have hB5 : Below w.heap.size w W5 := by rw [hW5]; exact hB4.alloc hB4.size _
        have xd5 : Bx W5 w4.heap.size #[.func (.func 39) #[] #[], .func (.func 43) #[] #[], .func (.func 44) #[] #[]] 68 := by rw [hW5]; exact Bx.new w4 _ _
        have x85 : Bx W5 wr.heap.size #[.int .i64 3, .int .i64 n] 61 := by rw [hW5]; exact x8.alloc _
        have xg5 : Bx W5 w.heap.size #[.int .i64 q, .slice ga 3 gc] 39 := by rw [hW5]; exact xg4.alloc _
        have xr5 : Bx W5 (w.heap.size + 1 + 1) #[.int .i64 0, .slice none 0 0] 39 := by rw [hW5]; exact xr4.alloc _
        have xb5 : Bx W5 w2.heap.size #[.int .i64 S, .slice sad j sc] 39 := by rw [hW5]; exact xb4.alloc _
        have HO5 : Hid (W5.ownsRow (w2.heap.size + 1) 61 2 (.slice sad j sc) j AL) := hide (by rw [hW5]; exact HO4.out.alloc _)
        have cd5 := xd5.c
        have c85 := x85.c
        have cg5 := xg5.c
        have HW5 := hide hW5
        have HXr5 := hide xr5
        have HXg5 := hide xg5
        have HXb5 := hide xb5
        clear hW5 xd5 x85 xg5 xr5 xb5 x8 xg4 xr4 xb4 HO4 hb4 p0 p1 HD
        go_upto_region 8 with fail
        rw [← HW5.out]
        clear HW5
        go_wp2_with fail
        (with_reducible refine Calls.mono (HC.out _ hB5) ?_)
        rintro e w6 ⟨rfl, hb6⟩
        have hB6' : Below w.heap.size w w6 := hB5.trans (hb6.mono hB5.size)
        have hs5 := hb6.size
        have hbW5 := HXb5.out.lt
        have xr6 := HXr5.out.below hb6 (by omega)
        have HE1 : Hid (OK = false) := hide (HS.out.trans (by simp))
        have cr := xr6.c
        have fr := xr6.f
        have hlr6 := xr6.lt
        have HXr6 := hide xr6
        clear hb6 cd5 c85 cg5 HC xr6
        go_wp2_with fail
        have hx' := ((HXr6.out.set 0 (.int .i64 0)).set 1 (.slice none 0 0)).alloc (.cells #[.int .i64 0, .int .i64 0] 61)
        have r0' := (hx'.c 0).trans rfl
        have r1' := (hx'.c 1).trans rfl
        clear cr fr
        refine bodyPost_ret (v := .tuple #[.agg #[.int .i64 0, .slice none 0 0], .bool false]) (by simp [results, Try.results15, go_sem, r0', r1']) rfl ⟨_, by rw [HE1.out], ?_, ?_⟩
        · rw [HEN.out HE1.out]; exact ⟨_, rfl, World.ownsRow_nil _ _ _ _⟩
        · first
            | exact ((hB6'.setCell (p := ⟨w.heap.size + 1 + 1, 0, none⟩) (by simp; omega) _).setCell (p := ⟨w.heap.size + 1 + 1, 1, none⟩) (by simp; omega) _).alloc (by simp [World.setCell]; have := hB6'.size; omega) _
            | exact ((hB6'.alloc hB6'.size _).setCell (p := ⟨w.heap.size + 1 + 1, 0, none⟩) (by simp; omega) _).setCell (p := ⟨w.heap.size + 1 + 1, 1, none⟩) (by simp; omega) _
      · have HD := hide (fun w' => doingOf_any 4 n w')
        rw [show dg 4 = .agg #[.func (.func 45) #[] #[], .func (.func 46) #[] #[], .func (.func 47) #[] #[]] from rfl, show inB 4 1 5 = true from rfl] at HD
        have HC := hide (fun (w' : World) (hb : Below w.heap.size w w') => asToldOn_any 4 n q ga 3 gc (j : Int) w' (hn4 rfl).1 (hn4 rfl).2 g0 g1)
        have HAf : Hid (aft ⟨q, R⟩ j ⟨4, n⟩ = ⟨4, (n + q) % 100⟩) := hide (by simp [aft])
        have HS2 : Hid (OK = nb (Q.drop (j + 1))) := hide (HS.out.trans (by simp))
        obtain ⟨K2, hK2⟩ : ∃ K2, K2 = (4 : Int) := ⟨_, rfl⟩
        obtain ⟨N2, hN2⟩ : ∃ N2, N2 = (n + q) % 100 := ⟨_, rfl⟩
        rw [← hN2] at HC HAf
        rw [← hK2] at HAf
        clear hN2
        subst hK2
        clear hn4 hn0 hk
        go_wp2_with fail
        refine (HD.out _).mono ?_
        rintro e w4 ⟨rfl, hb4⟩
        have hB4 : Below w.heap.size w w4 := (hB.alloc hB.size _).trans (hb4.mono (by simp; omega))
        have x8 : Bx w4 wr.heap.size #[.int .i64 4, .int .i64 n] 61 := (Bx.new wr _ _).below hb4 (by simp)
        have xg4 := (HXg.out.alloc (.cells #[.int .i64 4, .int .i64 n] 61)).below hb4 (by simp; omega)
        have xr4 := (HXr.out.alloc (.cells #[.int .i64 4, .int .i64 n] 61)).below hb4 (by simp; omega)
        have xb4 := (HXb.out.alloc (.cells #[.int .i64 4, .int .i64 n] 61)).below hb4 (by simp; omega)
        have HO4 := hide (own_keep (HO.out.alloc (.cells #[.int .i64 4, .int .i64 n] 61)) (w' := w4) (fun k _ hk => hb4.block k hk))
        have hw4 := x8.lt
        obtain ⟨W5, hW5⟩ : ∃ W5, W5 = w4.alloc (.cells #[.func (.func 45) #[] #[], .func (.func 46) #[] #[], .func (.func 47) #[] #[]] 68) := ⟨_, rfl⟩
        have hB5 : Below w.heap.size w W5 := by rw [hW5]; exact hB4.alloc hB4.size _
        have xd5 : Bx W5 w4.heap.size #[.func (.func 45) #[] #[], .func (.func 46) #[] #[], .func (.func 47) #[] #[]] 68 := by rw [hW5]; exact Bx.new w4 _ _
        have x85 : Bx W5 wr.heap.size #[.int .i64 4, .int .i64 n] 61 := by rw [hW5]; exact x8.alloc _
        have xg5 : Bx W5 w.heap.size #[.int .i64 q, .slice ga 3 gc] 39 := by rw [hW5]; exact xg4.alloc _
        have xr5 : Bx W5 (w.heap.size + 1 + 1) #[.int .i64 0, .slice none 0 0] 39 := by rw [hW5]; exact xr4.alloc _
        have xb5 : Bx W5 w2.heap.size #[.int .i64 S, .slice sad j sc] 39 := by rw [hW5]; exact xb4.alloc _
        have HO5 : Hid (W5.ownsRow (w2.heap.size + 1) 61 2 (.slice sad j sc) j AL) := hide (by rw [hW5]; exact HO4.out.alloc _)
        have cd5 := xd5.c
        have c85 := x85.c
        have cg5 := xg5.c
        have HW5 := hide hW5
        have HXr5 := hide xr5
        have HXg5 := hide xg5
        have HXb5 := hide xb5
        clear hW5 xd5 x85 xg5 xr5 xb5 x8 xg4 xr4 xb4 HO4 hb4 p0 p1 HD
        go_upto_region 8 with fail
        rw [← HW5.out]
        clear HW5
        go_wp2_with fail
        (with_reducible refine Calls.mono (HC.out _ hB5) ?_)
        rintro e w6 ⟨rfl, hb6⟩
        have hB6' : Below w.heap.size w w6 := hB5.trans (hb6.mono hB5.size)
        have hs5 := hb6.size
        have hbW5 := HXb5.out.lt
        obtain ⟨WW, hWW⟩ : ∃ WW, WW = w6.alloc (.cells #[.int .i64 (4), .int .i64 (N2)] 61) := ⟨_, rfl⟩
        have HBW : Hid (Below w.heap.size w WW) := hide (by rw [hWW]; exact hB6'.alloc hB6'.size _)
        have xxW : Bx WW w6.heap.size #[.int .i64 (4), .int .i64 (N2)] 61 := by rw [hWW]; exact Bx.new w6 _ _
        have xgW : Bx WW w.heap.size #[.int .i64 q, .slice ga 3 gc] 39 := by rw [hWW]; exact (HXg5.out.below hb6 (by omega)).alloc _
        have xrW : Bx WW (w.heap.size + 1 + 1) #[.int .i64 0, .slice none 0 0] 39 := by rw [hWW]; exact (HXr5.out.below hb6 (by omega)).alloc _
        have xbW : Bx WW w2.heap.size #[.int .i64 S, .slice sad j sc] 39 := by rw [hWW]; exact (HXb5.out.below hb6 (by omega)).alloc _
        have HOW : Hid (WW.ownsRow (w2.heap.size + 1) 61 2 (.slice sad j sc) j AL) := hide (by rw [hWW]; exact (own_keep HO5.out (w' := w6) (fun k _ hk => hb6.block k hk)).alloc _)
        have cbW := xbW.c
        have cgW := xgW.c
        have crW := xrW.c
        have cxW := xxW.c
        have hlW := xbW.lt
        have hlxW := xxW.lt
        have HXgW := hide xgW
        have HXrW := hide xrW
        have HXbW := hide xbW
        have HWW := hide hWW
        clear hWW xxW xgW xrW xbW hb6 cd5 c85 cg5 HC HO5 HXg5 HXr5 HXb5
        go_upto_region 11 with fail
        rw [← HWW.out]
        clear HWW
        go_wp2_with (at_builtin; refine wpList_append_sep rfl _ _ 37 rfl (w2.heap.size + 1) 61 i0 (.agg #[.int .i64 0, .int .i64 0]) 2 16 Try.underlying37 Hi.out hz0 hz1 hz2 rfl (by decide) _ j AL rfl (HOW.out.alloc _) ⟨WW.heap.size, 0, none⟩ 1 1 [.int .i64 (4), .int .i64 (N2)] rfl rfl (c2_news (heap_alloc_new WW (.cells #[.int .i64 (4), .int .i64 (N2)] 61))) (c2_one _ _) M1.out (by omega) (by simp; omega) ?_)
        intro v' w6 hown6 hgrow6 hap6
        obtain ⟨nad, nc, rfl⟩ := own_form hown6
        have hk6 : ∀ k, k < w2.heap.size + 1 → w6.heap[k]? = WW.heap[k]? := fun k hk => by
          rw [hgrow6.block k (by simp; omega) (fun e => by have := (HOW.out.lt k e.symm).1; omega)]
          exact heap_alloc_old _ _ (by omega)
        have hs6 : WW.heap.size ≤ w6.heap.size := by have := hgrow6.size; simp at this; omega
        have hxb6 : Bx w6 w2.heap.size #[.int .i64 S, .slice sad j sc] 39 := (hk6 _ (by omega)).trans HXbW.out
        have cb6 := hxb6.c
        have fb6 := hxb6.f
        have hlb6 := hxb6.lt
        have HXb6 := hide hxb6
        have HXg6 : Hid (Bx w6 w.heap.size #[.int .i64 q, .slice ga 3 gc] 39) := hide ((hk6 _ (by omega)).trans HXgW.out)
        have HXr6 : Hid (Bx w6 (w.heap.size + 1 + 1) #[.int .i64 0, .slice none 0 0] 39) := hide ((hk6 _ (by omega)).trans HXrW.out)
        have hB6 : Below w.heap.size w w6 := (HBW.out.alloc HBW.out.size _).grown hgrow6 (by have := HBW.out.size; simp; omega) (fun k hk => by have := (HOW.out.lt k hk).1; omega)
        have HO6 := hide hown6
        clear hown6 hgrow6 hap6 cbW cgW crW cxW hk6 hxb6
        go_wp2_with fail
        refine ⟨⟨j + 1, .slice nad (j + 1) nc, by omega, by go_num, HXg6.out.setne _ _ _ (by omega), HXr6.out.setne _ _ _ (by omega), HXb6.out.set 1 _, ?_, HS2.out, hB6.setCell (p := ⟨w2.heap.size, 1, none⟩) (by simp; omega) _⟩, by simp [intOf]; omega⟩
        rw [HL.out, HAf.out, rcells_app, ← HAL.out]
        exact own_keep HO6.out (fun k hk1 hk2 => by
          have hne : k ≠ w2.heap.size := by omega
          exact Below.heap_setCell _ _ _ _ hne)
      · have HD := hide (fun w' => doingOf_any 5 n w')
        rw [show dg 5 = .agg #[.func (.func 39) #[] #[], .func (.func 48) #[] #[], .func (.func 49) #[] #[]] from rfl, show inB 5 1 5 = true from rfl] at HD
        have HC := hide (fun (w' : World) (hb : Below w.heap.size w w') => asOutside_any 5 n q ga gc R j w' (RRow.below HRg.out hb) hltR (by have := HR3.out; omega))
        rw [HR3.out] at HC
        have HAf : Hid (aft ⟨q, R⟩ j ⟨5, n⟩ = ⟨R[j].kd, R[j].n⟩) := hide (by simp [aft, List.getD_eq_getElem?_getD, hltR])
        have HS2 : Hid (OK = nb (Q.drop (j + 1))) := hide (HS.out.trans (by simp))
        obtain ⟨K2, hK2⟩ : ∃ K2, K2 = (R[j].kd : Int) := ⟨_, rfl⟩
        obtain ⟨N2, hN2⟩ : ∃ N2, N2 = R[j].n := ⟨_, rfl⟩
        rw [← hN2] at HC HAf
        rw [← hK2] at HC HAf
        clear hN2
        clear hK2
        clear hn4 hn0 hk
        go_wp2_with fail
        refine (HD.out _).mono ?_
        rintro e w4 ⟨rfl, hb4⟩
        have hB4 : Below w.heap.size w w4 := (hB.alloc hB.size _).trans (hb4.mono (by simp; omega))
        have x8 : Bx w4 wr.heap.size #[.int .i64 5, .int .i64 n] 61 := (Bx.new wr _ _).below hb4 (by simp)
        have xg4 := (HXg.out.alloc (.cells #[.int .i64 5, .int .i64 n] 61)).below hb4 (by simp; omega)
        have xr4 := (HXr.out.alloc (.cells #[.int .i64 5, .int .i64 n] 61)).below hb4 (by simp; omega)
        have xb4 := (HXb.out.alloc (.cells #[.int .i64 5, .int .i64 n] 61)).below hb4 (by simp; omega)
        have HO4 := hide (own_keep (HO.out.alloc (.cells #[.int .i64 5, .int .i64 n] 61)) (w' := w4) (fun k _ hk => hb4.block k hk))
        have hw4 := x8.lt
        obtain ⟨W5, hW5⟩ : ∃ W5, W5 = w4.alloc (.cells #[.func (.func 39) #[] #[], .func (.func 48) #[] #[], .func (.func 49) #[] #[]] 68) := ⟨_, rfl⟩
        have hB5 : Below w.heap.size w W5 := by rw [hW5]; exact hB4.alloc hB4.size _
        have xd5 : Bx W5 w4.heap.size #[.func (.func 39) #[] #[], .func (.func 48) #[] #[], .func (.func 49) #[] #[]] 68 := by rw [hW5]; exact Bx.new w4 _ _
        have x85 : Bx W5 wr.heap.size #[.int .i64 5, .int .i64 n] 61 := by rw [hW5]; exact x8.alloc _
        have xg5 : Bx W5 w.heap.size #[.int .i64 q, .slice ga 3 gc] 39 := by rw [hW5]; exact xg4.alloc _
        have xr5 : Bx W5 (w.heap.size + 1 + 1) #[.int .i64 0, .slice none 0 0] 39 := by rw [hW5]; exact xr4.alloc _
        have xb5 : Bx W5 w2.heap.size #[.int .i64 S, .slice sad j sc] 39 := by rw [hW5]; exact xb4.alloc _
        have HO5 : Hid (W5.ownsRow (w2.heap.size + 1) 61 2 (.slice sad j sc) j AL) := hide (by rw [hW5]; exact HO4.out.alloc _)
        have cd5 := xd5.c
        have c85 := x85.c
        have cg5 := xg5.c
        have HW5 := hide hW5
        have HXr5 := hide xr5
        have HXg5 := hide xg5
        have HXb5 := hide xb5
        clear hW5 xd5 x85 xg5 xr5 xb5 x8 xg4 xr4 xb4 HO4 hb4 p0 p1 HD
        go_upto_region 8 with fail
        rw [← HW5.out]
        clear HW5
        go_wp2_with fail
        (with_reducible refine Calls.mono (HC.out _ hB5) ?_)
        rintro e w6 ⟨rfl, hb6⟩
        have hB6' : Below w.heap.size w w6 := hB5.trans (hb6.mono hB5.size)
        have hs5 := hb6.size
        have hbW5 := HXb5.out.lt
        obtain ⟨WW, hWW⟩ : ∃ WW, WW = w6.alloc (.cells #[.int .i64 (K2), .int .i64 (N2)] 61) := ⟨_, rfl⟩
        have HBW : Hid (Below w.heap.size w WW) := hide (by rw [hWW]; exact hB6'.alloc hB6'.size _)
        have xxW : Bx WW w6.heap.size #[.int .i64 (K2), .int .i64 (N2)] 61 := by rw [hWW]; exact Bx.new w6 _ _
        have xgW : Bx WW w.heap.size #[.int .i64 q, .slice ga 3 gc] 39 := by rw [hWW]; exact (HXg5.out.below hb6 (by omega)).alloc _
        have xrW : Bx WW (w.heap.size + 1 + 1) #[.int .i64 0, .slice none 0 0] 39 := by rw [hWW]; exact (HXr5.out.below hb6 (by omega)).alloc _
        have xbW : Bx WW w2.heap.size #[.int .i64 S, .slice sad j sc] 39 := by rw [hWW]; exact (HXb5.out.below hb6 (by omega)).alloc _
        have HOW : Hid (WW.ownsRow (w2.heap.size + 1) 61 2 (.slice sad j sc) j AL) := hide (by rw [hWW]; exact (own_keep HO5.out (w' := w6) (fun k _ hk => hb6.block k hk)).alloc _)
        have cbW := xbW.c
        have cgW := xgW.c
        have crW := xrW.c
        have cxW := xxW.c
        have hlW := xbW.lt
        have hlxW := xxW.lt
        have HXgW := hide xgW
        have HXrW := hide xrW
        have HXbW := hide xbW
        have HWW := hide hWW
        clear hWW xxW xgW xrW xbW hb6 cd5 c85 cg5 HC HO5 HXg5 HXr5 HXb5
        go_upto_region 11 with fail
        rw [← HWW.out]
        clear HWW
        go_wp2_with (at_builtin; refine wpList_append_sep rfl _ _ 37 rfl (w2.heap.size + 1) 61 i0 (.agg #[.int .i64 0, .int .i64 0]) 2 16 Try.underlying37 Hi.out hz0 hz1 hz2 rfl (by decide) _ j AL rfl (HOW.out.alloc _) ⟨WW.heap.size, 0, none⟩ 1 1 [.int .i64 (K2), .int .i64 (N2)] rfl rfl (c2_news (heap_alloc_new WW (.cells #[.int .i64 (K2), .int .i64 (N2)] 61))) (c2_one _ _) M1.out (by omega) (by simp; omega) ?_)
        intro v' w6 hown6 hgrow6 hap6
        obtain ⟨nad, nc, rfl⟩ := own_form hown6
        have hk6 : ∀ k, k < w2.heap.size + 1 → w6.heap[k]? = WW.heap[k]? := fun k hk => by
          rw [hgrow6.block k (by simp; omega) (fun e => by have := (HOW.out.lt k e.symm).1; omega)]
          exact heap_alloc_old _ _ (by omega)
        have hs6 : WW.heap.size ≤ w6.heap.size := by have := hgrow6.size; simp at this; omega
        have hxb6 : Bx w6 w2.heap.size #[.int .i64 S, .slice sad j sc] 39 := (hk6 _ (by omega)).trans HXbW.out
        have cb6 := hxb6.c
        have fb6 := hxb6.f
        have hlb6 := hxb6.lt
        have HXb6 := hide hxb6
        have HXg6 : Hid (Bx w6 w.heap.size #[.int .i64 q, .slice ga 3 gc] 39) := hide ((hk6 _ (by omega)).trans HXgW.out)
        have HXr6 : Hid (Bx w6 (w.heap.size + 1 + 1) #[.int .i64 0, .slice none 0 0] 39) := hide ((hk6 _ (by omega)).trans HXrW.out)
        have hB6 : Below w.heap.size w w6 := (HBW.out.alloc HBW.out.size _).grown hgrow6 (by have := HBW.out.size; simp; omega) (fun k hk => by have := (HOW.out.lt k hk).1; omega)
        have HO6 := hide hown6
        clear hown6 hgrow6 hap6 cbW cgW crW cxW hk6 hxb6
        go_wp2_with fail
        refine ⟨⟨j + 1, .slice nad (j + 1) nc, by omega, by go_num, HXg6.out.setne _ _ _ (by omega), HXr6.out.setne _ _ _ (by omega), HXb6.out.set 1 _, ?_, HS2.out, hB6.setCell (p := ⟨w2.heap.size, 1, none⟩) (by simp; omega) _⟩, by simp [intOf]; omega⟩
        rw [HL.out, HAf.out, rcells_app, ← HAL.out]
        exact own_keep HO6.out (fun k hk1 hk2 => by
          have hne : k ≠ w2.heap.size := by omega
          exact Below.heap_setCell _ _ _ _ hne)
    · obtain rfl : j = 3 := by omega
      have cb := HXb.out.c
      have cr := HXr.out.c
      have fr := HXr.out.f
      have hlr9 := HXr.out.lt
      have HE1 : Hid (OK = true) := hide (HOj.out.trans (by rw [List.drop_eq_nil_of_le (by have := HQ3.out; omega)]; rfl))
      have HTk : Hid (Q.take 3 = Q) := hide (List.take_of_length_le (by have := HQ3.out; omega))
      have hnB : ¬ w2.heap.size = w.heap.size + 1 + 1 := by omega
      go_wp2_with fail
      have hx := (HXr.out.set 0 (.int .i64 S)).set 1 (.slice sad 3 sc)
      have r0 := (hx.c 0).trans rfl
      have r1 := (hx.c 1).trans rfl
      clear cb cr fr
      refine bodyPost_ret (v := .tuple #[.agg #[.int .i64 S, .slice sad 3 sc], .bool true]) (by simp [results, Try.results15, go_sem, r0, r1]) rfl ⟨_, by rw [HE1.out], ?_, (hB.setCell (p := ⟨w.heap.size + 1 + 1, 0, none⟩) (by simp; omega) _).setCell (p := ⟨w.heap.size + 1 + 1, 1, none⟩) (by simp; omega) _⟩
      rw [HEH.out HE1.out]
      refine ⟨_, by rw [HSum.out], ?_⟩
      have h3 := own_lower HO.out (base' := w.heap.size) (by omega)
      rw [HTk.out] at h3
      show World.ownsRow _ _ _ _ _ (afL ⟨q, R⟩ Q).length _
      rw [afL_len, HQ3.out]
      exact own_same h3 (fun k hk _ _ => by
        have hk2 := (HO.out.lt k hk).1
        have hne : k ≠ w.heap.size + 1 + 1 := by omega
        rw [Below.heap_setCell _ _ _ _ hne, Below.heap_setCell _ _ _ _ hne])
theorem implAfter_any (v1 v2 : Value) (g h : Hd) (w : World) (h1 : HRow w v1 g) (h2 : HRow w v2 h) :
    Calls Try.prog 15 #[v1, v2] w (RH w g h) := by
  cases hg : goodH g with
  | false => exact implAfter_g v1 v2 g h w h1 h2 hg
  | true =>
    cases hh : goodH h with
    | false => exact implAfter_h v1 v2 g h w h1 h2 hg hh
    | true => exact implAfter_both v1 v2 g h w h1 h2 hg hh
end Go.Proofs.Ytlicfmjkoopmnab.C

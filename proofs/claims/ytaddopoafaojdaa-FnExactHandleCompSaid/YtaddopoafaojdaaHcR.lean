/-
  The program's handled, by trees. Conditions: at most 60 cells, a good handler. Written by wip/build/mk_hcr.py.
-/
import Derived.Test.YtaddopoafaojdaaHcQ
import Derived.Test.YtaddopoafaojdaaCoC
import Derived.Test.YtaddopoafaojdaaHaD
import Derived.Deep.RegionHeld3
import Derived.Deep.CutRange
namespace Go.Proofs.Ytaddopoafaojdaa.C
open Go.Proofs.Ytaddopoafaojdaa.W
open Go.ChangeShapes Go.WideShapes Go.ChangeAt Go.RowKit
set_option linter.unusedVariables false

theorem rowFirst {w : World} {b o : Nat} {t : Tr} {r : List Cc} (h : CRowAt w b o (t.flat ++ r)) : CRowAt w b o t.flat := by
  refine ⟨h.1, fun i hi => ?_⟩
  have h2 := h.2 i (by simp; omega)
  rw [List.getElem_append_left hi] at h2
  exact h2
theorem rowSecond {w : World} {b o : Nat} {t : Tr} {r : List Cc} (h : CRowAt w b o (t.flat ++ r)) : CRowAt w b (o + t.flat.length * 2) r := by
  have := h.drop t.flat.length
  rwa [List.drop_left] at this
theorem rowBehind {w : World} {b o : Nat} {x : Cc} {r : List Cc} (h : CRowAt w b o (x :: r)) : CRowAt w b (o + 2) r := h.drop 1

def HdGoal (q : Int) (R : List Ru) (ha : Option Addr) (hc : Nat) (t : Tr) : Prop := ∀ (b o c : Nat) (w : World), t.ok → t.flat.length ≤ c → t.flat.length ≤ 60 → CRowAt w b o t.flat → RuRow w ha R →
    Calls Try.prog 24 #[.agg #[.int .i64 q, .slice ha 3 hc], .slice (some ⟨b, o, none⟩) t.flat.length c] w (RU2 w (oF (t.hnd ⟨q, R⟩)) (t.hnd ⟨q, R⟩).isSome)

set_option maxRecDepth 20000 in
set_option maxHeartbeats 4000000 in
theorem handled_ret (q : Int) (R : List Ru) (ha : Option Addr) (hc : Nat) (hg : goodH ⟨q, R⟩ = true) (n : Int) : HdGoal q R ha hc (.ret n) := by
  intro b o c w hok hcc h6 hR hRu
  obtain ⟨q0, q1, -, -⟩ := goodH_parts hg
  have hn : 0 ≤ n ∧ n ≤ 99 := by simpa [Tr.ok, inB] using hok
  have hc0 := hR.2 0 (by simp [Tr.flat])
  have hbl := hR.1
  show Calls _ _ #[_, .slice (some ⟨b, o, none⟩) 1 c] w (RU2 w [⟨1, (n + q) % 100⟩] true)
  have hcc' : 1 ≤ c := hcc
  obtain ⟨W, hW⟩ : ∃ W, W = w.alloc (.cells #[.int .i64 q, .slice ha 3 hc] 33) := ⟨_, rfl⟩
  have hB : Below w.heap.size w W := by rw [hW]; exact (Below.refl _ _).alloc (Nat.le_refl _) _
  have hX : Bx W w.heap.size #[.int .i64 q, .slice ha 3 hc] 33 := by rw [hW]; exact Bx.new _ _ _
  have p0 : W.cell? ⟨b, o, none⟩ = some (.int .i64 1) := (hB.cell (p := ⟨b, o, none⟩) hbl).trans (by simpa [Tr.flat] using hc0.1)
  have HC := hide (telling_any b o c [⟨1, n⟩] q W (by simp) (by simp) q0 q1 (by intro x hx hk; rw [List.mem_singleton] at hx; subst hx; exact hn) (CRow.below (.inr ⟨b, o, rfl, hR⟩) hB))
  have cX := hX.c
  have HW := hide hW
  have HB := hide hB
  clear hW hB hX hR hRu hok h6 hc0 hn hg
  unfold RU2
  have HM : Hid ([(⟨1, n⟩ : Cc)].map (mp q) = [⟨1, (n + q) % 100⟩]) := hide (by simp [mp])
  rw [HM.out] at HC
  simp only [List.length_singleton] at HC ⊢
  obtain ⟨Z, hZ⟩ : ∃ Z : Int, Z = (n + q) % 100 := ⟨_, rfl⟩
  rw [← hZ] at HC ⊢
  clear hZ HM
  go_enter Try.func24, Try.ntmps24
  go_upto_region 1 with fail
  rw [← HW.out]
  clear HW
  go_wp2_with fail
  refine Calls.mono HC.out ?_
  rintro e w1 ⟨g, cap, rfl, ho, hb⟩
  have HO := hide (iOwn_lower ho HB.out.size)
  have hB1 : Below w.heap.size w w1 := HB.out.trans (hb.mono HB.out.size)
  clear ho hb HC cX p0
  go_wp2_with fail
  exact bodyPost_ret (v := .tuple #[.slice (some ⟨g, 0, none⟩) 1 cap, .bool true]) (by simp [results, Try.results24, go_sem]) rfl ⟨_, rfl, HO.out, hB1⟩

set_option maxRecDepth 20000 in
set_option maxHeartbeats 8000000 in
theorem handled_ask (q : Int) (R : List Ru) (ha : Option Addr) (hc : Nat) (hg : goodH ⟨q, R⟩ = true) (xn : Int) (ta tb : Tr) (iha : HdGoal q R ha hc ta) (ihb : HdGoal q R ha hc tb) : HdGoal q R ha hc (.ask xn ta tb) := by
  intro b o c w hok hcc h6 hR hRu
  obtain ⟨⟨n0, n2⟩, hoa, hob⟩ := Tr.ask_in hok
  obtain ⟨hh, hre, hgr⟩ := ruAt_good hg n0 n2
  obtain ⟨hk, hk4, hk0⟩ := goodRu_kinds hgr
  obtain ⟨-, -, hR3, -⟩ := goodH_parts hg
  have hR3' : R.length = 3 := hR3
  have hc0 := hR.2 0 (by simp [Tr.flat])
  have hbl := hR.1
  have hRb : CRowAt w b (o + 2) (ta.flat ++ tb.flat) := rowBehind hR
  have hfl : (Tr.ask xn ta tb).flat.length = ta.flat.length + tb.flat.length + 1 := by simp [Tr.flat]
  have hpa := ta.flat_pos
  have hpb := tb.flat_pos
  have HHa : Hid (∀ w', Below w.heap.size w w' → Hg q ha hc w' (.slice (some ⟨b, o + 2, none⟩) ta.flat.length (c - 1)) (ta.hnd ⟨q, R⟩)) := hide (fun w' hb w1 hb1 => by
    have hbb := hb.trans (hb1.mono hb.size)
    exact iha b (o + 2) (c - 1) w1 hoa (by omega) (by omega) ((rowFirst hRb).below hbb) (RRow.below hRu hbb))
  have HHb : Hid (∀ w', Below w.heap.size w w' → Hg q ha hc w' (.slice (some ⟨b, o + 2 + ta.flat.length * 2, none⟩) tb.flat.length (c - 1 - ta.flat.length)) (tb.hnd ⟨q, R⟩)) := hide (fun w' hb w1 hb1 => by
    have hbb := hb.trans (hb1.mono hb.size)
    exact ihb b (o + 2 + ta.flat.length * 2) (c - 1 - ta.flat.length) w1 hob (by omega) (by omega) ((rowSecond hRb).below hbb) (RRow.below hRu hbb))
  have Hoa : Hid (∀ z, ta.hnd ⟨q, R⟩ = some z → z.ok ∧ z.flat.length ≤ 60) := hide (fun z e => hnd_ok hg ta z hoa e)
  have Hob : Hid (∀ z, tb.hnd ⟨q, R⟩ = some z → z.ok ∧ z.flat.length ≤ 60) := hide (fun z e => hnd_ok hg tb z hob e)
  have HCut : Hid (∀ w', Below w.heap.size w w' → Calls Try.prog 41 #[.slice (some ⟨b, o + 2, none⟩) ((Tr.ask xn ta tb).flat.length - 1) (c - 1)] w' fun e w'' => e = .returned (.tuple #[.slice (some ⟨b, o + 2, none⟩) ta.flat.length (c - 1), .slice (some ⟨b, o + 2 + ta.flat.length * 2, none⟩) tb.flat.length (c - 1 - ta.flat.length)]) ∧ Below w'.heap.size w' w'') := hide (fun w' hb => by
    have hT2 : (Tr.ask xn ta tb).flat.length - 1 = (ta.flat ++ tb.flat).length := by simp; omega
    have hT3 : (ta.flat ++ tb.flat).length = ta.flat.length + tb.flat.length := by simp
    have := cutComp_any b (o + 2) (c - 1) (ta.flat ++ tb.flat) ta.flat.length w' (by omega) (by omega) (Tr.sz ta hoa _) (by omega) (hRb.below hb)
    rw [hT2]
    refine this.mono ?_
    rintro e w'' ⟨q2, rfl, hq, hb2⟩
    obtain rfl := hq (by omega)
    rw [show (ta.flat ++ tb.flat).length - ta.flat.length = tb.flat.length by omega]
    exact ⟨rfl, hb2⟩)
  obtain ⟨rb, ro, rfl, hrb, -⟩ := RuRow.tok hRu (Below.refl _ _) hh
  have HRu := hide hRu
  obtain ⟨m, rfl⟩ : ∃ m : Nat, xn = (m : Int) := ⟨xn.toNat, by omega⟩
  have hmR : m < R.length := by omega
  have HRc : Hid (∀ w', Below w.heap.size w w' → w'.cell? ⟨rb, ro + m * 2, none⟩ = some (.int .i64 (ruAt ⟨q, R⟩ (m : Int)).kd) ∧ w'.cell? ⟨rb, ro + m * 2 + 1, none⟩ = some (.int .i64 (ruAt ⟨q, R⟩ (m : Int)).n)) := hide (fun w' hb => by
    obtain ⟨b', o', e, -, p0, p1⟩ := RuRow.tok HRu.out hb hmR
    simp only [Option.some.injEq, Addr.mk.injEq] at e
    obtain ⟨rfl, rfl, -⟩ := e
    have er : ruAt ⟨q, R⟩ (m : Int) = R[m] := hre
    rw [er]
    exact ⟨p0, p1⟩)
  have HXr : Hid ((Tr.ask (m : Int) ta tb).hnd ⟨q, R⟩ = if (ruAt ⟨q, R⟩ (m : Int)).kd = 1 then ta.hnd ⟨q, R⟩ else if (ruAt ⟨q, R⟩ (m : Int)).kd = 2 then tb.hnd ⟨q, R⟩ else if (ruAt ⟨q, R⟩ (m : Int)).kd = 3 then bth (ta.hnd ⟨q, R⟩) (tb.hnd ⟨q, R⟩) else if (ruAt ⟨q, R⟩ (m : Int)).kd = 4 then some (.ret (ruAt ⟨q, R⟩ (m : Int)).n) else pas (m : Int) (ta.hnd ⟨q, R⟩) (tb.hnd ⟨q, R⟩)) := hide rfl
  rw [HXr.out]
  obtain ⟨LA, hLA⟩ : ∃ LA, LA = ta.flat.length := ⟨_, rfl⟩
  obtain ⟨LB, hLB⟩ : ∃ LB, LB = tb.flat.length := ⟨_, rfl⟩
  obtain ⟨TL, hTL⟩ : ∃ TL, TL = (Tr.ask (m : Int) ta tb).flat.length := ⟨_, rfl⟩
  rw [← hLA] at HHa HHb HCut hfl hpa
  rw [← hLB] at HHb HCut hfl hpb
  rw [← hTL] at HCut hfl hcc h6 ⊢
  obtain ⟨rr, hrr⟩ : ∃ rr, rr = ruAt ⟨q, R⟩ (m : Int) := ⟨_, rfl⟩
  rw [← hrr] at HRc hk hk4 hk0 ⊢
  obtain ⟨rk, rn⟩ := rr
  simp only at HRc hk hk4 hk0 ⊢
  obtain ⟨xa, hxa⟩ : ∃ xa, xa = ta.hnd ⟨q, R⟩ := ⟨_, rfl⟩
  obtain ⟨xb, hxb⟩ : ∃ xb, xb = tb.hnd ⟨q, R⟩ := ⟨_, rfl⟩
  rw [← hxa] at HHa Hoa ⊢
  rw [← hxb] at HHb Hob ⊢
  obtain ⟨W, hW⟩ : ∃ W, W = w.alloc (.cells #[.int .i64 q, .slice (some ⟨rb, ro, none⟩) 3 hc] 33) := ⟨_, rfl⟩
  have hB : Below w.heap.size w W := by rw [hW]; exact (Below.refl _ _).alloc (Nat.le_refl _) _
  have hX : Bx W w.heap.size #[.int .i64 q, .slice (some ⟨rb, ro, none⟩) 3 hc] 33 := by rw [hW]; exact Bx.new _ _ _
  have HcC : Hid (∀ w', Below w.heap.size w w' → w'.cell? ⟨b, o, none⟩ = some (.int .i64 2) ∧ w'.cell? ⟨b, o + 1, none⟩ = some (.int .i64 (m : Int))) := hide (fun w' hb => ⟨(hb.cell (p := ⟨b, o, none⟩) hbl).trans (by simpa [Tr.flat] using hc0.1), (hb.cell (p := ⟨b, o + 1, none⟩) hbl).trans (by simpa [Tr.flat] using hc0.2)⟩)
  have HW := hide hW
  have HB := hide hB
  have HX := hide hX
  have HFL := hide hfl
  have hT0 : (0 : Int) < (TL : Int) := by omega
  have hT1 : (1 : Int) ≤ (TL : Int) := by omega
  have hTc : (TL : Int) ≤ (c : Int) := by omega
  have hcn : ¬ c = 1 := by omega
  have hm3 : (m : Int) < 3 := by omega
  have hT0n : 0 < TL := by omega
  have hbW : b < W.heap.size := Nat.lt_of_lt_of_le hbl hB.size
  have hrW : rb < W.heap.size := Nat.lt_of_lt_of_le hrb hB.size
  have hxW : w.heap.size < W.heap.size := hX.lt
  have hm0 : (0 : Int) ≤ (m : Int) := by omega
  clear hLA hLB hTL hrr hxa hxb hW hB hX hfl hok hR hRu hre hgr hR3 hR3' hc0 hRb iha ihb hoa hob hg HXr HRu hh hmR n0 n2
  obtain ⟨p0, p1⟩ := HcC.out W HB.out
  obtain ⟨r0, r1⟩ := HRc.out W HB.out
  have cX := HX.out.c
  unfold RU2
  obtain ⟨RES, hRES⟩ : ∃ RES, RES = (if rk = 1 then xa else if rk = 2 then xb else if rk = 3 then bth xa xb else if rk = 4 then some (.ret rn) else pas (m : Int) xa xb) := ⟨_, rfl⟩
  rw [← hRES]
  have HRE := hide hRES
  obtain ⟨RL, hRL⟩ : ∃ RL, RL = oF RES := ⟨_, rfl⟩
  obtain ⟨RB, hRB⟩ : ∃ RB, RB = RES.isSome := ⟨_, rfl⟩
  rw [← hRL, ← hRB]
  have HRL0 := hide hRL
  have HRB0 := hide hRB
  clear hRES hRL hRB
  go_enter Try.func24, Try.ntmps24
  go_upto_region 1 with fail
  rw [← HW.out]
  clear HW
  go_upto_region 3 with fail
  go_cut [6] from 20 to 27 (fun v wx => ∃ XB, v = .pointer (some ⟨XB, 0, none⟩) ∧ Bx wx XB #[.int .i64 rk, .int .i64 rn] 62 ∧ Below W.heap.size W wx)
  case first =>
    go_region
    all_goals
      go_wp2_with fail
      go_meet
      exact ⟨_, rfl, Bx.new _ _ _, by first | exact (Below.refl _ _).alloc (Nat.le_refl _) _ | exact belowDrew ((Below.refl _ _).alloc (Nat.le_refl _) _)⟩
  case rest =>
    obtain ⟨XB, rfl, hXB, hBc⟩ := hcut
    have HXB := hide hXB
    have hB1 : Below w.heap.size w wc := HB.out.trans (hBc.mono HB.out.size)
    have HXc := hide (HX.out.below hBc hxW)
    have cR := hXB.c
    have rl := hXB.lt
    clear hXB hBc p0 p1 r0 r1 cX HX HRc
    obtain rfl | rfl | rfl | rfl | rfl : rk = 1 ∨ rk = 2 ∨ rk = 3 ∨ rk = 4 ∨ rk = 5 := by omega
    · have HRs : Hid (RES = xa) := hide (by rw [HRE.out, if_pos rfl])
      have HRL : Hid (RL = oF (xa)) := hide (by rw [HRL0.out, HRs.out])
      have HRB : Hid (RB = Option.isSome (xa)) := hide (by rw [HRB0.out, HRs.out])
      have HD := hide (fun w' => doingOf_any 1 rn w')
      rw [show dg 1 = .agg #[.func (.func 45) #[] #[], .func (.func 46) #[] #[], .func (.func 47) #[] #[]] from rfl, show inB 1 1 5 = true from rfl] at HD
      clear HRs HRE hk hk4 hk0 HRL0 HRB0
      go_wp2_with fail
      refine (HD.out _).mono ?_
      rintro e w4 ⟨rfl, hb4⟩
      obtain ⟨W5, hW5⟩ : ∃ W5, W5 = w4.alloc (.cells #[.func (.func 45) #[] #[], .func (.func 46) #[] #[], .func (.func 47) #[] #[]] 74) := ⟨_, rfl⟩
      have hb5 : Below wc.heap.size wc W5 := by rw [hW5]; exact hb4.alloc hb4.size _
      have hB5 : Below w.heap.size w W5 := hB1.trans (hb5.mono hB1.size)
      have hXd : Bx W5 w4.heap.size #[.func (.func 45) #[] #[], .func (.func 46) #[] #[], .func (.func 47) #[] #[]] 74 := by rw [hW5]; exact Bx.new _ _ _
      have HXd := hide hXd
      have HXr5 := hide (HXB.out.below hb5 rl)
      have HXh5 := hide (HXc.out.below hb5 HXc.out.lt)
      have HW5 := hide hW5
      clear hW5 hXd hb4 hb5 cR HD HXB HXc
      go_upto_region 5 with fail
      rw [← HW5.out]
      clear HW5
      go_wp2_with fail
      refine (HCut.out _ hB5).mono ?_
      rintro e w6 ⟨rfl, hb6⟩
      have HAll : Hid (∀ w', Below w6.heap.size w6 w' → w'.cell? ⟨w4.heap.size, 1, none⟩ = some (.func (.func 46) #[] #[]) ∧ w'.cell? ⟨XB, 0, none⟩ = some (.int .i64 1) ∧ w'.cell? ⟨XB, 1, none⟩ = some (.int .i64 rn) ∧ w'.cell? ⟨w.heap.size, 0, none⟩ = some (.int .i64 q) ∧ w'.cell? ⟨w.heap.size, 1, none⟩ = some (.slice (some ⟨rb, ro, none⟩) 3 hc) ∧ w'.cell? ⟨b, o + 1, none⟩ = some (.int .i64 (m : Int))) := hide (fun w' hb => by
        have hbb := hb6.trans (hb.mono hb6.size)
        have hx1 := (HXd.out.below hbb HXd.out.lt).c 1
        have hx2 := (HXr5.out.below hbb HXr5.out.lt).c
        have hx3 := (HXh5.out.below hbb HXh5.out.lt).c
        exact ⟨hx1.trans rfl, (hx2 0).trans rfl, (hx2 1).trans rfl, (hx3 0).trans rfl, (hx3 1).trans rfl, (HcC.out w' (hB5.trans (hbb.mono hB5.size))).2⟩)
      have HB6 := hide (hB5.trans (hb6.mono hB5.size))
      have HWB0 : Hid (Below w6.heap.size w6 w6.drew) := hide (belowDrew (Below.refl _ _))
      clear hb6 hB5 HXd HXr5 HXh5 HCut HcC
      obtain ⟨u0, u1, u2, u3, u4, u5⟩ := HAll.out w6.drew HWB0.out
      have HBx : Hid (Below w.heap.size w w6.drew) := hide (belowDrew HB6.out)
      have HCC := hide (goFirst_any 1 rn (m : Int) q (some ⟨rb, ro, none⟩) hc (some ⟨b, o + 2, none⟩) LA (c - 1) (some ⟨b, o + 2 + LA * 2, none⟩) LB (c - 1 - LA) _ _ (HHa.out _ HBx.out))
      unfold RU2 at HCC
      rw [← HRL.out, ← HRB.out] at HCC
      clear HHa HHb Hoa Hob HRL HRB 
      go_upto_region 6 with fail
      go_region_held3 (fun w' => w'.cell? ⟨w4.heap.size, 1, none⟩ = some (.func (.func 46) #[] #[]) ∧ w'.cell? ⟨XB, 0, none⟩ = some (.int .i64 1) ∧ w'.cell? ⟨XB, 1, none⟩ = some (.int .i64 rn) ∧ w'.cell? ⟨w.heap.size, 0, none⟩ = some (.int .i64 q) ∧ w'.cell? ⟨w.heap.size, 1, none⟩ = some (.slice (some ⟨rb, ro, none⟩) 3 hc) ∧ w'.cell? ⟨b, o + 1, none⟩ = some (.int .i64 (m : Int))) (first | (with_reducible exact HAll.out _ HWB0.out) | (with_reducible exact HAll.out _ HWB1.out))
        (first
          | ((with_reducible refine Calls.mono HCC.out ?_); rintro e W1 ⟨v, rfl, ho, hx⟩; have HWB1 : Hid (Below w6.heap.size w6 W1) := hide (HWB0.out.trans (hx.mono HWB0.out.size)); have HO := hide (iOwn_lower ho HBx.out.size); obtain ⟨va, vc, rfl⟩ := iOwn_form ho; clear ho hx))
      all_goals
        have hBf : Below w.heap.size w W1 := HB6.out.trans (HWB1.out.mono HB6.out.size)
        clear u0 u1 u2 u3 u4 u5
        go_wp2_with fail
        exact bodyPost_ret (v := .tuple #[.slice va RL.length vc, .bool RB]) (by simp [results, Try.results24, go_sem]) rfl ⟨_, rfl, HO.out, hBf⟩
    · have HRs : Hid (RES = xb) := hide (by rw [HRE.out, if_neg (by decide), if_pos rfl])
      have HRL : Hid (RL = oF (xb)) := hide (by rw [HRL0.out, HRs.out])
      have HRB : Hid (RB = Option.isSome (xb)) := hide (by rw [HRB0.out, HRs.out])
      have HD := hide (fun w' => doingOf_any 2 rn w')
      rw [show dg 2 = .agg #[.func (.func 45) #[] #[], .func (.func 48) #[] #[], .func (.func 47) #[] #[]] from rfl, show inB 2 1 5 = true from rfl] at HD
      clear HRs HRE hk hk4 hk0 HRL0 HRB0
      go_wp2_with fail
      refine (HD.out _).mono ?_
      rintro e w4 ⟨rfl, hb4⟩
      obtain ⟨W5, hW5⟩ : ∃ W5, W5 = w4.alloc (.cells #[.func (.func 45) #[] #[], .func (.func 48) #[] #[], .func (.func 47) #[] #[]] 74) := ⟨_, rfl⟩
      have hb5 : Below wc.heap.size wc W5 := by rw [hW5]; exact hb4.alloc hb4.size _
      have hB5 : Below w.heap.size w W5 := hB1.trans (hb5.mono hB1.size)
      have hXd : Bx W5 w4.heap.size #[.func (.func 45) #[] #[], .func (.func 48) #[] #[], .func (.func 47) #[] #[]] 74 := by rw [hW5]; exact Bx.new _ _ _
      have HXd := hide hXd
      have HXr5 := hide (HXB.out.below hb5 rl)
      have HXh5 := hide (HXc.out.below hb5 HXc.out.lt)
      have HW5 := hide hW5
      clear hW5 hXd hb4 hb5 cR HD HXB HXc
      go_upto_region 5 with fail
      rw [← HW5.out]
      clear HW5
      go_wp2_with fail
      refine (HCut.out _ hB5).mono ?_
      rintro e w6 ⟨rfl, hb6⟩
      have HAll : Hid (∀ w', Below w6.heap.size w6 w' → w'.cell? ⟨w4.heap.size, 1, none⟩ = some (.func (.func 48) #[] #[]) ∧ w'.cell? ⟨XB, 0, none⟩ = some (.int .i64 2) ∧ w'.cell? ⟨XB, 1, none⟩ = some (.int .i64 rn) ∧ w'.cell? ⟨w.heap.size, 0, none⟩ = some (.int .i64 q) ∧ w'.cell? ⟨w.heap.size, 1, none⟩ = some (.slice (some ⟨rb, ro, none⟩) 3 hc) ∧ w'.cell? ⟨b, o + 1, none⟩ = some (.int .i64 (m : Int))) := hide (fun w' hb => by
        have hbb := hb6.trans (hb.mono hb6.size)
        have hx1 := (HXd.out.below hbb HXd.out.lt).c 1
        have hx2 := (HXr5.out.below hbb HXr5.out.lt).c
        have hx3 := (HXh5.out.below hbb HXh5.out.lt).c
        exact ⟨hx1.trans rfl, (hx2 0).trans rfl, (hx2 1).trans rfl, (hx3 0).trans rfl, (hx3 1).trans rfl, (HcC.out w' (hB5.trans (hbb.mono hB5.size))).2⟩)
      have HB6 := hide (hB5.trans (hb6.mono hB5.size))
      have HWB0 : Hid (Below w6.heap.size w6 w6.drew) := hide (belowDrew (Below.refl _ _))
      clear hb6 hB5 HXd HXr5 HXh5 HCut HcC
      obtain ⟨u0, u1, u2, u3, u4, u5⟩ := HAll.out w6.drew HWB0.out
      have HBx : Hid (Below w.heap.size w w6.drew) := hide (belowDrew HB6.out)
      have HCC := hide (goSecond_any 2 rn (m : Int) q (some ⟨rb, ro, none⟩) hc (some ⟨b, o + 2, none⟩) LA (c - 1) (some ⟨b, o + 2 + LA * 2, none⟩) LB (c - 1 - LA) _ _ (HHb.out _ HBx.out))
      unfold RU2 at HCC
      rw [← HRL.out, ← HRB.out] at HCC
      clear HHa HHb Hoa Hob HRL HRB 
      go_upto_region 6 with fail
      go_region_held3 (fun w' => w'.cell? ⟨w4.heap.size, 1, none⟩ = some (.func (.func 48) #[] #[]) ∧ w'.cell? ⟨XB, 0, none⟩ = some (.int .i64 2) ∧ w'.cell? ⟨XB, 1, none⟩ = some (.int .i64 rn) ∧ w'.cell? ⟨w.heap.size, 0, none⟩ = some (.int .i64 q) ∧ w'.cell? ⟨w.heap.size, 1, none⟩ = some (.slice (some ⟨rb, ro, none⟩) 3 hc) ∧ w'.cell? ⟨b, o + 1, none⟩ = some (.int .i64 (m : Int))) (first | (with_reducible exact HAll.out _ HWB0.out) | (with_reducible exact HAll.out _ HWB1.out))
        (first
          | ((with_reducible refine Calls.mono HCC.out ?_); rintro e W1 ⟨v, rfl, ho, hx⟩; have HWB1 : Hid (Below w6.heap.size w6 W1) := hide (HWB0.out.trans (hx.mono HWB0.out.size)); have HO := hide (iOwn_lower ho HBx.out.size); obtain ⟨va, vc, rfl⟩ := iOwn_form ho; clear ho hx))
      all_goals
        have hBf : Below w.heap.size w W1 := HB6.out.trans (HWB1.out.mono HB6.out.size)
        clear u0 u1 u2 u3 u4 u5
        go_wp2_with fail
        exact bodyPost_ret (v := .tuple #[.slice va RL.length vc, .bool RB]) (by simp [results, Try.results24, go_sem]) rfl ⟨_, rfl, HO.out, hBf⟩
    · have HRs : Hid (RES = bth xa xb) := hide (by rw [HRE.out, if_neg (by decide), if_neg (by decide), if_pos rfl])
      have HRL : Hid (RL = oF (bth xa xb)) := hide (by rw [HRL0.out, HRs.out])
      have HRB : Hid (RB = Option.isSome (bth xa xb)) := hide (by rw [HRB0.out, HRs.out])
      have HD := hide (fun w' => doingOf_any 3 rn w')
      rw [show dg 3 = .agg #[.func (.func 45) #[] #[], .func (.func 49) #[] #[], .func (.func 50) #[] #[]] from rfl, show inB 3 1 5 = true from rfl] at HD
      clear HRs HRE hk hk4 hk0 HRL0 HRB0
      go_wp2_with fail
      refine (HD.out _).mono ?_
      rintro e w4 ⟨rfl, hb4⟩
      obtain ⟨W5, hW5⟩ : ∃ W5, W5 = w4.alloc (.cells #[.func (.func 45) #[] #[], .func (.func 49) #[] #[], .func (.func 50) #[] #[]] 74) := ⟨_, rfl⟩
      have hb5 : Below wc.heap.size wc W5 := by rw [hW5]; exact hb4.alloc hb4.size _
      have hB5 : Below w.heap.size w W5 := hB1.trans (hb5.mono hB1.size)
      have hXd : Bx W5 w4.heap.size #[.func (.func 45) #[] #[], .func (.func 49) #[] #[], .func (.func 50) #[] #[]] 74 := by rw [hW5]; exact Bx.new _ _ _
      have HXd := hide hXd
      have HXr5 := hide (HXB.out.below hb5 rl)
      have HXh5 := hide (HXc.out.below hb5 HXc.out.lt)
      have HW5 := hide hW5
      clear hW5 hXd hb4 hb5 cR HD HXB HXc
      go_upto_region 5 with fail
      rw [← HW5.out]
      clear HW5
      go_wp2_with fail
      refine (HCut.out _ hB5).mono ?_
      rintro e w6 ⟨rfl, hb6⟩
      have HAll : Hid (∀ w', Below w6.heap.size w6 w' → w'.cell? ⟨w4.heap.size, 1, none⟩ = some (.func (.func 49) #[] #[]) ∧ w'.cell? ⟨XB, 0, none⟩ = some (.int .i64 3) ∧ w'.cell? ⟨XB, 1, none⟩ = some (.int .i64 rn) ∧ w'.cell? ⟨w.heap.size, 0, none⟩ = some (.int .i64 q) ∧ w'.cell? ⟨w.heap.size, 1, none⟩ = some (.slice (some ⟨rb, ro, none⟩) 3 hc) ∧ w'.cell? ⟨b, o + 1, none⟩ = some (.int .i64 (m : Int))) := hide (fun w' hb => by
        have hbb := hb6.trans (hb.mono hb6.size)
        have hx1 := (HXd.out.below hbb HXd.out.lt).c 1
        have hx2 := (HXr5.out.below hbb HXr5.out.lt).c
        have hx3 := (HXh5.out.below hbb HXh5.out.lt).c
        exact ⟨hx1.trans rfl, (hx2 0).trans rfl, (hx2 1).trans rfl, (hx3 0).trans rfl, (hx3 1).trans rfl, (HcC.out w' (hB5.trans (hbb.mono hB5.size))).2⟩)
      have HB6 := hide (hB5.trans (hb6.mono hB5.size))
      have HWB0 : Hid (Below w6.heap.size w6 w6.drew) := hide (belowDrew (Below.refl _ _))
      clear hb6 hB5 HXd HXr5 HXh5 HCut HcC
      obtain ⟨u0, u1, u2, u3, u4, u5⟩ := HAll.out w6.drew HWB0.out
      have HBx : Hid (Below w.heap.size w w6.drew) := hide (belowDrew HB6.out)
      have HCC := hide (goBoth_any 3 rn (m : Int) q (some ⟨rb, ro, none⟩) hc (some ⟨b, o + 2, none⟩) LA (c - 1) (some ⟨b, o + 2 + LA * 2, none⟩) LB (c - 1 - LA) _ _ _ (HHa.out _ HBx.out) (HHb.out _ HBx.out) Hoa.out Hob.out)
      unfold RU2 at HCC
      rw [← HRL.out, ← HRB.out] at HCC
      clear HHa HHb Hoa Hob HRL HRB 
      go_upto_region 6 with fail
      go_region_held3 (fun w' => w'.cell? ⟨w4.heap.size, 1, none⟩ = some (.func (.func 49) #[] #[]) ∧ w'.cell? ⟨XB, 0, none⟩ = some (.int .i64 3) ∧ w'.cell? ⟨XB, 1, none⟩ = some (.int .i64 rn) ∧ w'.cell? ⟨w.heap.size, 0, none⟩ = some (.int .i64 q) ∧ w'.cell? ⟨w.heap.size, 1, none⟩ = some (.slice (some ⟨rb, ro, none⟩) 3 hc) ∧ w'.cell? ⟨b, o + 1, none⟩ = some (.int .i64 (m : Int))) (first | (with_reducible exact HAll.out _ HWB0.out) | (with_reducible exact HAll.out _ HWB1.out))
        (first
          | ((with_reducible refine Calls.mono HCC.out ?_); rintro e W1 ⟨v, rfl, ho, hx⟩; have HWB1 : Hid (Below w6.heap.size w6 W1) := hide (HWB0.out.trans (hx.mono HWB0.out.size)); have HO := hide (iOwn_lower ho HBx.out.size); obtain ⟨va, vc, rfl⟩ := iOwn_form ho; clear ho hx))
      all_goals
        have hBf : Below w.heap.size w W1 := HB6.out.trans (HWB1.out.mono HB6.out.size)
        clear u0 u1 u2 u3 u4 u5
        go_wp2_with fail
        exact bodyPost_ret (v := .tuple #[.slice va RL.length vc, .bool RB]) (by simp [results, Try.results24, go_sem]) rfl ⟨_, rfl, HO.out, hBf⟩
    · have HRs : Hid (RES = some (Tr.ret rn)) := hide (by rw [HRE.out, if_neg (by decide), if_neg (by decide), if_neg (by decide), if_pos rfl])
      have HRL : Hid (RL = oF (some (Tr.ret rn))) := hide (by rw [HRL0.out, HRs.out])
      have HRB : Hid (RB = Option.isSome (some (Tr.ret rn))) := hide (by rw [HRB0.out, HRs.out])
      have HD := hide (fun w' => doingOf_any 4 rn w')
      rw [show dg 4 = .agg #[.func (.func 51) #[] #[], .func (.func 52) #[] #[], .func (.func 53) #[] #[]] from rfl, show inB 4 1 5 = true from rfl] at HD
      clear HRs HRE hk hk4 hk0 HRL0 HRB0
      go_wp2_with fail
      refine (HD.out _).mono ?_
      rintro e w4 ⟨rfl, hb4⟩
      obtain ⟨W5, hW5⟩ : ∃ W5, W5 = w4.alloc (.cells #[.func (.func 51) #[] #[], .func (.func 52) #[] #[], .func (.func 53) #[] #[]] 74) := ⟨_, rfl⟩
      have hb5 : Below wc.heap.size wc W5 := by rw [hW5]; exact hb4.alloc hb4.size _
      have hB5 : Below w.heap.size w W5 := hB1.trans (hb5.mono hB1.size)
      have hXd : Bx W5 w4.heap.size #[.func (.func 51) #[] #[], .func (.func 52) #[] #[], .func (.func 53) #[] #[]] 74 := by rw [hW5]; exact Bx.new _ _ _
      have HXd := hide hXd
      have HXr5 := hide (HXB.out.below hb5 rl)
      have HXh5 := hide (HXc.out.below hb5 HXc.out.lt)
      have HW5 := hide hW5
      clear hW5 hXd hb4 hb5 cR HD HXB HXc
      go_upto_region 5 with fail
      rw [← HW5.out]
      clear HW5
      go_wp2_with fail
      refine (HCut.out _ hB5).mono ?_
      rintro e w6 ⟨rfl, hb6⟩
      have HAll : Hid (∀ w', Below w6.heap.size w6 w' → w'.cell? ⟨w4.heap.size, 1, none⟩ = some (.func (.func 52) #[] #[]) ∧ w'.cell? ⟨XB, 0, none⟩ = some (.int .i64 4) ∧ w'.cell? ⟨XB, 1, none⟩ = some (.int .i64 rn) ∧ w'.cell? ⟨w.heap.size, 0, none⟩ = some (.int .i64 q) ∧ w'.cell? ⟨w.heap.size, 1, none⟩ = some (.slice (some ⟨rb, ro, none⟩) 3 hc) ∧ w'.cell? ⟨b, o + 1, none⟩ = some (.int .i64 (m : Int))) := hide (fun w' hb => by
        have hbb := hb6.trans (hb.mono hb6.size)
        have hx1 := (HXd.out.below hbb HXd.out.lt).c 1
        have hx2 := (HXr5.out.below hbb HXr5.out.lt).c
        have hx3 := (HXh5.out.below hbb HXh5.out.lt).c
        exact ⟨hx1.trans rfl, (hx2 0).trans rfl, (hx2 1).trans rfl, (hx3 0).trans rfl, (hx3 1).trans rfl, (HcC.out w' (hB5.trans (hbb.mono hB5.size))).2⟩)
      have HB6 := hide (hB5.trans (hb6.mono hB5.size))
      have HWB0 : Hid (Below w6.heap.size w6 w6.drew) := hide (belowDrew (Below.refl _ _))
      clear hb6 hB5 HXd HXr5 HXh5 HCut HcC
      obtain ⟨u0, u1, u2, u3, u4, u5⟩ := HAll.out w6.drew HWB0.out
      have HBx : Hid (Below w.heap.size w w6.drew) := hide (belowDrew HB6.out)
      have HCC := hide (stop_any 4 rn (m : Int) q (some ⟨rb, ro, none⟩) hc (some ⟨b, o + 2, none⟩) LA (c - 1) (some ⟨b, o + 2 + LA * 2, none⟩) LB (c - 1 - LA) w6.drew)
      unfold RU2 at HCC
      have HRf : Hid (oF (some (Tr.ret rn)) = [⟨1, rn⟩] ∧ (some (Tr.ret rn)).isSome = true) := hide ⟨rfl, rfl⟩
      rw [HRf.out.1] at HRL
      rw [HRf.out.2] at HRB
      rw [← HRL.out, ← HRB.out] at HCC
      clear HHa HHb Hoa Hob HRL HRB HRf
      go_upto_region 6 with fail
      go_region_held3 (fun w' => w'.cell? ⟨w4.heap.size, 1, none⟩ = some (.func (.func 52) #[] #[]) ∧ w'.cell? ⟨XB, 0, none⟩ = some (.int .i64 4) ∧ w'.cell? ⟨XB, 1, none⟩ = some (.int .i64 rn) ∧ w'.cell? ⟨w.heap.size, 0, none⟩ = some (.int .i64 q) ∧ w'.cell? ⟨w.heap.size, 1, none⟩ = some (.slice (some ⟨rb, ro, none⟩) 3 hc) ∧ w'.cell? ⟨b, o + 1, none⟩ = some (.int .i64 (m : Int))) (first | (with_reducible exact HAll.out _ HWB0.out) | (with_reducible exact HAll.out _ HWB1.out))
        (first
          | ((with_reducible refine Calls.mono HCC.out ?_); rintro e W1 ⟨v, rfl, ho, hx⟩; have HWB1 : Hid (Below w6.heap.size w6 W1) := hide (HWB0.out.trans (hx.mono HWB0.out.size)); have HO := hide (iOwn_lower ho HBx.out.size); obtain ⟨va, vc, rfl⟩ := iOwn_form ho; clear ho hx))
      all_goals
        have hBf : Below w.heap.size w W1 := HB6.out.trans (HWB1.out.mono HB6.out.size)
        clear u0 u1 u2 u3 u4 u5
        go_wp2_with fail
        exact bodyPost_ret (v := .tuple #[.slice va RL.length vc, .bool RB]) (by simp [results, Try.results24, go_sem]) rfl ⟨_, rfl, HO.out, hBf⟩
    · have HRs : Hid (RES = pas (m : Int) xa xb) := hide (by rw [HRE.out, if_neg (by decide), if_neg (by decide), if_neg (by decide), if_neg (by decide)])
      have HRL : Hid (RL = oF (pas (m : Int) xa xb)) := hide (by rw [HRL0.out, HRs.out])
      have HRB : Hid (RB = Option.isSome (pas (m : Int) xa xb)) := hide (by rw [HRB0.out, HRs.out])
      have HD := hide (fun w' => doingOf_any 5 rn w')
      rw [show dg 5 = .agg #[.func (.func 45) #[] #[], .func (.func 54) #[] #[], .func (.func 55) #[] #[]] from rfl, show inB 5 1 5 = true from rfl] at HD
      clear HRs HRE hk hk4 hk0 HRL0 HRB0
      go_wp2_with fail
      refine (HD.out _).mono ?_
      rintro e w4 ⟨rfl, hb4⟩
      obtain ⟨W5, hW5⟩ : ∃ W5, W5 = w4.alloc (.cells #[.func (.func 45) #[] #[], .func (.func 54) #[] #[], .func (.func 55) #[] #[]] 74) := ⟨_, rfl⟩
      have hb5 : Below wc.heap.size wc W5 := by rw [hW5]; exact hb4.alloc hb4.size _
      have hB5 : Below w.heap.size w W5 := hB1.trans (hb5.mono hB1.size)
      have hXd : Bx W5 w4.heap.size #[.func (.func 45) #[] #[], .func (.func 54) #[] #[], .func (.func 55) #[] #[]] 74 := by rw [hW5]; exact Bx.new _ _ _
      have HXd := hide hXd
      have HXr5 := hide (HXB.out.below hb5 rl)
      have HXh5 := hide (HXc.out.below hb5 HXc.out.lt)
      have HW5 := hide hW5
      clear hW5 hXd hb4 hb5 cR HD HXB HXc
      go_upto_region 5 with fail
      rw [← HW5.out]
      clear HW5
      go_wp2_with fail
      refine (HCut.out _ hB5).mono ?_
      rintro e w6 ⟨rfl, hb6⟩
      have HAll : Hid (∀ w', Below w6.heap.size w6 w' → w'.cell? ⟨w4.heap.size, 1, none⟩ = some (.func (.func 54) #[] #[]) ∧ w'.cell? ⟨XB, 0, none⟩ = some (.int .i64 5) ∧ w'.cell? ⟨XB, 1, none⟩ = some (.int .i64 rn) ∧ w'.cell? ⟨w.heap.size, 0, none⟩ = some (.int .i64 q) ∧ w'.cell? ⟨w.heap.size, 1, none⟩ = some (.slice (some ⟨rb, ro, none⟩) 3 hc) ∧ w'.cell? ⟨b, o + 1, none⟩ = some (.int .i64 (m : Int))) := hide (fun w' hb => by
        have hbb := hb6.trans (hb.mono hb6.size)
        have hx1 := (HXd.out.below hbb HXd.out.lt).c 1
        have hx2 := (HXr5.out.below hbb HXr5.out.lt).c
        have hx3 := (HXh5.out.below hbb HXh5.out.lt).c
        exact ⟨hx1.trans rfl, (hx2 0).trans rfl, (hx2 1).trans rfl, (hx3 0).trans rfl, (hx3 1).trans rfl, (HcC.out w' (hB5.trans (hbb.mono hB5.size))).2⟩)
      have HB6 := hide (hB5.trans (hb6.mono hB5.size))
      have HWB0 : Hid (Below w6.heap.size w6 w6.drew) := hide (belowDrew (Below.refl _ _))
      clear hb6 hB5 HXd HXr5 HXh5 HCut HcC
      obtain ⟨u0, u1, u2, u3, u4, u5⟩ := HAll.out w6.drew HWB0.out
      have HBx : Hid (Below w.heap.size w w6.drew) := hide (belowDrew HB6.out)
      have HCC := hide (pass_any 5 rn (m : Int) q (some ⟨rb, ro, none⟩) hc (some ⟨b, o + 2, none⟩) LA (c - 1) (some ⟨b, o + 2 + LA * 2, none⟩) LB (c - 1 - LA) _ _ _ (HHa.out _ HBx.out) (HHb.out _ HBx.out) Hoa.out Hob.out)
      unfold RU2 at HCC
      rw [← HRL.out, ← HRB.out] at HCC
      clear HHa HHb Hoa Hob HRL HRB 
      go_upto_region 6 with fail
      go_region_held3 (fun w' => w'.cell? ⟨w4.heap.size, 1, none⟩ = some (.func (.func 54) #[] #[]) ∧ w'.cell? ⟨XB, 0, none⟩ = some (.int .i64 5) ∧ w'.cell? ⟨XB, 1, none⟩ = some (.int .i64 rn) ∧ w'.cell? ⟨w.heap.size, 0, none⟩ = some (.int .i64 q) ∧ w'.cell? ⟨w.heap.size, 1, none⟩ = some (.slice (some ⟨rb, ro, none⟩) 3 hc) ∧ w'.cell? ⟨b, o + 1, none⟩ = some (.int .i64 (m : Int))) (first | (with_reducible exact HAll.out _ HWB0.out) | (with_reducible exact HAll.out _ HWB1.out))
        (first
          | ((with_reducible refine Calls.mono HCC.out ?_); rintro e W1 ⟨v, rfl, ho, hx⟩; have HWB1 : Hid (Below w6.heap.size w6 W1) := hide (HWB0.out.trans (hx.mono HWB0.out.size)); have HO := hide (iOwn_lower ho HBx.out.size); obtain ⟨va, vc, rfl⟩ := iOwn_form ho; clear ho hx))
      all_goals
        have hBf : Below w.heap.size w W1 := HB6.out.trans (HWB1.out.mono HB6.out.size)
        clear u0 u1 u2 u3 u4 u5
        go_wp2_with fail
        exact bodyPost_ret (v := .tuple #[.slice va RL.length vc, .bool RB]) (by simp [results, Try.results24, go_sem]) rfl ⟨_, rfl, HO.out, hBf⟩

theorem handled_any (q : Int) (R : List Ru) (ha : Option Addr) (hc : Nat) (hg : goodH ⟨q, R⟩ = true) : ∀ t, HdGoal q R ha hc t := by
  intro t
  induction t with
  | ret n => exact handled_ret q R ha hc hg n
  | ask n a b iha ihb => exact handled_ask q R ha hc hg n a b iha ihb
/-- The tree of a good row. -/
noncomputable def trO (l : List Cc) (h : goodT l = true) : Tr := (good_tr h).choose
theorem trO_is (l : List Cc) (h : goodT l = true) : (trO l h).ok ∧ l = (trO l h).flat ∧ l.length ≤ 60 ∧ treeT l = some (.cons (trO l h).x (trO l h).k .nil) := (good_tr h).choose_spec
/-- What HandleComp tells. -/
noncomputable def hdR (h : Hd) (l : List Cc) : Option Tr := if hg : goodT l = true then (if goodH h = true then (trO l hg).hnd h else none) else none
theorem hdR_len (h : Hd) (l : List Cc) : (oF (hdR h l)).length ≤ 1048576 := by
  unfold hdR
  split
  · rename_i hg
    split
    · rename_i hh
      have := oF_len hh (trO_is l hg).1
      omega
    · simp [oF]
  · simp [oF]

set_option maxRecDepth 20000 in
set_option maxHeartbeats 4000000 in
theorem implHandle_any (v : Value) (h : Hd) (ad : Option Addr) (c : Nat) (l : List Cc) (w : World) (hl : l.length ≤ 1048576) (hcc : l.length ≤ c) (hv : HRow w v h) (hR : CRow w ad l) :
    Calls Try.prog 9 #[v, .slice ad l.length c] w (RU2 w (oF (hdR h l)) (hdR h l).isSome) := by
  unfold RU2
  obtain ⟨q, R⟩ := h
  obtain ⟨ha, hc, rfl, hRu, hRl⟩ := id hv
  simp only at hRu hRl ⊢
  obtain ⟨W, hW⟩ : ∃ W, W = w.alloc (.cells #[.int .i64 q, .slice ha R.length hc] 33) := ⟨_, rfl⟩
  have hB : Below w.heap.size w W := by rw [hW]; exact (Below.refl _ _).alloc (Nat.le_refl _) _
  have hX : Bx W w.heap.size #[.int .i64 q, .slice ha R.length hc] 33 := by rw [hW]; exact Bx.new _ _ _
  have HG := hide (implGoodH_any _ _ W (hv.below hB))
  have HC := hide (fun (w' : World) (hb : Below w.heap.size w w') => implGoodT_any ad c l w' hl (hR.below hb))
  have cX := hX.c
  have HX := hide hX
  have HB := hide hB
  have HW := hide hW
  clear hX hB hW hv
  obtain ⟨RES, hRES⟩ : ∃ RES, RES = hdR ⟨q, R⟩ l := ⟨_, rfl⟩
  rw [← hRES]
  have HRE := hide hRES
  clear hRES
  by_cases hg : goodH ⟨q, R⟩ = true
  · rw [hg] at HG
    by_cases ht : goodT l = true
    · rw [ht] at HC
      obtain ⟨hto, htl, ht6, -⟩ := trO_is l ht
      have HRs : Hid (RES = (trO l ht).hnd ⟨q, R⟩) := hide (by rw [HRE.out]; unfold hdR; rw [dif_pos ht, if_pos hg])
      obtain ⟨t, htt⟩ : ∃ t, t = trO l ht := ⟨_, rfl⟩
      rw [← htt] at hto htl HRs
      obtain ⟨-, -, h3, -⟩ := goodH_parts hg
      have h3' : R.length = 3 := h3
      obtain ⟨b, o, rfl, hRA⟩ : ∃ b o, ad = some ⟨b, o, none⟩ ∧ CRowAt w b o l := by
        rcases hR with hR | hR
        · have := t.flat_pos
          rw [← htl, hR] at this
          simp at this
        · exact hR
      have HH := hide (fun (w' : World) (hb : Below w.heap.size w w') => handled_any q R ha hc hg t b o c w' hto (by rw [← htl]; exact hcc) (by rw [← htl]; exact ht6) (by rw [← htl]; exact hRA.below hb) (RRow.below hRu hb))
      rw [← htl, ← HRs.out] at HH
      unfold RU2 at HH
      obtain ⟨RL, hRL⟩ : ∃ RL, RL = oF RES := ⟨_, rfl⟩
      obtain ⟨RB, hRB⟩ : ∃ RB, RB = RES.isSome := ⟨_, rfl⟩
      rw [← hRL, ← hRB] at HH ⊢
      rw [h3'] at HG HX HW cX ⊢
      clear hRL hRB htt hto htl ht6 h3 h3' hRA hR hRu HRs HRE hg ht hRl
      go_enter Try.func9, Try.ntmps9
      go_upto_region 1 with fail
      rw [← HW.out]
      clear HW
      go_wp2_with fail
      refine Calls.mono HG.out ?_
      rintro e w1 ⟨rfl, hb1⟩
      have hB1 : Below w.heap.size w w1 := HB.out.trans (hb1.mono HB.out.size)
      have HX1 := hide (HX.out.below hb1 HX.out.lt)
      clear hb1 HG cX HX
      go_wp2_with fail
      refine Calls.mono (HC.out _ hB1) ?_
      rintro e w2 ⟨rfl, hb2⟩
      have hB2 : Below w.heap.size w w2 := hB1.trans (hb2.mono hB1.size)
      have cX2 := (HX1.out.below hb2 HX1.out.lt).c
      clear hb2 HC HX1
      go_wp2_with fail
      refine Calls.mono (HH.out _ hB2) ?_
      rintro e w3 ⟨v, rfl, ho, hb3⟩
      obtain ⟨va, vc, rfl⟩ := iOwn_form ho
      have HO := hide (iOwn_lower ho hB2.size)
      have hB3 : Below w.heap.size w w3 := hB2.trans (hb3.mono hB2.size)
      clear ho hb3 HH cX2
      go_wp2_with fail
      exact bodyPost_ret (v := .tuple #[.slice va RL.length vc, .bool RB]) (by simp [results, Try.results9, go_sem]) rfl ⟨_, rfl, HO.out, hB3⟩
    · rw [Bool.not_eq_true] at ht
      rw [ht] at HC
      have HRs : Hid (RES = none) := hide (by rw [HRE.out]; unfold hdR; rw [dif_neg (by rw [ht]; simp)])
      rw [HRs.out]
      show Calls _ _ _ _ (fun e w' => ∃ v, e = .returned (.tuple #[v, .bool false]) ∧ w'.ownsRow w.heap.size 52 2 v 0 [] ∧ Below w.heap.size w w')
      clear hR hRu HRs HRE hg ht hRl
      go_enter Try.func9, Try.ntmps9
      go_upto_region 1 with fail
      rw [← HW.out]
      clear HW
      go_wp2_with fail
      refine Calls.mono HG.out ?_
      rintro e w1 ⟨rfl, hb1⟩
      have hB1 : Below w.heap.size w w1 := HB.out.trans (hb1.mono HB.out.size)
      clear hb1 HG cX HX
      go_wp2_with fail
      refine Calls.mono (HC.out _ hB1) ?_
      rintro e w2 ⟨rfl, hb2⟩
      have hB2 : Below w.heap.size w w2 := hB1.trans (hb2.mono hB1.size)
      clear hb2 HC
      go_wp2_with fail
      exact bodyPost_ret (v := .tuple #[.slice none 0 0, .bool false]) (by simp [results, Try.results9, go_sem]) rfl ⟨_, rfl, World.ownsRow_nil _ _ _ _, hB2⟩
  · rw [Bool.not_eq_true] at hg
    rw [hg] at HG
    have HRs : Hid (RES = none) := hide (by rw [HRE.out]; unfold hdR; split <;> first | rfl | rw [if_neg (by rw [hg]; simp)])
    rw [HRs.out]
    show Calls _ _ _ _ (fun e w' => ∃ v, e = .returned (.tuple #[v, .bool false]) ∧ w'.ownsRow w.heap.size 52 2 v 0 [] ∧ Below w.heap.size w w')
    clear hR hRu HRs HRE hg hRl
    go_enter Try.func9, Try.ntmps9
    go_upto_region 1 with fail
    rw [← HW.out]
    clear HW
    go_wp2_with fail
    refine Calls.mono HG.out ?_
    rintro e w1 ⟨rfl, hb1⟩
    have hB1 : Below w.heap.size w w1 := HB.out.trans (hb1.mono HB.out.size)
    clear hb1 HG cX HX
    go_wp2_with fail
    exact bodyPost_ret (v := .tuple #[.slice none 0 0, .bool false]) (by simp [results, Try.results9, go_sem]) rfl ⟨_, rfl, World.ownsRow_nil _ _ _ _, hB1⟩
end Go.Proofs.Ytaddopoafaojdaa.C

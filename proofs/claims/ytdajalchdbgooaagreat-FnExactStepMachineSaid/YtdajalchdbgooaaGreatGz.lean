/-
  Some texts of this proof in one: MaY2, MaY3.
-/
import Derived.Test.YtdajalchdbgooaaGreatMaY0
import Derived.Test.YtdajalchdbgooaaGreatMaY1
import Derived.Deep.RegionHeld3
import Derived.Deep.RegionLaw
import Derived.Deep.AppendLies
import Derived.Deep.CutRange
/-
  l6Do and l6Go at any good machine of a closed term: the cases joined.
-/
namespace Go.Proofs.YtdajalchdbgooaaGreat.W
open Go.ChangeShapes Go.WideShapes Go.ChangeAt Go.RowKit
set_option linter.unusedVariables false
set_option linter.unusedSimpArgs false

theorem l6Go_any (lo cb0 : Nat) (ad : Option Addr) (c : Nat) (l : List Cc) (a : F) (v : Value) (m : Mc) (f : Fm) (w : World) (hCl : Cl l a) (h : SM w lo v m) (hS : SR w lo cb0 ad c l a) (hG : GM a l m) (hd : m.done = true) (hf : m.fs.getLast? = some f) :
    Calls Tryz.prog 48 #[.pointer (some ⟨cb0, 0, none⟩), v] w (GoP lo w (goM a l m f)) := by
  obtain ⟨p1, p2, p3, p4⟩ := fOk_parts (hG.fs f (List.mem_of_getLast? hf))
  rcases p4 with h1 | ⟨h45, h0, h2⟩
  · rcases p3 with h3 | h3 | h3 | h3
    · exact l6Go_first4 lo cb0 ad c l a v m f w hCl h hS hG hd hf h3 h1
    · exact l6Go_first5 lo cb0 ad c l a v m f w hCl h hS hG hd hf h3 h1
    · exact l6Go_if lo cb0 ad c l a v m f w hCl h hS hG hd hf h3 h1
    · exact l6Go_let lo cb0 ad c l a v m f w hCl h hS hG hd hf h3 h1
  · obtain ⟨j, hj⟩ := Int.eq_ofNat_of_zero_le h0
    rcases h45 with h3 | h3
    · exact l6Go_app lo cb0 ad c l a v m f w hCl h hS hG hd hf h3 j hj (by omega)
    · exact l6Go_add lo cb0 ad c l a v m f w hCl h hS hG hd hf h3 j hj (by omega)

/-- What l6Do answers. -/
def DoP (lo : Nat) (w : World) (m : Mc) (R : Mc ⊕ Int) (r : Ending) (w' : World) : Prop := ∃ v', r = .returned (.tuple #[v', .bool (isL R)]) ∧ SM w' lo v' (mcOf' m R) ∧ Below lo w w' ∧ ∀ (b : Nat) (cs : Array Value) (T : TypeId), T ≠ 93 → T ≠ 88 → T ≠ 85 → Bx w b cs T → Bx w' b cs T

theorem l6Do_any (lo cb0 : Nat) (ad : Option Addr) (c : Nat) (l : List Cc) (a : F) (v : Value) (m : Mc) (w : World) (hCl : Cl l a) (h : SM w lo v m) (hS : SR w lo cb0 ad c l a) (hG : GM a l m) (hd : m.done = false) :
    Calls Tryz.prog 47 #[.pointer (some ⟨cb0, 0, none⟩), v] w (DoP lo w m (doM a l m)) := by
  obtain ⟨d1, d2⟩ := nOk_not hG.now hd
  obtain ⟨q1, q2, q3⟩ := pOk_iff.1 d2
  obtain ⟨x, e, k, x1, x2, x3, x4, x5, x6, x7⟩ := hCl.part q1
  unfold doM
  rw [x2]
  simp only
  by_cases k1 : x.k = 1
  · have hh := l6Do_var lo cb0 ad c l a v m w hCl h hS hG hd x x2 (hide k1)
    simp only [k1]
    exact hh
  by_cases k2 : x.k = 2
  · have hh := l6Do_num lo cb0 ad c l a v m w hCl h hS hG hd x x2 (hide k2)
    simp only [k2]
    exact hh
  by_cases k3 : x.k = 3
  · have hh := l6Do_lam lo cb0 ad c l a v m w hCl h hS hG hd x x2 (hide k3)
    simp only [k3]
    exact hh
  rw [if_neg k1, if_neg k2, if_neg k3]
  by_cases hn : 500 ≤ m.fs.length
  · rw [if_pos hn]
    exact l6Do_full lo cb0 ad c l a v m w hCl h hS hG hd x x2 (hide ⟨k1, k2, k3⟩) (hide hn)
  · rw [if_neg hn]
    exact l6Do_push lo cb0 ad c l a v m w hCl h hS hG hd x x2 (hide ⟨k1, k2, k3⟩) (hide hn)
end Go.Proofs.YtdajalchdbgooaaGreat.W

/-
  The contract of l6Step. Conditions: good machines of closed terms.
-/
namespace Go.Proofs.YtdajalchdbgooaaGreat.W
open Go.ChangeShapes Go.WideShapes Go.ChangeAt Go.RowKit
set_option linter.unusedVariables false
set_option linter.unusedSimpArgs false

theorem do_can {a : F} {l : List Cc} {m : Mc} (hCl : Cl l a) (hG : GM a l m) (hd : m.done = false) : canOf (doM a l m) = true ∧ roomOf (doM a l m) = isL (doM a l m) := by
  obtain ⟨d1, d2⟩ := nOk_not hG.now hd
  obtain ⟨q1, q2, q3⟩ := pOk_iff.1 d2
  obtain ⟨x, e, k, x1, x2, x3, x4, x5, x6, x7⟩ := hCl.part q1
  unfold doM
  rw [x2]
  simp only
  split
  · simp [canOf, roomOf, isL]
  split
  · exact newM_can _ _
  split
  · exact newM_can _ _
  split <;> simp [canOf, roomOf, isL]

set_option maxRecDepth 20000 in
set_option maxHeartbeats 4000000 in
theorem l6Step_do (lo cb0 : Nat) (ad : Option Addr) (c : Nat) (l : List Cc) (a : F) (v : Value) (m : Mc) (w : World) (hCl : Cl l a) (h : SM w lo v m) (hS : SR w lo cb0 ad c l a) (hG : GM a l m) (hd : m.done = false)  :
    Calls Tryz.prog 20 #[.pointer (some ⟨cb0, 0, none⟩), v] w (GoP lo w (stepM a l m)) := by
  have hlo := hS.le
  have hD := do_can hCl hG hd
  obtain ⟨BN, hBN⟩ : ∃ BN, BN = doM a l m := ⟨_, rfl⟩
  have hst : stepM a l m = BN := by rw [hBN]; unfold stepM; rw [hd]; simp
  rw [hst]
  rw [← hBN] at hD
  obtain ⟨M9, hM9⟩ : ∃ M9, M9 = mcOf' m BN := ⟨_, rfl⟩
  have HMI : Hid (∀ m1, BN = .inl m1 → M9 = m1) := hide (fun m1 h1 => by rw [hM9, h1]; rfl)
  have HBN := hide hBN
  have HM9 := hide hM9
  have HD := hide hD
  clear hst hBN hM9 hD
  obtain ⟨af, cf, av, cv, ab, cb, rfl, h1, h2, h3⟩ := h
  obtain ⟨dn, pl, ev, vl, fs, vs, bs⟩ := m
  simp only at hd h1 h2 h3
  subst hd
  have HX0 := hide ((Bx.new w #[.bool false, .int .i64 pl, .int .i64 ev, .int .i64 vl, .slice af fs.length cf, .slice av vs.length cv, .slice ab bs.length cb] 34).alloc (.cells #[.bool false, .int .i64 0, .int .i64 0, .int .i64 0, .slice none 0 0, .slice none 0 0, .slice none 0 0] 34))
  have hY := Bx.new (w.alloc (.cells #[.bool false, .int .i64 pl, .int .i64 ev, .int .i64 vl, .slice af fs.length cf, .slice av vs.length cv, .slice ab bs.length cb] 34)) #[.bool false, .int .i64 0, .int .i64 0, .int .i64 0, .slice none 0 0, .slice none 0 0, .slice none 0 0] 34
  simp only [World.size_alloc] at hY
  have HY0 := hide hY
  have hB0 : Below w.heap.size w ((w.alloc (.cells #[.bool false, .int .i64 pl, .int .i64 ev, .int .i64 vl, .slice af fs.length cf, .slice av vs.length cv, .slice ab bs.length cb] 34)).alloc (.cells #[.bool false, .int .i64 0, .int .i64 0, .int .i64 0, .slice none 0 0, .slice none 0 0, .slice none 0 0] 34)) := ((Below.refl _ _).alloc (Nat.le_refl _) _).alloc (by simp) _
  have HS0 := hide (hS.below (hB0.mono hlo))
  have HK0 : Hid (∀ (b : Nat) (cs : Array Value) (T : TypeId), Bx w b cs T → Bx ((w.alloc (.cells #[.bool false, .int .i64 pl, .int .i64 ev, .int .i64 vl, .slice af fs.length cf, .slice av vs.length cv, .slice ab bs.length cb] 34)).alloc (.cells #[.bool false, .int .i64 0, .int .i64 0, .int .i64 0, .slice none 0 0, .slice none 0 0, .slice none 0 0] 34)) b cs T) := hide (fun bb cs TT hbx => hbx.below hB0 hbx.lt)
  have HSM0 : Hid (SM ((w.alloc (.cells #[.bool false, .int .i64 pl, .int .i64 ev, .int .i64 vl, .slice af fs.length cf, .slice av vs.length cv, .slice ab bs.length cb] 34)).alloc (.cells #[.bool false, .int .i64 0, .int .i64 0, .int .i64 0, .slice none 0 0, .slice none 0 0, .slice none 0 0] 34)) lo (.agg #[.bool false, .int .i64 pl, .int .i64 ev, .int .i64 vl, .slice af fs.length cf, .slice av vs.length cv, .slice ab bs.length cb]) (⟨false, pl, ev, vl, fs, vs, bs⟩ : Mc)) := hide (SM.below ⟨af, cf, av, cv, ab, cb, rfl, h1, h2, h3⟩ hB0)
  have HKp : Hid (Kp ((w.alloc (.cells #[.bool false, .int .i64 pl, .int .i64 ev, .int .i64 vl, .slice af fs.length cf, .slice av vs.length cv, .slice ab bs.length cb] 34)).alloc (.cells #[.bool false, .int .i64 0, .int .i64 0, .int .i64 0, .slice none 0 0, .slice none 0 0, .slice none 0 0] 34)) (w.heap.size + 1) lo (.slice af fs.length cf) (.slice av vs.length cv) (.slice ab bs.length cb) fs vs bs) := hide ⟨⟨_, hY⟩, own_keep h1 (fun k _ hk => hB0.block k hk), own_keep h2 (fun k _ hk => hB0.block k hk), own_keep h3 (fun k _ hk => hB0.block k hk)⟩
  have HCl := hide hCl
  have HG := hide hG
  have hB1 : Below lo w ((w.alloc (.cells #[.bool false, .int .i64 pl, .int .i64 ev, .int .i64 vl, .slice af fs.length cf, .slice av vs.length cv, .slice ab bs.length cb] 34)).alloc (.cells #[.bool false, .int .i64 0, .int .i64 0, .int .i64 0, .slice none 0 0, .slice none 0 0, .slice none 0 0] 34)) := hB0.mono hlo
  clear hY hCl hG hS h1 h2 h3
  go_enter Tryz.func20, Tryz.ntmps20
  go_upto_region 1 with fail
  obtain ⟨w0, hw0⟩ : ∃ w0, w0 = (w.alloc (.cells #[.bool false, .int .i64 pl, .int .i64 ev, .int .i64 vl, .slice af fs.length cf, .slice av vs.length cv, .slice ab bs.length cb] 34)).alloc (.cells #[.bool false, .int .i64 0, .int .i64 0, .int .i64 0, .slice none 0 0, .slice none 0 0, .slice none 0 0] 34) := ⟨_, rfl⟩
  rw [← hw0] at HX0 HY0 hB0 HS0 HK0 HSM0 HKp hB1 ⊢
  clear hw0
  have hz0 : lo ≤ w0.heap.size := Nat.le_trans hlo hB1.size
  have hyl := HY0.out.lt
  have cx := HX0.out.c
  have HDo : Hid (Calls Tryz.prog 47 #[.pointer (some ⟨cb0, 0, none⟩), .agg #[.bool false, .int .i64 pl, .int .i64 ev, .int .i64 vl, .slice af fs.length cf, .slice av vs.length cv, .slice ab bs.length cb]] w0 fun r w9 => ∃ v9, r = .returned (.tuple #[v9, .bool (isL BN)]) ∧ SM w9 lo v9 M9 ∧ Below lo w0 w9 ∧ ∀ (b : Nat) (cs : Array Value) (T : TypeId), T ≠ 93 → T ≠ 88 → T ≠ 85 → Bx w0 b cs T → Bx w9 b cs T) := hide (by
    have := l6Do_any lo cb0 ad c l a _ _ w0 HCl.out HSM0.out HS0.out HG.out rfl
    rw [← HBN.out] at this
    rw [HM9.out]
    exact this)
  obtain ⟨LB, hLB⟩ : ∃ LB, LB = isL BN := ⟨_, rfl⟩
  rw [← hLB] at HDo HD
  clear hLB HBN HM9
  obtain ⟨d9, p9, e9, x9, fs9, vs9, bs9⟩ := M9
  go_upto_region 2 with fail
  go_wp2_with fail
  refine HDo.out.mono ?_
  rintro r w9 ⟨v9, rfl, hsm9, hb9, hk9⟩
  obtain ⟨af9, cf9, av9, cv9, ab9, cb9, rfl, o1, o2, o3⟩ := hsm9
  have HY9 := hide (hk9 _ _ _ (by decide) (by decide) (by decide) HY0.out)
  have HO1 := hide o1
  have HO2 := hide o2
  have HO3 := hide o3
  have HB9 : Hid (Below lo w0 w9) := hide hb9
  have HK9 := hide hk9
  clear o1 o2 o3 hb9 hk9 cx
  go_upto_region 3 with fail
  have ba := ((Below.refl w9.heap.size w9).alloc (Nat.le_refl _) (.cells #[.bool d9, .int .i64 p9, .int .i64 e9, .int .i64 x9, .slice af9 fs9.length cf9, .slice av9 vs9.length cv9, .slice ab9 bs9.length cb9] 34))
  have HX10 := hide (Bx.new w9 #[.bool d9, .int .i64 p9, .int .i64 e9, .int .i64 x9, .slice af9 fs9.length cf9, .slice av9 vs9.length cv9, .slice ab9 bs9.length cb9] 34)
  have HY10 := hide (HY9.out.alloc (.cells #[.bool d9, .int .i64 p9, .int .i64 e9, .int .i64 x9, .slice af9 fs9.length cf9, .slice av9 vs9.length cv9, .slice ab9 bs9.length cb9] 34))
  have HQ10 : Hid (Kp (w9.alloc (.cells #[.bool d9, .int .i64 p9, .int .i64 e9, .int .i64 x9, .slice af9 fs9.length cf9, .slice av9 vs9.length cv9, .slice ab9 bs9.length cb9] 34)) (w.heap.size + 1) lo (.slice af9 fs9.length cf9) (.slice av9 vs9.length cv9) (.slice ab9 bs9.length cb9) fs9 vs9 bs9) := hide ⟨⟨_, HY10.out⟩, own_keep HO1.out (fun k _ hk => ba.block k hk), own_keep HO2.out (fun k _ hk => ba.block k hk), own_keep HO3.out (fun k _ hk => ba.block k hk)⟩
  have hB10 : Below lo w (w9.alloc (.cells #[.bool d9, .int .i64 p9, .int .i64 e9, .int .i64 x9, .slice af9 fs9.length cf9, .slice av9 vs9.length cv9, .slice ab9 bs9.length cb9] 34)) := (hB1.trans HB9.out).alloc (Nat.le_trans hz0 HB9.out.size) _
  have HK10 : Hid (∀ (b : Nat) (cs : Array Value) (T : TypeId), T ≠ 93 → T ≠ 88 → T ≠ 85 → Bx w b cs T → Bx (w9.alloc (.cells #[.bool d9, .int .i64 p9, .int .i64 e9, .int .i64 x9, .slice af9 fs9.length cf9, .slice av9 vs9.length cv9, .slice ab9 bs9.length cb9] 34)) b cs T) := hide (fun bb cs TT t1 t2 t3 hbx => (HK9.out bb cs TT t1 t2 t3 (HK0.out bb cs TT hbx)).alloc _)
  obtain ⟨w10, hw10⟩ : ∃ w10, w10 = w9.alloc (.cells #[.bool d9, .int .i64 p9, .int .i64 e9, .int .i64 x9, .slice af9 fs9.length cf9, .slice av9 vs9.length cv9, .slice ab9 bs9.length cb9] 34) := ⟨_, rfl⟩
  rw [← hw10] at HX10 HY10 HQ10 hB10 HK10 ⊢
  clear hw10 ba
  have cx10 := HX10.out.c
  have cy10 := HY10.out.c
  have fy10 := HY10.out.f
  go_wp2_with fail
  refine bodyPost_ret (v := .tuple #[.agg #[.bool d9, .int .i64 p9, .int .i64 e9, .int .i64 x9, .slice af9 fs9.length cf9, .slice av9 vs9.length cv9, .slice ab9 bs9.length cb9], .bool true, .bool LB]) (by simp [results, Tryz.results20, go_sem, cy10]) rfl (GoP.mk _ ⟨d9, p9, e9, x9, fs9, vs9, bs9⟩ (by rw [HD.out.1, HD.out.2]) ?_ HMI.out ?_ (fun bb cs TT t1 t2 t3 hbx => ((((((((HK10.out bb cs TT t1 t2 t3 hbx).setne (w.heap.size + 1) 0 _ (by have := hbx.lt; omega)).setne (w.heap.size + 1) 1 _ (by have := hbx.lt; omega)).setne (w.heap.size + 1) 2 _ (by have := hbx.lt; omega)).setne (w.heap.size + 1) 3 _ (by have := hbx.lt; omega)).setne (w.heap.size + 1) 4 _ (by have := hbx.lt; omega)).setne (w.heap.size + 1) 5 _ (by have := hbx.lt; omega)).setne (w.heap.size + 1) 6 _ (by have := hbx.lt; omega))))
  · exact ((((((((HQ10.out.set 0 (.bool d9)).set 1 (.int .i64 p9)).set 2 (.int .i64 e9)).set 3 (.int .i64 x9)).set 4 (.slice af9 fs9.length cf9)).set 5 (.slice av9 vs9.length cv9)).set 6 (.slice ab9 bs9.length cb9))).sm d9 p9 e9 x9
  · exact bsc (bsc (bsc (bsc (bsc (bsc (bsc hB10 _ _ _ (by omega)) _ _ _ (by omega)) _ _ _ (by omega)) _ _ _ (by omega)) _ _ _ (by omega)) _ _ _ (by omega)) _ _ _ (by omega)

set_option maxRecDepth 20000 in
set_option maxHeartbeats 4000000 in
theorem l6Step_no (lo cb0 : Nat) (ad : Option Addr) (c : Nat) (l : List Cc) (a : F) (v : Value) (m : Mc) (w : World) (hCl : Cl l a) (h : SM w lo v m) (hS : SR w lo cb0 ad c l a) (hG : GM a l m) (hd : m.done = true) (hf : m.fs.getLast? = none) :
    Calls Tryz.prog 20 #[.pointer (some ⟨cb0, 0, none⟩), v] w (GoP lo w (stepM a l m)) := by
  have hlo := hS.le
  obtain ⟨BN, hBN⟩ : ∃ BN, BN = stepM a l m := ⟨_, rfl⟩
  rw [← hBN]
  have HD : Hid (canOf BN = false ∧ roomOf BN = true ∧ ∀ m1, BN ≠ .inl m1) := hide (by
    rw [hBN]; unfold stepM; rw [if_pos hd]; simp only [hf]
    by_cases hq : (vlAt m m.val).fn = true <;> simp [hq, canOf, roomOf])
  have HN := hide hf
  clear hBN hf
  obtain ⟨af, cf, av, cv, ab, cb, rfl, h1, h2, h3⟩ := h
  obtain ⟨dn, pl, ev, vl, fs, vs, bs⟩ := m
  simp only at hd h1 h2 h3
  subst hd
  have HX0 := hide ((Bx.new w #[.bool true, .int .i64 pl, .int .i64 ev, .int .i64 vl, .slice af fs.length cf, .slice av vs.length cv, .slice ab bs.length cb] 34).alloc (.cells #[.bool false, .int .i64 0, .int .i64 0, .int .i64 0, .slice none 0 0, .slice none 0 0, .slice none 0 0] 34))
  have hY := Bx.new (w.alloc (.cells #[.bool true, .int .i64 pl, .int .i64 ev, .int .i64 vl, .slice af fs.length cf, .slice av vs.length cv, .slice ab bs.length cb] 34)) #[.bool false, .int .i64 0, .int .i64 0, .int .i64 0, .slice none 0 0, .slice none 0 0, .slice none 0 0] 34
  simp only [World.size_alloc] at hY
  have HY0 := hide hY
  have hB0 : Below w.heap.size w ((w.alloc (.cells #[.bool true, .int .i64 pl, .int .i64 ev, .int .i64 vl, .slice af fs.length cf, .slice av vs.length cv, .slice ab bs.length cb] 34)).alloc (.cells #[.bool false, .int .i64 0, .int .i64 0, .int .i64 0, .slice none 0 0, .slice none 0 0, .slice none 0 0] 34)) := ((Below.refl _ _).alloc (Nat.le_refl _) _).alloc (by simp) _
  have HS0 := hide (hS.below (hB0.mono hlo))
  have HK0 : Hid (∀ (b : Nat) (cs : Array Value) (T : TypeId), Bx w b cs T → Bx ((w.alloc (.cells #[.bool true, .int .i64 pl, .int .i64 ev, .int .i64 vl, .slice af fs.length cf, .slice av vs.length cv, .slice ab bs.length cb] 34)).alloc (.cells #[.bool false, .int .i64 0, .int .i64 0, .int .i64 0, .slice none 0 0, .slice none 0 0, .slice none 0 0] 34)) b cs T) := hide (fun bb cs TT hbx => hbx.below hB0 hbx.lt)
  have HSM0 : Hid (SM ((w.alloc (.cells #[.bool true, .int .i64 pl, .int .i64 ev, .int .i64 vl, .slice af fs.length cf, .slice av vs.length cv, .slice ab bs.length cb] 34)).alloc (.cells #[.bool false, .int .i64 0, .int .i64 0, .int .i64 0, .slice none 0 0, .slice none 0 0, .slice none 0 0] 34)) lo (.agg #[.bool true, .int .i64 pl, .int .i64 ev, .int .i64 vl, .slice af fs.length cf, .slice av vs.length cv, .slice ab bs.length cb]) (⟨true, pl, ev, vl, fs, vs, bs⟩ : Mc)) := hide (SM.below ⟨af, cf, av, cv, ab, cb, rfl, h1, h2, h3⟩ hB0)
  have HKp : Hid (Kp ((w.alloc (.cells #[.bool true, .int .i64 pl, .int .i64 ev, .int .i64 vl, .slice af fs.length cf, .slice av vs.length cv, .slice ab bs.length cb] 34)).alloc (.cells #[.bool false, .int .i64 0, .int .i64 0, .int .i64 0, .slice none 0 0, .slice none 0 0, .slice none 0 0] 34)) (w.heap.size + 1) lo (.slice af fs.length cf) (.slice av vs.length cv) (.slice ab bs.length cb) fs vs bs) := hide ⟨⟨_, hY⟩, own_keep h1 (fun k _ hk => hB0.block k hk), own_keep h2 (fun k _ hk => hB0.block k hk), own_keep h3 (fun k _ hk => hB0.block k hk)⟩
  have HCl := hide hCl
  have HG := hide hG
  have hB1 : Below lo w ((w.alloc (.cells #[.bool true, .int .i64 pl, .int .i64 ev, .int .i64 vl, .slice af fs.length cf, .slice av vs.length cv, .slice ab bs.length cb] 34)).alloc (.cells #[.bool false, .int .i64 0, .int .i64 0, .int .i64 0, .slice none 0 0, .slice none 0 0, .slice none 0 0] 34)) := hB0.mono hlo
  clear hY hCl hG hS h1 h2 h3
  go_enter Tryz.func20, Tryz.ntmps20
  go_upto_region 1 with fail
  obtain ⟨w0, hw0⟩ : ∃ w0, w0 = (w.alloc (.cells #[.bool true, .int .i64 pl, .int .i64 ev, .int .i64 vl, .slice af fs.length cf, .slice av vs.length cv, .slice ab bs.length cb] 34)).alloc (.cells #[.bool false, .int .i64 0, .int .i64 0, .int .i64 0, .slice none 0 0, .slice none 0 0, .slice none 0 0] 34) := ⟨_, rfl⟩
  rw [← hw0] at HX0 HY0 hB0 HS0 HK0 HSM0 HKp hB1 ⊢
  clear hw0
  have hz0 : lo ≤ w0.heap.size := Nat.le_trans hlo hB1.size
  have hyl := HY0.out.lt
  have cx := HX0.out.c
  have hn0 : fs = [] := by simpa using HN.out
  subst hn0
  simp only [List.length_nil] at cx
  have cy0 := HY0.out.c
  have fy0 := HY0.out.f
  go_upto_region 5 with fail
  go_wp2_with fail
  refine bodyPost_ret (v := .tuple #[.agg #[.bool true, .int .i64 pl, .int .i64 ev, .int .i64 vl, .slice af 0 cf, .slice av vs.length cv, .slice ab bs.length cb], .bool false, .bool true]) (by simp [results, Tryz.results20, go_sem, cy0]) rfl (GoP.mk _ ⟨true, pl, ev, vl, [], vs, bs⟩ (by rw [HD.out.1, HD.out.2.1]) ?_ (fun m1 hm1 => absurd hm1 (HD.out.2.2 m1)) ?_ (fun bb cs TT t1 t2 t3 hbx => ((((((((HK0.out bb cs TT hbx).setne (w.heap.size + 1) 0 _ (by have := hbx.lt; omega)).setne (w.heap.size + 1) 1 _ (by have := hbx.lt; omega)).setne (w.heap.size + 1) 2 _ (by have := hbx.lt; omega)).setne (w.heap.size + 1) 3 _ (by have := hbx.lt; omega)).setne (w.heap.size + 1) 4 _ (by have := hbx.lt; omega)).setne (w.heap.size + 1) 5 _ (by have := hbx.lt; omega)).setne (w.heap.size + 1) 6 _ (by have := hbx.lt; omega))))
  · exact ((((((((HKp.out.set 0 (.bool true)).set 1 (.int .i64 pl)).set 2 (.int .i64 ev)).set 3 (.int .i64 vl)).set 4 (.slice af 0 cf)).set 5 (.slice av vs.length cv)).set 6 (.slice ab bs.length cb))).sm true pl ev vl
  · exact bsc (bsc (bsc (bsc (bsc (bsc (bsc hB1 _ _ _ (by omega)) _ _ _ (by omega)) _ _ _ (by omega)) _ _ _ (by omega)) _ _ _ (by omega)) _ _ _ (by omega)) _ _ _ (by omega)

set_option maxRecDepth 20000 in
set_option maxHeartbeats 4000000 in
theorem l6Step_go (lo cb0 : Nat) (ad : Option Addr) (c : Nat) (l : List Cc) (a : F) (v : Value) (m : Mc) (w : World) (hCl : Cl l a) (h : SM w lo v m) (hS : SR w lo cb0 ad c l a) (hG : GM a l m) (hd : m.done = true) (f : Fm) (hf : m.fs.getLast? = some f) :
    Calls Tryz.prog 20 #[.pointer (some ⟨cb0, 0, none⟩), v] w (GoP lo w (stepM a l m)) := by
  have hlo := hS.le
  obtain ⟨BN, hBN⟩ : ∃ BN, BN = goM a l m f := ⟨_, rfl⟩
  have hst : stepM a l m = BN := by rw [hBN]; unfold stepM; rw [if_pos hd, hf]
  rw [hst]
  have HBN := hide hBN
  have HN := hide hf
  have hfp : 0 < m.fs.length := List.length_pos_of_mem (List.mem_of_getLast? hf)
  clear hst hBN hf
  obtain ⟨af, cf, av, cv, ab, cb, rfl, h1, h2, h3⟩ := h
  obtain ⟨dn, pl, ev, vl, fs, vs, bs⟩ := m
  simp only at hd h1 h2 h3
  subst hd
  have HX0 := hide ((Bx.new w #[.bool true, .int .i64 pl, .int .i64 ev, .int .i64 vl, .slice af fs.length cf, .slice av vs.length cv, .slice ab bs.length cb] 34).alloc (.cells #[.bool false, .int .i64 0, .int .i64 0, .int .i64 0, .slice none 0 0, .slice none 0 0, .slice none 0 0] 34))
  have hY := Bx.new (w.alloc (.cells #[.bool true, .int .i64 pl, .int .i64 ev, .int .i64 vl, .slice af fs.length cf, .slice av vs.length cv, .slice ab bs.length cb] 34)) #[.bool false, .int .i64 0, .int .i64 0, .int .i64 0, .slice none 0 0, .slice none 0 0, .slice none 0 0] 34
  simp only [World.size_alloc] at hY
  have HY0 := hide hY
  have hB0 : Below w.heap.size w ((w.alloc (.cells #[.bool true, .int .i64 pl, .int .i64 ev, .int .i64 vl, .slice af fs.length cf, .slice av vs.length cv, .slice ab bs.length cb] 34)).alloc (.cells #[.bool false, .int .i64 0, .int .i64 0, .int .i64 0, .slice none 0 0, .slice none 0 0, .slice none 0 0] 34)) := ((Below.refl _ _).alloc (Nat.le_refl _) _).alloc (by simp) _
  have HS0 := hide (hS.below (hB0.mono hlo))
  have HK0 : Hid (∀ (b : Nat) (cs : Array Value) (T : TypeId), Bx w b cs T → Bx ((w.alloc (.cells #[.bool true, .int .i64 pl, .int .i64 ev, .int .i64 vl, .slice af fs.length cf, .slice av vs.length cv, .slice ab bs.length cb] 34)).alloc (.cells #[.bool false, .int .i64 0, .int .i64 0, .int .i64 0, .slice none 0 0, .slice none 0 0, .slice none 0 0] 34)) b cs T) := hide (fun bb cs TT hbx => hbx.below hB0 hbx.lt)
  have HSM0 : Hid (SM ((w.alloc (.cells #[.bool true, .int .i64 pl, .int .i64 ev, .int .i64 vl, .slice af fs.length cf, .slice av vs.length cv, .slice ab bs.length cb] 34)).alloc (.cells #[.bool false, .int .i64 0, .int .i64 0, .int .i64 0, .slice none 0 0, .slice none 0 0, .slice none 0 0] 34)) lo (.agg #[.bool true, .int .i64 pl, .int .i64 ev, .int .i64 vl, .slice af fs.length cf, .slice av vs.length cv, .slice ab bs.length cb]) (⟨true, pl, ev, vl, fs, vs, bs⟩ : Mc)) := hide (SM.below ⟨af, cf, av, cv, ab, cb, rfl, h1, h2, h3⟩ hB0)
  have HKp : Hid (Kp ((w.alloc (.cells #[.bool true, .int .i64 pl, .int .i64 ev, .int .i64 vl, .slice af fs.length cf, .slice av vs.length cv, .slice ab bs.length cb] 34)).alloc (.cells #[.bool false, .int .i64 0, .int .i64 0, .int .i64 0, .slice none 0 0, .slice none 0 0, .slice none 0 0] 34)) (w.heap.size + 1) lo (.slice af fs.length cf) (.slice av vs.length cv) (.slice ab bs.length cb) fs vs bs) := hide ⟨⟨_, hY⟩, own_keep h1 (fun k _ hk => hB0.block k hk), own_keep h2 (fun k _ hk => hB0.block k hk), own_keep h3 (fun k _ hk => hB0.block k hk)⟩
  have HCl := hide hCl
  have HG := hide hG
  have hB1 : Below lo w ((w.alloc (.cells #[.bool true, .int .i64 pl, .int .i64 ev, .int .i64 vl, .slice af fs.length cf, .slice av vs.length cv, .slice ab bs.length cb] 34)).alloc (.cells #[.bool false, .int .i64 0, .int .i64 0, .int .i64 0, .slice none 0 0, .slice none 0 0, .slice none 0 0] 34)) := hB0.mono hlo
  clear hY hCl hG hS h1 h2 h3
  go_enter Tryz.func20, Tryz.ntmps20
  go_upto_region 1 with fail
  obtain ⟨w0, hw0⟩ : ∃ w0, w0 = (w.alloc (.cells #[.bool true, .int .i64 pl, .int .i64 ev, .int .i64 vl, .slice af fs.length cf, .slice av vs.length cv, .slice ab bs.length cb] 34)).alloc (.cells #[.bool false, .int .i64 0, .int .i64 0, .int .i64 0, .slice none 0 0, .slice none 0 0, .slice none 0 0] 34) := ⟨_, rfl⟩
  rw [← hw0] at HX0 HY0 hB0 HS0 HK0 HSM0 HKp hB1 ⊢
  clear hw0
  have hz0 : lo ≤ w0.heap.size := Nat.le_trans hlo hB1.size
  have hyl := HY0.out.lt
  have cx := HX0.out.c
  have HGo : Hid (Calls Tryz.prog 48 #[.pointer (some ⟨cb0, 0, none⟩), .agg #[.bool true, .int .i64 pl, .int .i64 ev, .int .i64 vl, .slice af fs.length cf, .slice av vs.length cv, .slice ab bs.length cb]] w0 (GoP lo w0 BN)) := hide (by
    have := l6Go_any lo cb0 ad c l a _ _ f w0 HCl.out HSM0.out HS0.out HG.out rfl HN.out
    rw [← HBN.out] at this
    exact this)
  have hfn : ¬ ((fs.length : Nat) : Int) = 0 := by simp only at hfp; omega
  have hfn2 : ¬ fs.length = 0 := by simp only at hfp; omega
  have hfn3 : ¬ fs = [] := by intro e; rw [e] at hfn2; exact hfn2 rfl
  clear HBN HN hfp
  go_upto_region 6 with fail
  go_wp2_with fail
  refine HGo.out.mono ?_
  rintro r w9 ⟨v9, ⟨d9, p9, e9, x9, fs9, vs9, bs9⟩, rfl, hsm9, hm9, hb9, hk9⟩
  obtain ⟨af9, cf9, av9, cv9, ab9, cb9, rfl, o1, o2, o3⟩ := hsm9
  have HY9 := hide (hk9 _ _ _ (by decide) (by decide) (by decide) HY0.out)
  have HO1 := hide o1
  have HO2 := hide o2
  have HO3 := hide o3
  have HB9 : Hid (Below lo w0 w9) := hide hb9
  have HK9 := hide hk9
  clear o1 o2 o3 hb9 hk9 cx
  have HMI := hide hm9
  have HQ9 : Hid (Kp w9 (w.heap.size + 1) lo (.slice af9 fs9.length cf9) (.slice av9 vs9.length cv9) (.slice ab9 bs9.length cb9) fs9 vs9 bs9) := hide ⟨⟨_, HY9.out⟩, HO1.out, HO2.out, HO3.out⟩
  have hB9 : Below lo w w9 := hB1.trans HB9.out
  obtain ⟨CN, hCN⟩ : ∃ CN, CN = canOf BN := ⟨_, rfl⟩
  obtain ⟨RN, hRN⟩ : ∃ RN, RN = roomOf BN := ⟨_, rfl⟩
  rw [← hCN, ← hRN]
  have HCN := hide hCN
  have HRN := hide hRN
  have cy9 := HY9.out.c
  have fy9 := HY9.out.f
  clear hm9 hCN hRN
  go_wp2_with fail
  refine bodyPost_ret (v := .tuple #[.agg #[.bool d9, .int .i64 p9, .int .i64 e9, .int .i64 x9, .slice af9 fs9.length cf9, .slice av9 vs9.length cv9, .slice ab9 bs9.length cb9], .bool CN, .bool RN]) (by simp [results, Tryz.results20, go_sem, cy9]) rfl (GoP.mk _ ⟨d9, p9, e9, x9, fs9, vs9, bs9⟩ (by rw [← HCN.out, ← HRN.out]) ?_ HMI.out ?_ (fun bb cs TT t1 t2 t3 hbx => ((((((((HK9.out bb cs TT t1 t2 t3 (HK0.out bb cs TT hbx)).setne (w.heap.size + 1) 0 _ (by have := hbx.lt; omega)).setne (w.heap.size + 1) 1 _ (by have := hbx.lt; omega)).setne (w.heap.size + 1) 2 _ (by have := hbx.lt; omega)).setne (w.heap.size + 1) 3 _ (by have := hbx.lt; omega)).setne (w.heap.size + 1) 4 _ (by have := hbx.lt; omega)).setne (w.heap.size + 1) 5 _ (by have := hbx.lt; omega)).setne (w.heap.size + 1) 6 _ (by have := hbx.lt; omega))))
  · exact ((((((((HQ9.out.set 0 (.bool d9)).set 1 (.int .i64 p9)).set 2 (.int .i64 e9)).set 3 (.int .i64 x9)).set 4 (.slice af9 fs9.length cf9)).set 5 (.slice av9 vs9.length cv9)).set 6 (.slice ab9 bs9.length cb9))).sm d9 p9 e9 x9
  · exact bsc (bsc (bsc (bsc (bsc (bsc (bsc hB9 _ _ _ (by omega)) _ _ _ (by omega)) _ _ _ (by omega)) _ _ _ (by omega)) _ _ _ (by omega)) _ _ _ (by omega)) _ _ _ (by omega)

theorem l6Step_any (lo cb0 : Nat) (ad : Option Addr) (c : Nat) (l : List Cc) (a : F) (v : Value) (m : Mc) (w : World) (hCl : Cl l a) (h : SM w lo v m) (hS : SR w lo cb0 ad c l a) (hG : GM a l m) :
    Calls Tryz.prog 20 #[.pointer (some ⟨cb0, 0, none⟩), v] w (GoP lo w (stepM a l m)) := by
  cases hd : m.done with
  | false => exact l6Step_do lo cb0 ad c l a v m w hCl h hS hG hd
  | true =>
    cases hf : m.fs.getLast? with
    | none => exact l6Step_no lo cb0 ad c l a v m w hCl h hS hG hd hf
    | some f => exact l6Step_go lo cb0 ad c l a v m w hCl h hS hG hd f hf
end Go.Proofs.YtdajalchdbgooaaGreat.W

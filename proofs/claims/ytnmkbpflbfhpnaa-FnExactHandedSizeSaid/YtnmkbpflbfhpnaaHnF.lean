/-
  Parts made by closures: the contract of handed. Conditions: parts of a good term whose variables are bound around it.
-/
import Derived.Test.YtnmkbpflbfhpnaaHnE
import Derived.Test.YtnmkbpflbfhpnaaHnM
namespace Go.Proofs.Ytnmkbpflbfhpnaa.W
open Go.ChangeShapes Go.WideShapes Go.ChangeAt Go.RowKit
set_option linter.unusedVariables false

/-- Each variable is bound around it, d being bound around all. -/
def FBd (pk : Int) (d : Nat) : Nat → F → Prop
  | _, .nil => True
  | i, .cons x k r => (x.k = 1 → x.n < ((d + binds pk i : Nat) : Int)) ∧ FBd x.k (d + binds pk i) 0 k ∧ FBd pk d (i + 1) r
theorem fbd_of : ∀ (a : F) (pk : Int) (d i : Nat), fre pk d i a [] = [] → FBd pk d i a
  | .nil, _, _, _, _ => trivial
  | .cons z m r, pk, d, i, hf => by
    rw [fre] at hf
    have hin : (if z.k = 1 ∧ ((d + binds pk i : Nat) : Int) ≤ z.n then put [] (z.n - ((d + binds pk i : Nat) : Int)) else fre z.k (d + binds pk i) 0 m []) = [] := by
      apply Classical.byContradiction
      intro hne
      exact fre_ne r _ _ _ _ hne hf
    rw [hin] at hf
    by_cases hz : z.k = 1 ∧ ((d + binds pk i : Nat) : Int) ≤ z.n
    · rw [if_pos hz] at hin; exact absurd hin (put_ne _ _)
    · rw [if_neg hz] at hin
      exact ⟨fun h => by apply Classical.byContradiction; intro h2; exact hz ⟨h, by omega⟩, fbd_of m _ _ _ hin, fbd_of r _ _ _ hf⟩
theorem box_at_j {w : World} (cs : Array Value) (T : TypeId) {n j : Nat} {v : Value} (h : w.heap.size = n) (hv : cs[j]? = some v) : (w.alloc (.cells cs T)).cell? ⟨n, j, none⟩ = some v := by
  subst h
  exact (cell_of_blk (heap_alloc_new _ _) j).trans hv
theorem kM_0 (x : Cc) (k r : F) (ρ : Int → M) : kM (.cons x k r) 0 ρ = kM (.cons x k .nil) 0 ρ := by rw [kM, kM]
theorem kM_s (x : Cc) (k r : F) (i : Nat) (ρ : Int → M) : kM (.cons x k r) (i + 1) ρ = kM r i ρ := by rw [kM]
theorem three_of {k : F} (h : k.len = 3) : ∃ y ky z kz u ku, k = .cons y ky (.cons z kz (.cons u ku .nil)) := by
  obtain ⟨y, ky, z, kz, u, ku, rfl⟩ := F.len_3 h
  exact ⟨y, ky, z, kz, u, ku, rfl⟩

def PHGoal (k : F) : Prop := ∀ (x : Cc) (d : Nat), goodC x = true → k.len = ar x.k → k.ok → (x.k = 1 → x.n < (d : Int)) → FBd x.k d 0 k → d + k.flat.length ≤ 1000000 → HdC (pv x.k x.n (pvs k)) (d : Int) (fun ρ => kM (.cons x k .nil) 0 ρ)

set_option maxRecDepth 20000 in
set_option maxHeartbeats 2000000 in
theorem handed_var (xn : Int) (d : Nat) (h0 : 0 ≤ xn) (hv : xn < (d : Int)) : HdC (.iface 66 (.agg #[.int .i64 xn])) (d : Int) (fun ρ => valM (ρ xn)) := by
  intro v ρ w hs
  rcases hs with hs | ⟨fida, capa, rfl, hent, hk⟩
  · omega
  have ent : ∀ args w, (callFunc fida args).run Try.prog w = .ok (.enter fida args) w := hent
  have HK := hide (fun w' hb => hk xn w' h0 hv hb)
  clear hk hent
  have a_var := as_var_var
  go_enter Try.func22, Try.ntmps22
  go_wp2_with fail
  refine Calls.mono (HK.out _ (bel3 _ _ _ _)) ?_
  rintro e w1 ⟨v1, rfl, hm1, hb1⟩
  have HM1 := hide hm1
  obtain ⟨fid1, cap1, rfl⟩ := hm1.form
  have HB1 := hide ((bel3 w _ _ _).trans (hb1.mono (by simp; omega)))
  clear hm1 hb1
  go_wp2_with fail
  refine Calls.mono (handValue_any _ _ _ HM1.out) ?_
  rintro e w2 ⟨v2, rfl, hm2, hb2⟩
  have HM2 := hide hm2
  obtain ⟨fid2, cap2, rfl⟩ := hm2.form
  have HB2 := hide hb2
  clear hm2 hb2
  go_wp2_with fail
  go_ret
  exact ⟨_, rfl, HM2.out, HB1.out.trans (HB2.out.mono HB1.out.size)⟩

set_option maxRecDepth 20000 in
set_option maxHeartbeats 2000000 in
theorem handed_num (xn : Int) (n : Int) : HdC (.iface 102 (.agg #[.int .i64 xn])) n (fun _ => valM (fun _ => .cons ⟨2, xn⟩ .nil .nil)) := by
  intro v ρ w hs
  have hfa := hs.form
  clear hs
  have a_var := as_num_var
  have a_lam := as_num_lam
  have a_app := as_num_app
  have a_add := as_num_add
  have a_if := as_num_if
  have a_let := as_num_let
  rcases hfa with rfl | ⟨fida, capa, rfl⟩
  all_goals
    go_enter Try.func22, Try.ntmps22
    go_wp2_with fail
    refine Calls.mono (handValue_any _ _ _ (h6_mk w.heap.size (.cons ⟨2, xn⟩ .nil .nil) rfl _ (by simp; omega) (box_keep _ (box_at _ _ rfl)))) ?_
    rintro e w2 ⟨v2, rfl, hm2, hb2⟩
    have HM2 := hide hm2
    obtain ⟨fid2, cap2, rfl⟩ := hm2.form
    have HB2 := hide hb2
    clear hm2 hb2
    go_wp2_with fail
    go_ret
    exact ⟨_, rfl, HM2.out, (bel2 w _ _).trans (HB2.out.mono (by simp; omega))⟩

set_option maxRecDepth 20000 in
set_option maxHeartbeats 2000000 in
theorem handed_lam (T : TypeId) (q : Value) (n : Int) (H : (Int → M) → M) (h0 : 0 ≤ n) (hn : n ≤ 1000000) (hp : HdC (.iface T q) (n + 1) H) : HdC (.iface 69 (.agg #[.iface T q])) n (fun ρ => valM (lamM fun b => H (extM ρ b))) := by
  intro v ρ w hs
  have HS := hide hs
  have HP := hide hp
  have hfa := hs.form
  clear hs hp
  have a_var := as_lam_var
  have a_lam := as_lam_lam
  rcases hfa with rfl | ⟨fida, capa, rfl⟩
  all_goals
    go_enter Try.func22, Try.ntmps22
    go_wp2_with fail
    refine Calls.mono (makeLam_any _ _ _ (h1_bd (w.heap.size + 1 + 1) (w.heap.size + 1) T q _ n ρ H _ h0 hn (by simp) (by simp) (box_at _ _ (by simp)) (box_keep _ (box_at _ _ (by simp))) HP.out (HS.out.below (bel3 _ _ _ _)))) ?_
    rintro e w1 ⟨v1, rfl, hm1, hb1⟩
    have HM1 := hide hm1
    obtain ⟨fid1, cap1, rfl⟩ := hm1.form
    have HB1 := hide ((bel3 w _ _ _).trans (hb1.mono (by simp; omega)))
    clear hm1 hb1
    go_wp2_with fail
    refine Calls.mono (handValue_any _ _ _ HM1.out) ?_
    rintro e w2 ⟨v2, rfl, hm2, hb2⟩
    have HM2 := hide hm2
    obtain ⟨fid2, cap2, rfl⟩ := hm2.form
    have HB2 := hide hb2
    clear hm2 hb2
    go_wp2_with fail
    go_ret
    exact ⟨_, rfl, HM2.out, HB1.out.trans (HB2.out.mono HB1.out.size)⟩

set_option maxRecDepth 20000 in
set_option maxHeartbeats 2000000 in
theorem handed_app (T1 T2' : TypeId) (q1 q2 : Value) (n : Int) (H1 H2 : (Int → M) → M) (hp1 : HdC (.iface T1 q1) n H1) (hp2 : HdC (.iface T2' q2) n H2) : HdC (.iface 73 (.agg #[.iface T1 q1, .iface T2' q2])) n (fun ρ => twoM (H1 ρ) (H2 ρ) (fun a b next => appM (appM a b) next)) := by
  intro v ρ w hs
  have HS := hide hs
  have HP1 := hide hp1
  have HP2 := hide hp2
  have hfa := hs.form
  clear hs hp1 hp2
  have a_var := as_app_var
  have a_lam := as_app_lam
  have a_app := as_app_app
  rcases hfa with rfl | ⟨fida, capa, rfl⟩
  all_goals
    go_enter Try.func22, Try.ntmps22
    go_wp2_with fail
    refine Calls.mono (handTwo_any T1 T2' q1 q2 _ _ n ρ H1 H2 _ _ HP1.out HP2.out (HS.out.below (bel3 _ _ _ _)) (h2_t3 _)) ?_
    rintro e w2 ⟨v2, rfl, hm2, hb2⟩
    have HM2 := hide hm2
    obtain ⟨fid2, cap2, rfl⟩ := hm2.form
    have HB2 := hide hb2
    clear hm2 hb2
    go_wp2_with fail
    go_ret
    exact ⟨_, rfl, HM2.out, (bel3 w _ _ _).trans (HB2.out.mono (by simp; omega))⟩

set_option maxRecDepth 20000 in
set_option maxHeartbeats 2000000 in
theorem handed_add (T1 T2' : TypeId) (q1 q2 : Value) (n : Int) (H1 H2 : (Int → M) → M) (hp1 : HdC (.iface T1 q1) n H1) (hp2 : HdC (.iface T2' q2) n H2) : HdC (.iface 78 (.agg #[.iface T1 q1, .iface T2' q2])) n (fun ρ => twoM (H1 ρ) (H2 ρ) (fun a b next => appM next (addM a b))) := by
  intro v ρ w hs
  have HS := hide hs
  have HP1 := hide hp1
  have HP2 := hide hp2
  have hfa := hs.form
  clear hs hp1 hp2
  have a_var := as_add_var
  have a_lam := as_add_lam
  have a_app := as_add_app
  have a_add := as_add_add
  rcases hfa with rfl | ⟨fida, capa, rfl⟩
  all_goals
    go_enter Try.func22, Try.ntmps22
    go_wp2_with fail
    refine Calls.mono (handTwo_any T1 T2' q1 q2 _ _ n ρ H1 H2 _ _ HP1.out HP2.out (HS.out.below (bel3 _ _ _ _)) (h3_t3 _)) ?_
    rintro e w2 ⟨v2, rfl, hm2, hb2⟩
    have HM2 := hide hm2
    obtain ⟨fid2, cap2, rfl⟩ := hm2.form
    have HB2 := hide hb2
    clear hm2 hb2
    go_wp2_with fail
    go_ret
    exact ⟨_, rfl, HM2.out, (bel3 w _ _ _).trans (HB2.out.mono (by simp; omega))⟩

set_option maxRecDepth 20000 in
set_option maxHeartbeats 2000000 in
theorem handed_if (T0 T1 T2' : TypeId) (q0 q1 q2 : Value) (n : Int) (H0 H1 H2 : (Int → M) → M) (hp0 : HdC (.iface T0 q0) n H0) (hp1 : HdC (.iface T1 q1) n H1) (hp2 : HdC (.iface T2' q2) n H2) : HdC (.iface 80 (.agg #[.iface T0 q0, .iface T1 q1, .iface T2' q2])) n (fun ρ => firstM (H0 ρ) (fun a next => ifM a (appM (H1 ρ) next) (appM (H2 ρ) next))) := by
  intro v ρ w hs
  have HS := hide hs
  have HP0 := hide hp0
  have HP1 := hide hp1
  have HP2 := hide hp2
  have hfa := hs.form
  clear hs hp1 hp2 hp0
  have a_var := as_if_var
  have a_lam := as_if_lam
  have a_app := as_if_app
  have a_add := as_if_add
  have a_if := as_if_if
  rcases hfa with rfl | ⟨fida, capa, rfl⟩
  all_goals
    go_enter Try.func22, Try.ntmps22
    go_wp2_with fail
    refine Calls.mono (handFirst_any T0 q0 _ _ n ρ H0 _ _ HP0.out (HS.out.below (bel3 _ _ _ _)) (h4_t2 (w.heap.size + 1 + 1) (w.heap.size + 1) T1 T2' q1 q2 _ n ρ H1 H2 _ (by simp) (by simp) (box_at_j _ _ (by simp) rfl) (box_at_j _ _ (by simp) rfl) (box_keep _ (box_at _ _ (by simp))) HP1.out HP2.out (HS.out.below (bel3 _ _ _ _)))) ?_
    rintro e w2 ⟨v2, rfl, hm2, hb2⟩
    have HM2 := hide hm2
    obtain ⟨fid2, cap2, rfl⟩ := hm2.form
    have HB2 := hide hb2
    clear hm2 hb2
    go_wp2_with fail
    go_ret
    exact ⟨_, rfl, HM2.out, (bel3 w _ _ _).trans (HB2.out.mono (by simp; omega))⟩

set_option maxRecDepth 20000 in
set_option maxHeartbeats 2000000 in
theorem handed_let (T0 T1 : TypeId) (q0 q1 : Value) (n : Int) (H0 H1 : (Int → M) → M) (h0 : 0 ≤ n) (hn : n ≤ 1000000) (hp0 : HdC (.iface T0 q0) n H0) (hp1 : HdC (.iface T1 q1) (n + 1) H1) : HdC (.iface 83 (.agg #[.iface T0 q0, .iface T1 q1])) n (fun ρ => firstM (H0 ρ) (fun a next => appM (H1 (extM ρ a)) next)) := by
  intro v ρ w hs
  have HS := hide hs
  have HP0 := hide hp0
  have HP1 := hide hp1
  have hfa := hs.form
  clear hs hp1 hp0
  have a_var := as_let_var
  have a_lam := as_let_lam
  have a_app := as_let_app
  have a_add := as_let_add
  have a_if := as_let_if
  have a_let := as_let_let
  rcases hfa with rfl | ⟨fida, capa, rfl⟩
  all_goals
    go_enter Try.func22, Try.ntmps22
    go_wp2_with fail
    refine Calls.mono (handFirst_any T0 q0 _ _ n ρ H0 _ _ HP0.out (HS.out.below (bel3 _ _ _ _)) (h5_t2 (w.heap.size + 1 + 1) (w.heap.size + 1) T1 q1 _ n ρ H1 _ h0 hn (by simp) (by simp) (box_at_j _ _ (by simp) rfl) (box_keep _ (box_at _ _ (by simp))) HP1.out (HS.out.below (bel3 _ _ _ _)))) ?_
    rintro e w2 ⟨v2, rfl, hm2, hb2⟩
    have HM2 := hide hm2
    obtain ⟨fid2, cap2, rfl⟩ := hm2.form
    have HB2 := hide hb2
    clear hm2 hb2
    go_wp2_with fail
    go_ret
    exact ⟨_, rfl, HM2.out, (bel3 w _ _ _).trans (HB2.out.mono (by simp; omega))⟩

theorem handed_any : ∀ k, PHGoal k := by
  apply F.rec_kids
  intro k ih x d hg hk ho hv hf hd
  have hin := good_ar hg
  simp only [inB, Bool.and_eq_true, decide_eq_true_eq] at hin
  obtain ⟨xk, xn⟩ := x
  simp only at *
  have hx : xk = 1 ∨ xk = 2 ∨ xk = 3 ∨ xk = 4 ∨ xk = 5 ∨ xk = 6 ∨ xk = 7 := by omega
  rcases hx with h | h | h | h | h | h | h
  · subst h
    have h0 : 0 ≤ xn := by unfold goodC at hg; rw [if_pos rfl] at hg; unfold inB at hg; simp at hg; omega
    have e : (fun ρ => kM (.cons ⟨1, xn⟩ k .nil) 0 ρ) = fun ρ => valM (ρ xn) := by funext ρ; rw [kM]; rfl
    rw [e]
    exact handed_var xn d h0 (hv rfl)
  · subst h
    obtain rfl : k = .nil := F.len_0 (by rw [hk]; rfl)
    have e : (fun ρ => kM (.cons ⟨2, xn⟩ .nil .nil) 0 ρ) = fun ρ => valM (fun _ => .cons ⟨2, xn⟩ .nil .nil) := by funext ρ; rw [kM]; rfl
    rw [e]
    exact handed_num xn d
  · subst h
    obtain ⟨y, ky, rfl⟩ := F.len_1 (a := k) (by rw [hk]; rfl)
    have e : (fun ρ => kM (.cons ⟨3, xn⟩ (.cons y ky .nil) .nil) 0 ρ) = fun ρ => valM (lamM fun b => (fun ρ => kM (.cons y ky .nil) 0 ρ) (extM ρ b)) := by funext ρ; rw [kM]; rfl
    rw [e]
    obtain ⟨gy, ly, oy, -⟩ := ho
    obtain ⟨f1, f2, -⟩ := hf
    have hI := ih.1 y (d + 1) gy ly oy f1 f2 (by simp [F.flat] at hd; omega)
    obtain ⟨T, q, hT⟩ := pv_iface y.k y.n (pvs ky)
    rw [hT] at hI
    show HdC (pv 3 xn [pv y.k y.n (pvs ky)]) _ _
    rw [hT]
    exact handed_lam T q d _ (by omega) (by omega) hI
  · subst h
    obtain ⟨y, ky, z, kz, rfl⟩ := two_of (k := k) (by rw [hk]; rfl)
    have e : (fun ρ => kM (.cons ⟨4, xn⟩ (.cons y ky (.cons z kz .nil)) .nil) 0 ρ) = fun ρ => twoM ((fun ρ => kM (.cons y ky .nil) 0 ρ) ρ) ((fun ρ => kM (.cons z kz .nil) 0 ρ) ρ) (fun a b next => appM (appM a b) next) := by funext ρ; rw [kM, kM_0 y, kM_s]; rfl
    rw [e]
    obtain ⟨gy, ly, oy, gz, lz, oz, -⟩ := ho
    obtain ⟨f1, f2, f3, f4, -⟩ := hf
    have hI := ih.1 y d gy ly oy f1 f2 (by simp [F.flat] at hd; omega)
    have hJ := ih.2.1 z d gz lz oz f3 f4 (by simp [F.flat] at hd; omega)
    obtain ⟨T, q, hT⟩ := pv_iface y.k y.n (pvs ky)
    obtain ⟨T2', q2, hT2⟩ := pv_iface z.k z.n (pvs kz)
    rw [hT] at hI
    rw [hT2] at hJ
    show HdC (pv 4 xn [pv y.k y.n (pvs ky), pv z.k z.n (pvs kz)]) _ _
    rw [hT, hT2]
    exact handed_app T T2' q q2 d _ _ hI hJ
  · subst h
    obtain ⟨y, ky, z, kz, rfl⟩ := two_of (k := k) (by rw [hk]; rfl)
    have e : (fun ρ => kM (.cons ⟨5, xn⟩ (.cons y ky (.cons z kz .nil)) .nil) 0 ρ) = fun ρ => twoM ((fun ρ => kM (.cons y ky .nil) 0 ρ) ρ) ((fun ρ => kM (.cons z kz .nil) 0 ρ) ρ) (fun a b next => appM next (addM a b)) := by funext ρ; rw [kM, kM_0 y, kM_s]; rfl
    rw [e]
    obtain ⟨gy, ly, oy, gz, lz, oz, -⟩ := ho
    obtain ⟨f1, f2, f3, f4, -⟩ := hf
    have hI := ih.1 y d gy ly oy f1 f2 (by simp [F.flat] at hd; omega)
    have hJ := ih.2.1 z d gz lz oz f3 f4 (by simp [F.flat] at hd; omega)
    obtain ⟨T, q, hT⟩ := pv_iface y.k y.n (pvs ky)
    obtain ⟨T2', q2, hT2⟩ := pv_iface z.k z.n (pvs kz)
    rw [hT] at hI
    rw [hT2] at hJ
    show HdC (pv 5 xn [pv y.k y.n (pvs ky), pv z.k z.n (pvs kz)]) _ _
    rw [hT, hT2]
    exact handed_add T T2' q q2 d _ _ hI hJ
  · subst h
    obtain ⟨y, ky, z, kz, u, ku, rfl⟩ := three_of (k := k) (by rw [hk]; rfl)
    have e : (fun ρ => kM (.cons ⟨6, xn⟩ (.cons y ky (.cons z kz (.cons u ku .nil))) .nil) 0 ρ) = fun ρ => firstM ((fun ρ => kM (.cons y ky .nil) 0 ρ) ρ) (fun a next => ifM a (appM ((fun ρ => kM (.cons z kz .nil) 0 ρ) ρ) next) (appM ((fun ρ => kM (.cons u ku .nil) 0 ρ) ρ) next)) := by funext ρ; rw [kM, kM_0 y, kM_s, kM_s, kM_s, kM_0 z]; rfl
    rw [e]
    obtain ⟨gy, ly, oy, gz, lz, oz, gu, lu, ou, -⟩ := ho
    obtain ⟨f1, f2, f3, f4, f5, f6, -⟩ := hf
    have hI := ih.1 y d gy ly oy f1 f2 (by simp [F.flat] at hd; omega)
    have hJ := ih.2.1 z d gz lz oz f3 f4 (by simp [F.flat] at hd; omega)
    have hL := ih.2.2.1 u d gu lu ou f5 f6 (by simp [F.flat] at hd; omega)
    obtain ⟨T, q, hT⟩ := pv_iface y.k y.n (pvs ky)
    obtain ⟨T2', q2, hT2⟩ := pv_iface z.k z.n (pvs kz)
    obtain ⟨T3', q3, hT3⟩ := pv_iface u.k u.n (pvs ku)
    rw [hT] at hI
    rw [hT2] at hJ
    rw [hT3] at hL
    show HdC (pv 6 xn [pv y.k y.n (pvs ky), pv z.k z.n (pvs kz), pv u.k u.n (pvs ku)]) _ _
    rw [hT, hT2, hT3]
    exact handed_if T T2' T3' q q2 q3 d _ _ _ hI hJ hL
  · subst h
    obtain ⟨y, ky, z, kz, rfl⟩ := two_of (k := k) (by rw [hk]; rfl)
    have e : (fun ρ => kM (.cons ⟨7, xn⟩ (.cons y ky (.cons z kz .nil)) .nil) 0 ρ) = fun ρ => firstM ((fun ρ => kM (.cons y ky .nil) 0 ρ) ρ) (fun a next => appM ((fun ρ => kM (.cons z kz .nil) 0 ρ) (extM ρ a)) next) := by
      funext ρ
      rw [kM, kM_0 y]
      simp only [kM_s]
      rfl
    rw [e]
    obtain ⟨gy, ly, oy, gz, lz, oz, -⟩ := ho
    obtain ⟨f1, f2, f3, f4, -⟩ := hf
    have hI := ih.1 y d gy ly oy f1 f2 (by simp [F.flat] at hd; omega)
    have hJ := ih.2.1 z (d + 1) gz lz oz f3 f4 (by simp [F.flat] at hd; omega)
    obtain ⟨T, q, hT⟩ := pv_iface y.k y.n (pvs ky)
    obtain ⟨T2', q2, hT2⟩ := pv_iface z.k z.n (pvs kz)
    rw [hT] at hI
    rw [hT2] at hJ
    show HdC (pv 7 xn [pv y.k y.n (pvs ky), pv z.k z.n (pvs kz)]) _ _
    rw [hT, hT2]
    exact handed_let T T2' q q2 d _ _ (by omega) (by omega) hI hJ
end Go.Proofs.Ytnmkbpflbfhpnaa.W

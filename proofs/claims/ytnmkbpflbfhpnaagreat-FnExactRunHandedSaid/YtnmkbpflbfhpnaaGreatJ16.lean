/-
  Some texts of this proof in one: HnM, HnF, RwG.
-/
import Derived.Test.YtnmkbpflbfhpnaaGreatJ07
import Derived.Test.YtnmkbpflbfhpnaaGreatJ08
import Derived.Test.YtnmkbpflbfhpnaaGreatJ15
import Derived.Test.YtnmkbpflbfhpnaaGreatJ00
import Derived.Laws.MakeOwn
import Derived.Laws.AppendOwn
import Derived.Deep.Slices
import Derived.Lib.SmallJoins
import Derived.ChangeOld
/-
  Which terms hand on, by what stands at each place and by what each part is: the same. No program here.
-/
namespace Go.Proofs.YtnmkbpflbfhpnaaGreat.W
set_option linter.unusedVariables false

/-- What may stand where something must be ready, by its first cell. -/
def rdy (k : Int) : Bool := decide (k = 1) || (decide (k = 5) || isVal k)
/-- What is asked of one cell and the terms behind it. -/
def loc (xk : Int) (k : F) : Bool :=
  if xk = 7 then false else if xk = 6 then rdy (k1 k) else if xk = 5 then rdy (k1 k) && rdy (k1 (tl k)) else if xk = 4 then rdy (k1 (tl k)) else true
def allLoc : F → Bool
  | .nil => true
  | .cons x k r => loc x.k k && (allLoc k && allLoc r)
/-- Whether each of these is done at once. -/
def smp : F → Bool
  | .nil => true
  | .cons x k r => (if x.k = 5 then smp k else rdy x.k) && smp r
def smp1 (x : Cc) (k : F) : Bool := if x.k = 5 then smp k else rdy x.k
/-- Whether the first of these is done at once. -/
def smF : F → Bool
  | .nil => true
  | .cons x k _ => smp1 x k
def sloc (xk : Int) (k : F) : Bool :=
  if xk = 7 then false else if xk = 6 then smF k else if xk = 5 then smF k && smF (tl k) else if xk = 4 then smF (tl k) else true
def hs : F → Bool
  | .nil => true
  | .cons x k r => (sloc x.k k && hs k) && hs r
/-- Whether what is read hands on. -/
def hsT : Option F → Bool
  | some a => hs a
  | none => false
theorem hs_app : ∀ a b : F, hs (a.app b) = (hs a && hs b)
  | .nil, b => rfl
  | .cons x k r, b => by simp [F.app, hs, hs_app r b, Bool.and_assoc]
theorem smp_app : ∀ a b : F, smp (a.app b) = (smp a && smp b)
  | .nil, b => rfl
  | .cons x k r, b => by simp [F.app, smp, smp_app r b, Bool.and_assoc]

def rdyAll : F → Bool
  | .nil => true
  | .cons x _ r => rdy x.k && rdyAll r
theorem two_of {k : F} (h : k.len = 2) : ∃ y ky z kz, k = .cons y ky (.cons z kz .nil) := by
  cases k with
  | nil => simp [F.len] at h
  | cons y ky r =>
    obtain ⟨z, kz, rfl⟩ := F.len_1 (a := r) (by simp [F.len] at h; omega)
    exact ⟨y, ky, z, kz, rfl⟩
theorem smp_of : ∀ a : F, a.ok → allLoc a = true → rdyAll a = true → smp a = true
  | .nil, _, _, _ => rfl
  | .cons x k r, ⟨h1, h2, h3, h4⟩, hl, hr => by
    simp only [allLoc, Bool.and_eq_true] at hl
    simp only [rdyAll, Bool.and_eq_true] at hr
    simp only [smp, Bool.and_eq_true]
    refine ⟨?_, smp_of r h4 hl.2.2 hr.2⟩
    by_cases h5 : x.k = 5
    · rw [if_pos h5]
      refine smp_of k h3 hl.2.1 ?_
      obtain ⟨y, ky, z, kz, rfl⟩ := two_of (k := k) (by rw [h2, h5]; decide)
      have := hl.1
      rw [h5] at this
      simpa [loc, k1, tl, rdyAll] using this
    · rw [if_neg h5]; exact hr.1
theorem smp1_eq {x : Cc} {k r : F} (h : (F.cons x k r).ok) (hl : allLoc (.cons x k r) = true) : smp1 x k = rdy x.k := by
  obtain ⟨h1, h2, h3, h4⟩ := h
  unfold smp1
  by_cases h5 : x.k = 5
  · rw [if_pos h5]
    simp only [allLoc, Bool.and_eq_true] at hl
    have e : rdy x.k = true := by rw [h5]; decide
    rw [e]
    refine smp_of k h3 hl.2.1 ?_
    obtain ⟨y, ky, z, kz, rfl⟩ := two_of (k := k) (by rw [h2, h5]; decide)
    have := hl.1
    rw [h5] at this
    simpa [loc, k1, tl, rdyAll] using this
  · rw [if_neg h5]
theorem smF_eq {k : F} (h : k.ok) (hl : allLoc k = true) (hk : 0 < k.len) : smF k = rdy (k1 k) := by
  obtain ⟨y, ky, r, rfl⟩ := len_pos hk
  exact smp1_eq h hl
theorem tl_ok {k : F} (h : k.ok) : (tl k).ok := by
  cases k with
  | nil => exact h
  | cons y ky r => exact h.2.2.2
theorem tl_loc {k : F} (h : allLoc k = true) : allLoc (tl k) = true := by
  cases k with
  | nil => exact h
  | cons y ky r => simp only [allLoc, Bool.and_eq_true] at h; exact h.2.2
theorem tl_len (k : F) : (tl k).len = k.len - 1 := by
  cases k with
  | nil => rfl
  | cons y ky r => simp [tl, F.len]
theorem sloc_eq {x : Cc} {k : F} (h : k.ok) (hk : k.len = ar x.k) (hl : allLoc k = true) : sloc x.k k = loc x.k k := by
  unfold sloc loc
  by_cases h7 : x.k = 7
  · rw [if_pos h7, if_pos h7]
  · rw [if_neg h7, if_neg h7]
    by_cases h6 : x.k = 6
    · rw [if_pos h6, if_pos h6]
      exact smF_eq h hl (by rw [hk, h6]; decide)
    · rw [if_neg h6, if_neg h6]
      by_cases h5 : x.k = 5
      · have h2 : k.len = 2 := by rw [hk, h5]; decide
        rw [if_pos h5, if_pos h5, smF_eq h hl (by omega), smF_eq (tl_ok h) (tl_loc hl) (by rw [tl_len]; omega)]
      · rw [if_neg h5, if_neg h5]
        by_cases h4 : x.k = 4
        · have h2 : k.len = 2 := by rw [hk, h4]; decide
          rw [if_pos h4, if_pos h4, smF_eq (tl_ok h) (tl_loc hl) (by rw [tl_len]; omega)]
        · rw [if_neg h4, if_neg h4]
theorem hs_eq : ∀ a : F, a.ok → hs a = allLoc a
  | .nil, _ => rfl
  | .cons x k r, ⟨h1, h2, h3, h4⟩ => by
    simp only [hs, allLoc]
    rw [hs_eq k h3, hs_eq r h4]
    cases hl : allLoc k with
    | false => simp
    | true => rw [sloc_eq h3 h2 hl]; simp

/-- What is asked at the front of a row. -/
def locB (l : List Cc) : Bool := match rt 1 l with | some (.cons x k _, _) => loc x.k k | _ => true
theorem locB_front {x : Cc} {k : F} (hg : goodC x = true) (hl : k.len = ar x.k) (ho : k.ok) (q : List Cc) : locB (x :: (k.flat ++ q)) = loc x.k k := by
  unfold locB
  rw [rt_1 hg, ← hl, rt_back k q ho]
  rfl
theorem locB_cons (x : Cc) (l : List Cc) : ((List.range (x :: l).length).all fun i => locB ((x :: l).drop i)) = (locB (x :: l) && ((List.range l.length).all fun i => locB (l.drop i))) := by
  rw [List.length_cons, List.range_succ_eq_map, List.all_cons, List.all_map]
  rfl
theorem locB_flat : ∀ (a : F) (r : List Cc), a.ok → ((List.range (a.flat ++ r).length).all fun i => locB ((a.flat ++ r).drop i)) = (allLoc a && ((List.range r.length).all fun i => locB (r.drop i)))
  | .nil, r, _ => rfl
  | .cons x k s, r, ⟨h1, h2, h3, h4⟩ => by
    have e : (F.cons x k s).flat ++ r = x :: (k.flat ++ (s.flat ++ r)) := by simp [F.flat]
    rw [e, locB_cons, locB_flat k _ h3, locB_flat s r h4, locB_front h1 h2 h3 _]
    simp [allLoc, Bool.and_assoc]
theorem locB_all {a : F} (h : a.ok) : ((List.range a.flat.length).all fun i => locB (a.flat.drop i)) = hs a := by
  have := locB_flat a [] h
  rw [hs_eq a h]
  simpa using this
/-- Within good terms a term opens at each place. -/
theorem front_in : ∀ (a : F) (r : List Cc) (i : Nat), a.ok → i < a.flat.length → ∃ (x : Cc) (k : F) (q : List Cc), (a.flat ++ r).drop i = x :: (k.flat ++ q) ∧ goodC x = true ∧ k.len = ar x.k ∧ k.ok
  | .nil, r, i, _, h => by simp [F.flat] at h
  | .cons x k s, r, i, ⟨h1, h2, h3, h4⟩, hi => by
    show ∃ (x' : Cc) (k' : F) (q : List Cc), (x :: (k.flat ++ s.flat) ++ r).drop i = _ ∧ _
    rw [List.cons_append, List.append_assoc]
    cases i with
    | zero => exact ⟨x, k, _, rfl, h1, h2, h3⟩
    | succ j =>
      rw [List.drop_succ_cons]
      by_cases hj : j < k.flat.length
      · exact front_in k (s.flat ++ r) j h3 hj
      · rw [show (k.flat ++ (s.flat ++ r)).drop j = (s.flat ++ r).drop (j - k.flat.length) by rw [List.drop_append, List.drop_eq_nil_of_le (by omega), List.nil_append]]
        exact front_in s r (j - k.flat.length) h4 (by simp [F.flat] at hi; omega)
end Go.Proofs.YtnmkbpflbfhpnaaGreat.W

/-
  Parts made by closures: the contract of handed. Conditions: parts of a good term whose variables are bound around it.
-/
namespace Go.Proofs.YtnmkbpflbfhpnaaGreat.W
open Go.ChangeShapes Go.WideShapes Go.ChangeAt Go.RowKit
set_option linter.unusedVariables false

/-- Each variable is bound around it, d being bound around all. -/
def FBd (pk : Int) (d : Nat) : Nat → F → Prop
  | _, .nil => True
  | i, .cons x k r => (x.k = 1 → x.n < ((d + binds pk i : Nat) : Int)) ∧ FBd x.k (d + binds pk i) 0 k ∧ FBd pk d (i + 1) r
theorem fbd_of : ∀ (a : F) (pk : Int) (d i : Nat), fre pk d i a [] = [] → FBd pk d i a
  | .nil, _, _, _, _ => trivial
  | .cons z m r, pk, d, i, hf => by
    rw [fre] at hf
    have hin : (if z.k = 1 ∧ ((d + binds pk i : Nat) : Int) ≤ z.n then put [] (z.n - ((d + binds pk i : Nat) : Int)) else fre z.k (d + binds pk i) 0 m []) = [] := by
      apply Classical.byContradiction
      intro hne
      exact fre_ne r _ _ _ _ hne hf
    rw [hin] at hf
    by_cases hz : z.k = 1 ∧ ((d + binds pk i : Nat) : Int) ≤ z.n
    · rw [if_pos hz] at hin; exact absurd hin (put_ne _ _)
    · rw [if_neg hz] at hin
      exact ⟨fun h => by apply Classical.byContradiction; intro h2; exact hz ⟨h, by omega⟩, fbd_of m _ _ _ hin, fbd_of r _ _ _ hf⟩
theorem box_at_j {w : World} (cs : Array Value) (T : TypeId) {n j : Nat} {v : Value} (h : w.heap.size = n) (hv : cs[j]? = some v) : (w.alloc (.cells cs T)).cell? ⟨n, j, none⟩ = some v := by
  subst h
  exact (cell_of_blk (heap_alloc_new _ _) j).trans hv
theorem kM_0 (x : Cc) (k r : F) (ρ : Int → M) : kM (.cons x k r) 0 ρ = kM (.cons x k .nil) 0 ρ := by rw [kM, kM]
theorem kM_s (x : Cc) (k r : F) (i : Nat) (ρ : Int → M) : kM (.cons x k r) (i + 1) ρ = kM r i ρ := by rw [kM]
theorem three_of {k : F} (h : k.len = 3) : ∃ y ky z kz u ku, k = .cons y ky (.cons z kz (.cons u ku .nil)) := by
  obtain ⟨y, ky, z, kz, u, ku, rfl⟩ := F.len_3 h
  exact ⟨y, ky, z, kz, u, ku, rfl⟩

def PHGoal (k : F) : Prop := ∀ (x : Cc) (d : Nat), goodC x = true → k.len = ar x.k → k.ok → (x.k = 1 → x.n < (d : Int)) → FBd x.k d 0 k → d + k.flat.length ≤ 1000000 → HdC (pv x.k x.n (pvs k)) (d : Int) (fun ρ => kM (.cons x k .nil) 0 ρ)

set_option maxRecDepth 20000 in
set_option maxHeartbeats 2000000 in
theorem handed_var (xn : Int) (d : Nat) (h0 : 0 ≤ xn) (hv : xn < (d : Int)) : HdC (.iface 102 (.agg #[.int .i64 xn])) (d : Int) (fun ρ => valM (ρ xn)) := by
  intro v ρ w hs
  rcases hs with hs | ⟨fida, capa, rfl, hent, hk⟩
  · omega
  have ent : ∀ args w, (callFunc fida args).run Tryz.prog w = .ok (.enter fida args) w := hent
  have HK := hide (fun w' hb => hk xn w' h0 hv hb)
  clear hk hent
  have a_var := as_var_var
  go_enter Tryz.func34, Tryz.ntmps34
  go_wp2_with fail
  refine Calls.mono (HK.out _ (bel3 _ _ _ _)) ?_
  rintro e w1 ⟨v1, rfl, hm1, hb1⟩
  have HM1 := hide hm1
  obtain ⟨fid1, cap1, rfl⟩ := hm1.form
  have HB1 := hide ((bel3 w _ _ _).trans (hb1.mono (by simp; omega)))
  clear hm1 hb1
  go_wp2_with fail
  refine Calls.mono (handValue_any _ _ _ HM1.out) ?_
  rintro e w2 ⟨v2, rfl, hm2, hb2⟩
  have HM2 := hide hm2
  obtain ⟨fid2, cap2, rfl⟩ := hm2.form
  have HB2 := hide hb2
  clear hm2 hb2
  go_wp2_with fail
  go_ret
  exact ⟨_, rfl, HM2.out, HB1.out.trans (HB2.out.mono HB1.out.size)⟩

set_option maxRecDepth 20000 in
set_option maxHeartbeats 2000000 in
theorem handed_num (xn : Int) (n : Int) : HdC (.iface 158 (.agg #[.int .i64 xn])) n (fun _ => valM (fun _ => .cons ⟨2, xn⟩ .nil .nil)) := by
  intro v ρ w hs
  have hfa := hs.form
  clear hs
  have a_var := as_num_var
  have a_lam := as_num_lam
  have a_app := as_num_app
  have a_add := as_num_add
  have a_if := as_num_if
  have a_let := as_num_let
  rcases hfa with rfl | ⟨fida, capa, rfl⟩
  all_goals
    go_enter Tryz.func34, Tryz.ntmps34
    go_wp2_with fail
    refine Calls.mono (handValue_any _ _ _ (h6_mk w.heap.size (.cons ⟨2, xn⟩ .nil .nil) rfl _ (by simp; omega) (box_keep _ (box_at _ _ rfl)))) ?_
    rintro e w2 ⟨v2, rfl, hm2, hb2⟩
    have HM2 := hide hm2
    obtain ⟨fid2, cap2, rfl⟩ := hm2.form
    have HB2 := hide hb2
    clear hm2 hb2
    go_wp2_with fail
    go_ret
    exact ⟨_, rfl, HM2.out, (bel2 w _ _).trans (HB2.out.mono (by simp; omega))⟩

set_option maxRecDepth 20000 in
set_option maxHeartbeats 2000000 in
theorem handed_lam (T : TypeId) (q : Value) (n : Int) (H : (Int → M) → M) (h0 : 0 ≤ n) (hn : n ≤ 1000000) (hp : HdC (.iface T q) (n + 1) H) : HdC (.iface 105 (.agg #[.iface T q])) n (fun ρ => valM (lamM fun b => H (extM ρ b))) := by
  intro v ρ w hs
  have HS := hide hs
  have HP := hide hp
  have hfa := hs.form
  clear hs hp
  have a_var := as_lam_var
  have a_lam := as_lam_lam
  rcases hfa with rfl | ⟨fida, capa, rfl⟩
  all_goals
    go_enter Tryz.func34, Tryz.ntmps34
    go_wp2_with fail
    refine Calls.mono (makeLam_any _ _ _ (h1_bd (w.heap.size + 1 + 1) (w.heap.size + 1) T q _ n ρ H _ h0 hn (by simp) (by simp) (box_at _ _ (by simp)) (box_keep _ (box_at _ _ (by simp))) HP.out (HS.out.below (bel3 _ _ _ _)))) ?_
    rintro e w1 ⟨v1, rfl, hm1, hb1⟩
    have HM1 := hide hm1
    obtain ⟨fid1, cap1, rfl⟩ := hm1.form
    have HB1 := hide ((bel3 w _ _ _).trans (hb1.mono (by simp; omega)))
    clear hm1 hb1
    go_wp2_with fail
    refine Calls.mono (handValue_any _ _ _ HM1.out) ?_
    rintro e w2 ⟨v2, rfl, hm2, hb2⟩
    have HM2 := hide hm2
    obtain ⟨fid2, cap2, rfl⟩ := hm2.form
    have HB2 := hide hb2
    clear hm2 hb2
    go_wp2_with fail
    go_ret
    exact ⟨_, rfl, HM2.out, HB1.out.trans (HB2.out.mono HB1.out.size)⟩

set_option maxRecDepth 20000 in
set_option maxHeartbeats 2000000 in
theorem handed_app (T1 T2' : TypeId) (q1 q2 : Value) (n : Int) (H1 H2 : (Int → M) → M) (hp1 : HdC (.iface T1 q1) n H1) (hp2 : HdC (.iface T2' q2) n H2) : HdC (.iface 109 (.agg #[.iface T1 q1, .iface T2' q2])) n (fun ρ => twoM (H1 ρ) (H2 ρ) (fun a b next => appM (appM a b) next)) := by
  intro v ρ w hs
  have HS := hide hs
  have HP1 := hide hp1
  have HP2 := hide hp2
  have hfa := hs.form
  clear hs hp1 hp2
  have a_var := as_app_var
  have a_lam := as_app_lam
  have a_app := as_app_app
  rcases hfa with rfl | ⟨fida, capa, rfl⟩
  all_goals
    go_enter Tryz.func34, Tryz.ntmps34
    go_wp2_with fail
    refine Calls.mono (handTwo_any T1 T2' q1 q2 _ _ n ρ H1 H2 _ _ HP1.out HP2.out (HS.out.below (bel3 _ _ _ _)) (h2_t3 _)) ?_
    rintro e w2 ⟨v2, rfl, hm2, hb2⟩
    have HM2 := hide hm2
    obtain ⟨fid2, cap2, rfl⟩ := hm2.form
    have HB2 := hide hb2
    clear hm2 hb2
    go_wp2_with fail
    go_ret
    exact ⟨_, rfl, HM2.out, (bel3 w _ _ _).trans (HB2.out.mono (by simp; omega))⟩

set_option maxRecDepth 20000 in
set_option maxHeartbeats 2000000 in
theorem handed_add (T1 T2' : TypeId) (q1 q2 : Value) (n : Int) (H1 H2 : (Int → M) → M) (hp1 : HdC (.iface T1 q1) n H1) (hp2 : HdC (.iface T2' q2) n H2) : HdC (.iface 114 (.agg #[.iface T1 q1, .iface T2' q2])) n (fun ρ => twoM (H1 ρ) (H2 ρ) (fun a b next => appM next (addM a b))) := by
  intro v ρ w hs
  have HS := hide hs
  have HP1 := hide hp1
  have HP2 := hide hp2
  have hfa := hs.form
  clear hs hp1 hp2
  have a_var := as_add_var
  have a_lam := as_add_lam
  have a_app := as_add_app
  have a_add := as_add_add
  rcases hfa with rfl | ⟨fida, capa, rfl⟩
  all_goals
    go_enter Tryz.func34, Tryz.ntmps34
    go_wp2_with fail
    refine Calls.mono (handTwo_any T1 T2' q1 q2 _ _ n ρ H1 H2 _ _ HP1.out HP2.out (HS.out.below (bel3 _ _ _ _)) (h3_t3 _)) ?_
    rintro e w2 ⟨v2, rfl, hm2, hb2⟩
    have HM2 := hide hm2
    obtain ⟨fid2, cap2, rfl⟩ := hm2.form
    have HB2 := hide hb2
    clear hm2 hb2
    go_wp2_with fail
    go_ret
    exact ⟨_, rfl, HM2.out, (bel3 w _ _ _).trans (HB2.out.mono (by simp; omega))⟩

set_option maxRecDepth 20000 in
set_option maxHeartbeats 2000000 in
theorem handed_if (T0 T1 T2' : TypeId) (q0 q1 q2 : Value) (n : Int) (H0 H1 H2 : (Int → M) → M) (hp0 : HdC (.iface T0 q0) n H0) (hp1 : HdC (.iface T1 q1) n H1) (hp2 : HdC (.iface T2' q2) n H2) : HdC (.iface 116 (.agg #[.iface T0 q0, .iface T1 q1, .iface T2' q2])) n (fun ρ => firstM (H0 ρ) (fun a next => ifM a (appM (H1 ρ) next) (appM (H2 ρ) next))) := by
  intro v ρ w hs
  have HS := hide hs
  have HP0 := hide hp0
  have HP1 := hide hp1
  have HP2 := hide hp2
  have hfa := hs.form
  clear hs hp1 hp2 hp0
  have a_var := as_if_var
  have a_lam := as_if_lam
  have a_app := as_if_app
  have a_add := as_if_add
  have a_if := as_if_if
  rcases hfa with rfl | ⟨fida, capa, rfl⟩
  all_goals
    go_enter Tryz.func34, Tryz.ntmps34
    go_wp2_with fail
    refine Calls.mono (handFirst_any T0 q0 _ _ n ρ H0 _ _ HP0.out (HS.out.below (bel3 _ _ _ _)) (h4_t2 (w.heap.size + 1 + 1) (w.heap.size + 1) T1 T2' q1 q2 _ n ρ H1 H2 _ (by simp) (by simp) (box_at_j _ _ (by simp) rfl) (box_at_j _ _ (by simp) rfl) (box_keep _ (box_at _ _ (by simp))) HP1.out HP2.out (HS.out.below (bel3 _ _ _ _)))) ?_
    rintro e w2 ⟨v2, rfl, hm2, hb2⟩
    have HM2 := hide hm2
    obtain ⟨fid2, cap2, rfl⟩ := hm2.form
    have HB2 := hide hb2
    clear hm2 hb2
    go_wp2_with fail
    go_ret
    exact ⟨_, rfl, HM2.out, (bel3 w _ _ _).trans (HB2.out.mono (by simp; omega))⟩

set_option maxRecDepth 20000 in
set_option maxHeartbeats 2000000 in
theorem handed_let (T0 T1 : TypeId) (q0 q1 : Value) (n : Int) (H0 H1 : (Int → M) → M) (h0 : 0 ≤ n) (hn : n ≤ 1000000) (hp0 : HdC (.iface T0 q0) n H0) (hp1 : HdC (.iface T1 q1) (n + 1) H1) : HdC (.iface 119 (.agg #[.iface T0 q0, .iface T1 q1])) n (fun ρ => firstM (H0 ρ) (fun a next => appM (H1 (extM ρ a)) next)) := by
  intro v ρ w hs
  have HS := hide hs
  have HP0 := hide hp0
  have HP1 := hide hp1
  have hfa := hs.form
  clear hs hp1 hp0
  have a_var := as_let_var
  have a_lam := as_let_lam
  have a_app := as_let_app
  have a_add := as_let_add
  have a_if := as_let_if
  have a_let := as_let_let
  rcases hfa with rfl | ⟨fida, capa, rfl⟩
  all_goals
    go_enter Tryz.func34, Tryz.ntmps34
    go_wp2_with fail
    refine Calls.mono (handFirst_any T0 q0 _ _ n ρ H0 _ _ HP0.out (HS.out.below (bel3 _ _ _ _)) (h5_t2 (w.heap.size + 1 + 1) (w.heap.size + 1) T1 q1 _ n ρ H1 _ h0 hn (by simp) (by simp) (box_at_j _ _ (by simp) rfl) (box_keep _ (box_at _ _ (by simp))) HP1.out (HS.out.below (bel3 _ _ _ _)))) ?_
    rintro e w2 ⟨v2, rfl, hm2, hb2⟩
    have HM2 := hide hm2
    obtain ⟨fid2, cap2, rfl⟩ := hm2.form
    have HB2 := hide hb2
    clear hm2 hb2
    go_wp2_with fail
    go_ret
    exact ⟨_, rfl, HM2.out, (bel3 w _ _ _).trans (HB2.out.mono (by simp; omega))⟩

theorem handed_any : ∀ k, PHGoal k := by
  apply F.rec_kids
  intro k ih x d hg hk ho hv hf hd
  have hin := good_ar hg
  simp only [inB, Bool.and_eq_true, decide_eq_true_eq] at hin
  obtain ⟨xk, xn⟩ := x
  simp only at *
  have hx : xk = 1 ∨ xk = 2 ∨ xk = 3 ∨ xk = 4 ∨ xk = 5 ∨ xk = 6 ∨ xk = 7 := by omega
  rcases hx with h | h | h | h | h | h | h
  · subst h
    have h0 : 0 ≤ xn := by unfold goodC at hg; rw [if_pos rfl] at hg; unfold inB at hg; simp at hg; omega
    have e : (fun ρ => kM (.cons ⟨1, xn⟩ k .nil) 0 ρ) = fun ρ => valM (ρ xn) := by funext ρ; rw [kM]; rfl
    rw [e]
    exact handed_var xn d h0 (hv rfl)
  · subst h
    obtain rfl : k = .nil := F.len_0 (by rw [hk]; rfl)
    have e : (fun ρ => kM (.cons ⟨2, xn⟩ .nil .nil) 0 ρ) = fun ρ => valM (fun _ => .cons ⟨2, xn⟩ .nil .nil) := by funext ρ; rw [kM]; rfl
    rw [e]
    exact handed_num xn d
  · subst h
    obtain ⟨y, ky, rfl⟩ := F.len_1 (a := k) (by rw [hk]; rfl)
    have e : (fun ρ => kM (.cons ⟨3, xn⟩ (.cons y ky .nil) .nil) 0 ρ) = fun ρ => valM (lamM fun b => (fun ρ => kM (.cons y ky .nil) 0 ρ) (extM ρ b)) := by funext ρ; rw [kM]; rfl
    rw [e]
    obtain ⟨gy, ly, oy, -⟩ := ho
    obtain ⟨f1, f2, -⟩ := hf
    have hI := ih.1 y (d + 1) gy ly oy f1 f2 (by simp [F.flat] at hd; omega)
    obtain ⟨T, q, hT⟩ := pv_iface y.k y.n (pvs ky)
    rw [hT] at hI
    show HdC (pv 3 xn [pv y.k y.n (pvs ky)]) _ _
    rw [hT]
    exact handed_lam T q d _ (by omega) (by omega) hI
  · subst h
    obtain ⟨y, ky, z, kz, rfl⟩ := two_of (k := k) (by rw [hk]; rfl)
    have e : (fun ρ => kM (.cons ⟨4, xn⟩ (.cons y ky (.cons z kz .nil)) .nil) 0 ρ) = fun ρ => twoM ((fun ρ => kM (.cons y ky .nil) 0 ρ) ρ) ((fun ρ => kM (.cons z kz .nil) 0 ρ) ρ) (fun a b next => appM (appM a b) next) := by funext ρ; rw [kM, kM_0 y, kM_s]; rfl
    rw [e]
    obtain ⟨gy, ly, oy, gz, lz, oz, -⟩ := ho
    obtain ⟨f1, f2, f3, f4, -⟩ := hf
    have hI := ih.1 y d gy ly oy f1 f2 (by simp [F.flat] at hd; omega)
    have hJ := ih.2.1 z d gz lz oz f3 f4 (by simp [F.flat] at hd; omega)
    obtain ⟨T, q, hT⟩ := pv_iface y.k y.n (pvs ky)
    obtain ⟨T2', q2, hT2⟩ := pv_iface z.k z.n (pvs kz)
    rw [hT] at hI
    rw [hT2] at hJ
    show HdC (pv 4 xn [pv y.k y.n (pvs ky), pv z.k z.n (pvs kz)]) _ _
    rw [hT, hT2]
    exact handed_app T T2' q q2 d _ _ hI hJ
  · subst h
    obtain ⟨y, ky, z, kz, rfl⟩ := two_of (k := k) (by rw [hk]; rfl)
    have e : (fun ρ => kM (.cons ⟨5, xn⟩ (.cons y ky (.cons z kz .nil)) .nil) 0 ρ) = fun ρ => twoM ((fun ρ => kM (.cons y ky .nil) 0 ρ) ρ) ((fun ρ => kM (.cons z kz .nil) 0 ρ) ρ) (fun a b next => appM next (addM a b)) := by funext ρ; rw [kM, kM_0 y, kM_s]; rfl
    rw [e]
    obtain ⟨gy, ly, oy, gz, lz, oz, -⟩ := ho
    obtain ⟨f1, f2, f3, f4, -⟩ := hf
    have hI := ih.1 y d gy ly oy f1 f2 (by simp [F.flat] at hd; omega)
    have hJ := ih.2.1 z d gz lz oz f3 f4 (by simp [F.flat] at hd; omega)
    obtain ⟨T, q, hT⟩ := pv_iface y.k y.n (pvs ky)
    obtain ⟨T2', q2, hT2⟩ := pv_iface z.k z.n (pvs kz)
    rw [hT] at hI
    rw [hT2] at hJ
    show HdC (pv 5 xn [pv y.k y.n (pvs ky), pv z.k z.n (pvs kz)]) _ _
    rw [hT, hT2]
    exact handed_add T T2' q q2 d _ _ hI hJ
  · subst h
    obtain ⟨y, ky, z, kz, u, ku, rfl⟩ := three_of (k := k) (by rw [hk]; rfl)
    have e : (fun ρ => kM (.cons ⟨6, xn⟩ (.cons y ky (.cons z kz (.cons u ku .nil))) .nil) 0 ρ) = fun ρ => firstM ((fun ρ => kM (.cons y ky .nil) 0 ρ) ρ) (fun a next => ifM a (appM ((fun ρ => kM (.cons z kz .nil) 0 ρ) ρ) next) (appM ((fun ρ => kM (.cons u ku .nil) 0 ρ) ρ) next)) := by funext ρ; rw [kM, kM_0 y, kM_s, kM_s, kM_s, kM_0 z]; rfl
    rw [e]
    obtain ⟨gy, ly, oy, gz, lz, oz, gu, lu, ou, -⟩ := ho
    obtain ⟨f1, f2, f3, f4, f5, f6, -⟩ := hf
    have hI := ih.1 y d gy ly oy f1 f2 (by simp [F.flat] at hd; omega)
    have hJ := ih.2.1 z d gz lz oz f3 f4 (by simp [F.flat] at hd; omega)
    have hL := ih.2.2.1 u d gu lu ou f5 f6 (by simp [F.flat] at hd; omega)
    obtain ⟨T, q, hT⟩ := pv_iface y.k y.n (pvs ky)
    obtain ⟨T2', q2, hT2⟩ := pv_iface z.k z.n (pvs kz)
    obtain ⟨T3', q3, hT3⟩ := pv_iface u.k u.n (pvs ku)
    rw [hT] at hI
    rw [hT2] at hJ
    rw [hT3] at hL
    show HdC (pv 6 xn [pv y.k y.n (pvs ky), pv z.k z.n (pvs kz), pv u.k u.n (pvs ku)]) _ _
    rw [hT, hT2, hT3]
    exact handed_if T T2' T3' q q2 q3 d _ _ _ hI hJ hL
  · subst h
    obtain ⟨y, ky, z, kz, rfl⟩ := two_of (k := k) (by rw [hk]; rfl)
    have e : (fun ρ => kM (.cons ⟨7, xn⟩ (.cons y ky (.cons z kz .nil)) .nil) 0 ρ) = fun ρ => firstM ((fun ρ => kM (.cons y ky .nil) 0 ρ) ρ) (fun a next => appM ((fun ρ => kM (.cons z kz .nil) 0 ρ) (extM ρ a)) next) := by
      funext ρ
      rw [kM, kM_0 y]
      simp only [kM_s]
      rfl
    rw [e]
    obtain ⟨gy, ly, oy, gz, lz, oz, -⟩ := ho
    obtain ⟨f1, f2, f3, f4, -⟩ := hf
    have hI := ih.1 y d gy ly oy f1 f2 (by simp [F.flat] at hd; omega)
    have hJ := ih.2.1 z (d + 1) gz lz oz f3 f4 (by simp [F.flat] at hd; omega)
    obtain ⟨T, q, hT⟩ := pv_iface y.k y.n (pvs ky)
    obtain ⟨T2', q2, hT2⟩ := pv_iface z.k z.n (pvs kz)
    rw [hT] at hI
    rw [hT2] at hJ
    show HdC (pv 7 xn [pv y.k y.n (pvs ky), pv z.k z.n (pvs kz)]) _ _
    rw [hT, hT2]
    exact handed_let T T2' q q2 d _ _ (by omega) (by omega) hI hJ
end Go.Proofs.YtnmkbpflbfhpnaaGreat.W

/-
  Rows of things of so many cells each, wherever they lie; blocks of one's own that are being filled; rows that bear marks. No program here.
-/
namespace Go.Proofs.YtnmkbpflbfhpnaaGreat.W
open Go.ChangeShapes Go.WideShapes Go.ChangeAt Go.RowKit
set_option linter.unusedVariables false

/-- A row of things of z cells each from a place of a block on. -/
def RAt {α : Type} (z : Nat) (f : α → Nat → Value) (w : World) (b o : Nat) (l : List α) : Prop :=
  b < w.heap.size ∧ ∀ i (h : i < l.length), ∀ r, r < z → w.cell? ⟨b, o + i * z + r, none⟩ = some (f l[i] r)
theorem RAt.below {α : Type} {z : Nat} {f : α → Nat → Value} {w w' : World} {b o : Nat} {l : List α} (h : RAt z f w b o l) (hb : Below w.heap.size w w') : RAt z f w' b o l :=
  ⟨Nat.lt_of_lt_of_le h.1 hb.size, fun i hi r hr => (hb.cell (p := ⟨b, o + i * z + r, none⟩) h.1).trans (h.2 i hi r hr)⟩
/-- A slice's row: none, or a row that lies in a block. -/
def RRow {α : Type} (z : Nat) (f : α → Nat → Value) (w : World) (ad : Option Addr) (l : List α) : Prop := l = [] ∨ ∃ b o, ad = some ⟨b, o, none⟩ ∧ RAt z f w b o l
theorem RRow.nil {α : Type} {z : Nat} {f : α → Nat → Value} {w : World} {ad : Option Addr} : RRow z f w ad [] := .inl rfl
theorem RRow.below {α : Type} {z : Nat} {f : α → Nat → Value} {w w' : World} {ad : Option Addr} {l : List α} (h : RRow z f w ad l) (hb : Below w.heap.size w w') : RRow z f w' ad l := by
  rcases h with h | ⟨b, o, h1, h2⟩
  · exact .inl h
  · exact .inr ⟨b, o, h1, h2.below hb⟩
/-- What a walk wants of one thing of a row. -/
theorem RRow.at {α : Type} {z : Nat} {f : α → Nat → Value} {w w' : World} {ad : Option Addr} {l : List α} (h : RRow z f w ad l) (hb : Below w.heap.size w w') {i : Nat} (hi : i < l.length) :
    ∃ b o, ad = some ⟨b, o, none⟩ ∧ b < w.heap.size ∧ ∀ r, r < z → w'.cell? ⟨b, o + i * z + r, none⟩ = some (f l[i] r) := by
  rcases h with rfl | ⟨b, o, h1, h2⟩
  · simp at hi
  · exact ⟨b, o, h1, h2.1, fun r hr => (h2.below hb).2 i hi r hr⟩
/-- The first j things of a block that is being filled. -/
def RFill {α : Type} (z : Nat) (f : α → Nat → Value) (cur : Array Value) (l : List α) (j : Nat) : Prop :=
  cur.size = l.length * z ∧ ∀ i (h : i < l.length), i < j → ∀ r, r < z → cur[i * z + r]? = some (f l[i] r)
/-- A row that fills a block of its own. -/
def RBlk {α : Type} (T : TypeId) (z : Nat) (f : α → Nat → Value) (w : World) (b : Nat) (l : List α) : Prop := ∃ cur, w.heap[b]? = some (.cells cur T (0, 0)) ∧ RFill z f cur l l.length
theorem RBlk.row {α : Type} {T : TypeId} {z : Nat} {f : α → Nat → Value} {w : World} {b : Nat} {l : List α} (h : RBlk T z f w b l) : RRow z f w (some ⟨b, 0, none⟩) l := by
  obtain ⟨cur, hh, hF⟩ := h
  refine .inr ⟨_, 0, rfl, (Array.getElem?_eq_some_iff.1 hh).1, fun i hi r hr => ?_⟩
  rw [cell_of_blk hh, Nat.zero_add]
  exact hF.2 i hi hi r hr
theorem RBlk.below {α : Type} {T : TypeId} {z : Nat} {f : α → Nat → Value} {w w' : World} {b : Nat} {l : List α} (h : RBlk T z f w b l) (hb : Below w.heap.size w w') : RBlk T z f w' b l := by
  obtain ⟨cur, hh, hF⟩ := h
  exact ⟨cur, (hb.block b (Array.getElem?_eq_some_iff.1 hh).1).trans hh, hF⟩
theorem RBlk.lt {α : Type} {T : TypeId} {z : Nat} {f : α → Nat → Value} {w : World} {b : Nat} {l : List α} (h : RBlk T z f w b l) : b < w.heap.size := by
  obtain ⟨cur, hh, hF⟩ := h
  exact (Array.getElem?_eq_some_iff.1 hh).1
theorem RBlk.grown {α : Type} {T : TypeId} {z : Nat} {f : α → Nat → Value} {w w' : World} {b : Nat} {l : List α} {row : Option Nat} (h : RBlk T z f w b l) (hg : w.grownBy w' row) (hne : row ≠ some b) : RBlk T z f w' b l := by
  obtain ⟨cur, hh, hF⟩ := h
  exact ⟨cur, (hg.block b (Array.getElem?_eq_some_iff.1 hh).1 (fun e => hne e.symm)).trans hh, hF⟩
theorem RBlk.own {α : Type} {T : TypeId} {z : Nat} {f : α → Nat → Value} {w : World} {b base : Nat} {l : List α} (h : RBlk T z f w b l) (hb : base ≤ b) (hl : l.length ≤ 1048576) : ∃ xs, w.ownsRow base T z (.slice (some ⟨b, 0, none⟩) l.length l.length) l.length xs := by
  obtain ⟨cur, hh, hF⟩ := h
  exact ⟨cur.toList.take (l.length * z), by simp [hF.1], .inr ⟨b, l.length, cur, rfl, hb, hh, Nat.le_refl _, by unfold maxLen; omega, hF.1, rfl⟩⟩

/-- The cells of a row of things of z cells each. -/
def rcells {α : Type} (z : Nat) (f : α → Nat → Value) : List α → List Value
  | [] => []
  | x :: l => (List.range z).map (f x) ++ rcells z f l
theorem rcells_len {α : Type} (z : Nat) (f : α → Nat → Value) : ∀ l : List α, (rcells z f l).length = l.length * z
  | [] => by simp [rcells]
  | x :: l => by simp [rcells, rcells_len z f l, Nat.add_mul]; omega
theorem rcells_app {α : Type} (z : Nat) (f : α → Nat → Value) : ∀ a b : List α, rcells z f (a ++ b) = rcells z f a ++ rcells z f b
  | [], b => rfl
  | x :: a, b => by simp [rcells, rcells_app z f a b]
theorem rcells_at {α : Type} (z : Nat) (f : α → Nat → Value) : ∀ (l : List α) (i : Nat) (h : i < l.length) (r : Nat), r < z → (rcells z f l)[i * z + r]? = some (f l[i] r)
  | [], i, h, r, hr => by simp at h
  | x :: l, 0, h, r, hr => by
    simp only [rcells, Nat.zero_mul, Nat.zero_add, List.getElem_cons_zero]
    rw [List.getElem?_append_left (by simpa using hr)]
    simp [hr]
  | x :: l, i + 1, h, r, hr => by
    simp only [rcells, List.getElem_cons_succ]
    rw [List.getElem?_append_right (by simp [Nat.add_mul]; omega)]
    rw [show (i + 1) * z + r - ((List.range z).map (f x)).length = i * z + r by simp [Nat.add_mul]; omega]
    exact rcells_at z f l i (by simpa using h) r hr
/-- A row of one's own as a row. -/
theorem RRow.ofOwn {α : Type} {z : Nat} {f : α → Nat → Value} {w : World} {base : Nat} {T : TypeId} {ad : Option Addr} {n c : Nat} {l : List α} (h : w.ownsRow base T z (.slice ad n c) n (rcells z f l)) (hn : n = l.length) : RRow z f w ad l := by
  subst hn
  rcases h.2 with ⟨h1, h2⟩ | ⟨g, cap, cur, h1, hg, hh, h2, h3, h4, h5⟩
  · left
    exact List.eq_nil_of_length_eq_zero h2
  · simp only [Value.slice.injEq] at h1
    obtain ⟨rfl, -, rfl⟩ := h1
    refine .inr ⟨g, 0, rfl, (Array.getElem?_eq_some_iff.1 hh).1, fun i hi r hr => ?_⟩
    have := rcells_at z f l i hi r hr
    rw [← h5] at this
    rw [cell_of_blk hh, Nat.zero_add]
    have hlt : i * z + r < l.length * z := by
      have : (i + 1) * z ≤ l.length * z := Nat.mul_le_mul_right _ hi
      rw [Nat.add_mul] at this; omega
    rw [List.getElem?_take_of_lt hlt] at this
    simpa using this
theorem own_form {w : World} {base n size : Nat} {e : TypeId} {v : Value} {xs : List Value} (h : w.ownsRow base e size v n xs) : ∃ ad c, v = .slice ad n c := by
  rcases h.2 with ⟨h1, h2⟩ | ⟨g, cap, cur, h1, _⟩
  · exact ⟨_, _, by rw [h1, h2]⟩
  · exact ⟨_, _, h1⟩
theorem own_grown {w w' : World} {base n size : Nat} {e : TypeId} {v : Value} {xs : List Value} {row : Option Nat} (h : w.ownsRow base e size v n xs) (hg : w.grownBy w' row) (hne : ∀ k, v.ownBlock = some k → row ≠ some k) : w'.ownsRow base e size v n xs :=
  h.kept hg (by
    cases hv : v.ownBlock with
    | none => exact .inl rfl
    | some k => exact .inr (fun e => hne k hv e.symm))
theorem own_keep {w w' : World} {base n size : Nat} {e : TypeId} {v : Value} {xs : List Value} (h : w.ownsRow base e size v n xs) (hk : ∀ k, base ≤ k → k < w.heap.size → w'.heap[k]? = w.heap[k]?) : w'.ownsRow base e size v n xs := by
  refine ⟨h.1, ?_⟩
  rcases h.2 with h2 | ⟨g, cap, cur, h1, hg, hh, h3⟩
  · exact .inl h2
  · exact .inr ⟨g, cap, cur, h1, hg, (hk g hg (Array.getElem?_eq_some_iff.1 hh).1).trans hh, h3⟩
theorem own_same {w w' : World} {base n size : Nat} {e : TypeId} {v : Value} {xs : List Value} (h : w.ownsRow base e size v n xs) (hk : ∀ k, v.ownBlock = some k → base ≤ k → k < w.heap.size → w'.heap[k]? = w.heap[k]?) : w'.ownsRow base e size v n xs := by
  refine ⟨h.1, ?_⟩
  rcases h.2 with h2 | ⟨g, cap, cur, h1, hg, hh, h3⟩
  · exact .inl h2
  · exact .inr ⟨g, cap, cur, h1, hg, (hk g (by rw [h1]; rfl) hg (Array.getElem?_eq_some_iff.1 hh).1).trans hh, h3⟩
theorem own_lower {w : World} {base base' n size : Nat} {e : TypeId} {v : Value} {xs : List Value} (h : w.ownsRow base e size v n xs) (hb : base' ≤ base) : w.ownsRow base' e size v n xs := by
  refine ⟨h.1, ?_⟩
  rcases h.2 with h2 | ⟨g, cap, cur, h1, hg, h3⟩
  · exact .inl h2
  · exact .inr ⟨g, cap, cur, h1, Nat.le_trans hb hg, h3⟩
theorem RRow.grown {α : Type} {z : Nat} {f : α → Nat → Value} {w w' : World} {ad : Option Addr} {l : List α} {row : Option Nat} (h : RRow z f w ad l) (hg : w.grownBy w' row) (hne : ∀ b o, ad = some ⟨b, o, none⟩ → row ≠ some b) : RRow z f w' ad l := by
  rcases h with h | ⟨b, o, h1, h2⟩
  · exact .inl h
  · refine .inr ⟨b, o, h1, Nat.lt_of_lt_of_le h2.1 hg.size, fun i hi r hr => ?_⟩
    exact (World.cell?_of_block (a := ⟨b, o + i * z + r, none⟩) (hg.block b h2.1 (fun e => hne b o h1 e.symm))).trans (h2.2 i hi r hr)

/-- A block that holds just these cells. -/
def Bx (w : World) (b : Nat) (cs : Array Value) (T : TypeId) : Prop := w.heap[b]? = some (.cells cs T (0, 0))
theorem Bx.c {w : World} {b : Nat} {cs : Array Value} {T : TypeId} (h : Bx w b cs T) : ∀ o, w.cell? ⟨b, o, none⟩ = cs[o]? := fun o => cell_of_blk h o
theorem Bx.f {w : World} {b : Nat} {cs : Array Value} {T : TypeId} (h : Bx w b cs T) : ∀ o, w.frozen? ⟨b, o, none⟩ = false := fun o => unfrozen_of_blk h o
theorem Bx.lt {w : World} {b : Nat} {cs : Array Value} {T : TypeId} (h : Bx w b cs T) : b < w.heap.size := (Array.getElem?_eq_some_iff.1 h).1
theorem Bx.below {w w' : World} {b B : Nat} {cs : Array Value} {T : TypeId} (h : Bx w b cs T) (hb : Below B w w') (hB : b < B) : Bx w' b cs T := (hb.block b hB).trans h
theorem Bx.new (w : World) (cs : Array Value) (T : TypeId) : Bx (w.alloc (.cells cs T)) w.heap.size cs T := heap_alloc_new w _
theorem Bx.alloc {w : World} {b : Nat} {cs : Array Value} {T : TypeId} (h : Bx w b cs T) (o : Obj) : Bx (w.alloc o) b cs T := (Below.heap_alloc w o b h.lt).trans h
theorem Bx.set {w : World} {b : Nat} {cs : Array Value} {T : TypeId} (h : Bx w b cs T) (i : Nat) (v : Value) : Bx (w.setCell ⟨b, i, none⟩ v) b (cs.setIfInBounds i v) T := blk_setCell h v
theorem Bx.setne {w : World} {b : Nat} {cs : Array Value} {T : TypeId} (h : Bx w b cs T) (b' i : Nat) (v : Value) (hn : b ≠ b') : Bx (w.setCell ⟨b', i, none⟩ v) b cs T := (Below.heap_setCell _ _ _ _ hn).trans h
theorem Bx.drew {w : World} {b : Nat} {cs : Array Value} {T : TypeId} (h : Bx w b cs T) : Bx w.drew b cs T := h
theorem RBlk.setne {α : Type} {T : TypeId} {z : Nat} {f : α → Nat → Value} {w : World} {b : Nat} {l : List α} (h : RBlk T z f w b l) (b' i : Nat) (v : Value) (hn : b ≠ b') : RBlk T z f (w.setCell ⟨b', i, none⟩ v) b l := by
  obtain ⟨cur, hh, hF⟩ := h
  exact ⟨cur, (Below.heap_setCell _ _ _ _ hn).trans hh, hF⟩

/-- A mark of a truth. -/
def mB (k : Nat) : Value := .bool (decide ((k : Int) % 3 = 0))
def mI (k : Nat) : Value := .int .i64 (k : Int)
/-- The row v of n things of z cells each bears the marks from k0 on. -/
def RMk (mv : Nat → Nat → Value) (w : World) (v : Value) (T : TypeId) (z k0 n : Nat) : Prop :=
  ∃ a c, v = .slice a n c ∧ (n = 0 ∨ ∃ g cur, a = some ⟨g, 0, none⟩ ∧ w.heap[g]? = some (.cells cur T (0, 0)) ∧ n * z ≤ cur.size ∧ ∀ i, i < n → ∀ r, r < z → cur[i * z + r]? = some (mv r (k0 + i * z + r)))
theorem RMk.below {mv : Nat → Nat → Value} {w w' : World} {v : Value} {T : TypeId} {z k0 n : Nat} (h : RMk mv w v T z k0 n) (hb : Below w.heap.size w w') : RMk mv w' v T z k0 n := by
  obtain ⟨a, c, h1, h2 | ⟨g, cur, h3, h4, h5⟩⟩ := h
  · exact ⟨a, c, h1, .inl h2⟩
  · exact ⟨a, c, h1, .inr ⟨g, cur, h3, (hb.block g (Array.getElem?_eq_some_iff.1 h4).1).trans h4, h5⟩⟩
theorem RMk.grown {mv : Nat → Nat → Value} {w w' : World} {v : Value} {T : TypeId} {z k0 n : Nat} {row : Option Nat} (h : RMk mv w v T z k0 n) (hg : w.grownBy w' row) (hne : ∀ k, v.ownBlock = some k → row ≠ some k) : RMk mv w' v T z k0 n := by
  obtain ⟨a, c, h1, h2 | ⟨g, cur, h3, h4, h5⟩⟩ := h
  · exact ⟨a, c, h1, .inl h2⟩
  · exact ⟨a, c, h1, .inr ⟨g, cur, h3, (hg.block g (Array.getElem?_eq_some_iff.1 h4).1 (fun e => hne g (by rw [h1, h3]; rfl) e.symm)).trans h4, h5⟩⟩
end Go.Proofs.YtnmkbpflbfhpnaaGreat.W

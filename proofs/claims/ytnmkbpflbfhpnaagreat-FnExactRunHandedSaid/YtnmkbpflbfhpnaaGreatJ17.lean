/-
  Some texts of this proof in one: MaN, HnJ, HnX.
-/
import Derived.Test.YtnmkbpflbfhpnaaGreatJ14
import Derived.Test.YtnmkbpflbfhpnaaGreatJ15
import Derived.Test.YtnmkbpflbfhpnaaGreatJ16
import Derived.Test.YtnmkbpflbfhpnaaGreatJ12
import Derived.Test.YtnmkbpflbfhpnaaGreatJ05
import Derived.Test.YtnmkbpflbfhpnaaGreatJ06
/-
  Whether a row of cells is a good term without free variables: the contract of isClosed. Conditions: at most 1048576 cells.
-/
namespace Go.Proofs.YtnmkbpflbfhpnaaGreat.W
open Go.ChangeShapes Go.WideShapes Go.ChangeAt Go.RowKit
set_option linter.unusedVariables false

/-- Is it a good term without free variables? -/
def closed (l : List Cc) : Bool := (closedT l).isSome
set_option maxHeartbeats 1000000 in
theorem isClosed_any (ad : Option Addr) (c : Nat) (l : List Cc) (w : World) (hl : l.length ≤ 1048576) (hcap : l.length ≤ c) (h : CRow w ad l) :
    Calls Tryz.prog 32 #[.slice ad l.length c] w fun e w' => e = .returned (.bool (closed l)) ∧ Below w.heap.size w w' := by
  cases ht : treeT l with
  | none =>
    have HC := hide (implFreeIn_none ad c l w hl h ht)
    have hcl : closed l = false := by unfold closed closedT; rw [ht]; rfl
    rw [hcl]
    clear h ht hcl
    go_enter Tryz.func32, Tryz.ntmps32
    go_wp2_with fail
    refine HC.out.mono ?_
    rintro e w1 ⟨rfl, hb1⟩
    go_wp2_with fail
    go_ret
    exact ⟨rfl, hb1⟩
  | some a =>
    obtain ⟨t1, t2, t3, t4, -⟩ := treeT_flat ht
    obtain ⟨x, k, rfl⟩ := F.len_1 t3
    have HC := hide (implFreeIn_some ad c l _ w hl hcap h ht x k rfl)
    rw [marked_bits x k t2] at HC
    have hcl : closed l = decide ((fr1 0 x k []).length = 0) := by
      unfold closed closedT
      rw [ht]
      dsimp only
      by_cases hf : fr1 0 x k [] = []
      · rw [if_pos (show freT (.cons x k .nil) = [] from hf), hf]; rfl
      · rw [if_neg (show ¬ freT (.cons x k .nil) = [] from hf), decide_eq_false (fun e => hf (List.eq_nil_of_length_eq_zero e))]; rfl
    rw [hcl]
    obtain ⟨NL, hNL⟩ : ∃ NL, NL = (fr1 0 x k []).length := ⟨_, rfl⟩
    rw [← hNL] at HC ⊢
    clear h ht hcl t1 t2 t3 t4 hNL
    by_cases h0 : NL = 0
    · subst h0
      go_enter Tryz.func32, Tryz.ntmps32
      go_wp2_with fail
      refine HC.out.mono ?_
      rintro e w1 ⟨s', rfl, ho, hb1⟩
      obtain ⟨sa, sc, rfl⟩ := own_form ho
      clear ho
      go_wp2_with fail
      go_ret
      exact ⟨rfl, hb1⟩
    · have h0' : ¬ (NL : Int) = 0 := by omega
      rw [decide_eq_false h0]
      go_enter Tryz.func32, Tryz.ntmps32
      go_wp2_with fail
      refine HC.out.mono ?_
      rintro e w1 ⟨s', rfl, ho, hb1⟩
      obtain ⟨sa, sc, rfl⟩ := own_form ho
      clear ho
      go_wp2_with fail
      go_ret
      exact ⟨ret_bool (by simpa using h0'), hb1⟩
end Go.Proofs.YtnmkbpflbfhpnaaGreat.W

/-
  HandOn and HandedSize of the program. Conditions: at most 1048576 cells.
-/
namespace Go.Proofs.YtnmkbpflbfhpnaaGreat.W
open Go.ChangeShapes Go.WideShapes Go.ChangeAt Go.RowKit
set_option linter.unusedVariables false

/-- What is made of a row of cells, where it is a closed term of at most 40. -/
def hoR (l : List Cc) : Option F := match closedT l with | some a => if l.length ≤ 40 then some (hn a) else none | none => none
def hoL (l : List Cc) : List Cc := match hoR l with | some b => gd b.flat | none => []
def hoB (l : List Cc) : Bool := match hoR l with | some b => goodT b.flat | none => false
theorem hoR_some {l : List Cc} {b : F} (h : hoR l = some b) : ∃ a, closedT l = some a ∧ l.length ≤ 40 ∧ b = hn a := by
  unfold hoR at h
  cases hc : closedT l with
  | none => rw [hc] at h; cases h
  | some a =>
    rw [hc] at h
    simp only at h
    by_cases h4 : l.length ≤ 40
    · rw [if_pos h4] at h
      simp only [Option.some.injEq] at h
      exact ⟨a, rfl, h4, h.symm⟩
    · rw [if_neg h4] at h; cases h
theorem hoL_len (l : List Cc) : (hoL l).length ≤ 600 := by
  unfold hoL
  split
  · rename_i b _
    unfold gd
    split
    · rename_i h
      unfold goodT at h
      cases ht : treeT b.flat with
      | none => rw [ht] at h; cases h
      | some c => exact (treeT_flat ht).2.2.2.1
    · simp
  · simp

set_option maxRecDepth 20000 in
set_option maxHeartbeats 2000000 in
theorem implHandOn_any (ad : Option Addr) (c : Nat) (l : List Cc) (w : World) (hl : l.length ≤ 1048576) (hc : l.length ≤ c) (h : CRow w ad l) :
    Calls Tryz.prog 14 #[.slice ad l.length c] w fun e w' => ∃ s', e = .returned (.tuple #[s', .bool (hoB l)]) ∧ w'.ownsRow w.heap.size 46 2 s' (hoL l).length (cv (hoL l)) ∧ Below w.heap.size w w' := by
  have HC := hide (isClosed_any ad c l w hl hc h)
  have HR := hide h
  clear h
  cases hR : hoR l with
  | none =>
    have e1 : hoL l = [] := by unfold hoL; rw [hR]
    have e2 : hoB l = false := by unfold hoB; rw [hR]
    rw [e1, e2]
    clear e1 e2
    by_cases hcl : closed l = true
    · have h4 : (40 : Int) < (l.length : Int) := by
        unfold closed at hcl
        unfold hoR at hR
        cases hc : closedT l with
        | none => rw [hc] at hcl; cases hcl
        | some a =>
          rw [hc] at hR
          simp only at hR
          by_cases h4 : l.length ≤ 40
          · rw [if_pos h4] at hR; cases hR
          · omega
      rw [hcl] at HC
      clear hcl hR
      go_enter Tryz.func14, Tryz.ntmps14
      go_wp2_with fail
      refine Calls.mono HC.out ?_
      rintro e w1 ⟨rfl, hb1⟩
      go_wp2_with fail
      exact bodyPost_ret (v := .tuple #[.slice none 0 0, .bool false]) (by simp [results, Tryz.results14, go_sem]) rfl ⟨_, rfl, World.ownsRow_nil _ _ _ _, hb1⟩
    · rw [Bool.not_eq_true] at hcl
      rw [hcl] at HC
      clear hcl hR
      go_enter Tryz.func14, Tryz.ntmps14
      go_wp2_with fail
      refine Calls.mono HC.out ?_
      rintro e w1 ⟨rfl, hb1⟩
      go_wp2_with fail
      exact bodyPost_ret (v := .tuple #[.slice none 0 0, .bool false]) (by simp [results, Tryz.results14, go_sem]) rfl ⟨_, rfl, World.ownsRow_nil _ _ _ _, hb1⟩
  | some b =>
    have e1 : hoL l = gd b.flat := by unfold hoL; rw [hR]
    have e2 : hoB l = goodT b.flat := by unfold hoB; rw [hR]
    rw [e1, e2]
    clear e1 e2
    obtain ⟨a, hcl, h40, rfl⟩ := hoR_some hR
    have h4 : ¬ (40 : Int) < (l.length : Int) := by omega
    have hcb : closed l = true := by unfold closed; rw [hcl]; rfl
    rw [hcb] at HC
    obtain ⟨hCl, hT, -⟩ := closedT_some hcl
    obtain ⟨f1, f2, f3, -, f5⟩ := hCl
    subst f1
    have hfb := fbd_of a 0 0 0 f5
    have hPO := hide (fun (w' : World) (hb : Below w.heap.size w w') => partOf_any a ad c w' f2 f3 hl hc (HR.out.below hb))
    have hkt := kM_top f2 f3 (by omega)
    have hsz := hn_size a f2
    have hfit := V.F.okw_fit (okv_okw (B := 100 + 2 * a.flat.length) (by omega) (hn_okv a f2))
    have hln : (hn a).len = 1 := by rw [hn_len, f3]
    have HG := hide (fun (w' : World) => goodCells_any (pvT (hn a)) (hn a).flat (mcT hfit hln) (by omega) w')
    have HH : Hid (∀ w' : World, Calls Tryz.prog 34 #[pvT a, .nilFunc] w' fun e w'' => ∃ v', e = .returned v' ∧ Mk w'' v' (kM a 0 (fun n u => varT (u + n))) ∧ Below w'.heap.size w' w'') := hide (fun w' => by
      obtain ⟨x, k, rfl⟩ := F.len_1 f3
      exact handed_any k x 0 f2.1 f2.2.1 f2.2.2.1 (fun e => by have := hfb.1 e; simpa [binds_0] using this) (by have := hfb.2.1; simpa [binds_0] using this) (by simp [F.flat] at h40; omega) .nilFunc _ w' (.inl ⟨rfl, rfl⟩))
    obtain ⟨T, q, hTq⟩ := pvT_iface f3
    obtain ⟨T2', q2, hTq2⟩ := pvT_iface hln
    rw [hTq] at hPO HH
    rw [hTq2] at HG
    have HK := hide hkt
    have HTq := hide hTq2
    clear hR hcl hT f2 f3 f5 hfb hkt hsz hfit hln hTq hTq2 hcb h40 HR
    obtain ⟨L, hL⟩ : ∃ L, L = a.flat.length := ⟨_, rfl⟩
    rw [← hL] at HC hPO h4 ⊢
    clear hL hl hc
    go_enter Tryz.func14, Tryz.ntmps14
    go_wp2_with fail
    refine Calls.mono HC.out ?_
    rintro e w1 ⟨rfl, hb1⟩
    have HB1 := hide hb1
    clear hb1 HC
    go_wp2_with fail
    refine Calls.mono (hPO.out _ HB1.out) ?_
    rintro e w2 ⟨rfl, hb2⟩
    have HB2 := hide (HB1.out.trans (hb2.mono HB1.out.size))
    clear hb2
    go_wp2_with fail
    refine Calls.mono (HH.out _) ?_
    rintro e w3 ⟨v3, rfl, ⟨fid, cap, rfl, hent, hlen, hk⟩, hb3⟩
    have ent : ∀ args w, (callFunc fid args).run Tryz.prog w = .ok (.enter fid args) w := hent
    have HB3 := hide (HB2.out.trans (hb3.mono HB2.out.size))
    have HKc := hide (hk 0 w3 (Below.refl _ _))
    rw [HK.out, HTq.out] at HKc
    clear hk hb3 hent hlen
    go_wp2_with fail
    refine Calls.mono HKc.out ?_
    rintro e w4 ⟨rfl, hb4⟩
    have HB4 := hide (HB3.out.trans (hb4.mono HB3.out.size))
    clear hb4 HKc
    go_wp2_with fail
    refine Calls.mono (HG.out _) ?_
    rintro e w5 ⟨s', rfl, hown, hb5⟩
    have HO := hide (own_lower hown HB4.out.size)
    have HB5 := hide (HB4.out.trans (hb5.mono HB4.out.size))
    obtain ⟨sa, sc, rfl⟩ := own_form hown
    obtain ⟨NL, hNL⟩ : ∃ NL, NL = (gd (hn a).flat).length := ⟨_, rfl⟩
    rw [← hNL] at HO ⊢
    obtain ⟨GB, hGB⟩ : ∃ GB, GB = goodT (hn a).flat := ⟨_, rfl⟩
    rw [← hGB]
    have HNL := hide hNL
    have HGB := hide hGB
    clear hb5 hown hNL hGB
    go_wp2_with fail
    exact bodyPost_ret (v := .tuple #[.slice sa NL sc, .bool GB]) (by simp [results, Tryz.results14, go_sem]) rfl ⟨_, by rw [← HGB.out], by rw [← HNL.out]; exact HO.out, HB5.out⟩
end Go.Proofs.YtnmkbpflbfhpnaaGreat.W

/-
  The specification's terms that hand on: contracts of l7Hand and l7Of. Conditions: as the theorems state.
-/
namespace Go.Proofs.YtnmkbpflbfhpnaaGreat.W
open Go.ChangeShapes Go.WideShapes Go.ChangeAt Go.RowKit
set_option linter.unusedVariables false

theorem hn_one (x : Cc) (k : F) : hn (.cons x k .nil) = hn1 x k (hn k) := by rw [hn, show hn .nil = .nil from rfl, F.app_nil]
/-- What is made of a part is small, and its variables are near. -/
theorem hn1_small {x : Cc} {k : F} (hg : goodC x = true) (hk : k.len = ar x.k) (ho : k.ok) (hl : k.flat.length ≤ 600) : (hn1 x k (hn k)).okw ∧ (hn1 x k (hn k)).flat.length ≤ 1000000 ∧ (hn1 x k (hn k)).len = 1 := by
  have h : (F.cons x k .nil).ok := ⟨hg, hk, ho, trivial⟩
  have e : (F.cons x k .nil).flat.length = k.flat.length + 1 := by simp [F.flat]
  have h1 := hn_okv _ h
  have h2 := hn_size _ h
  rw [hn_one] at h1 h2
  exact ⟨okv_okw (by omega) h1, by omega, hn1_len _ _ _⟩

def L7HGoal (k : F) : Prop := ∀ x : Cc, goodC x = true → k.len = ar x.k → k.ok → k.flat.length ≤ 600 → HHd x k (hn1 x k (hn k))
theorem l7Hand_any : ∀ k, L7HGoal k := by
  apply F.rec_kids
  intro k ih x hg hk ho hl P s w hT
  have hin := good_ar hg
  simp only [inB, Bool.and_eq_true, decide_eq_true_eq] at hin
  obtain ⟨xk, xn⟩ := x
  simp only at *
  have hx : xk = 1 ∨ xk = 2 ∨ xk = 3 ∨ xk = 4 ∨ xk = 5 ∨ xk = 6 ∨ xk = 7 := by omega
  rcases hx with h | h | h | h | h | h | h
  · subst h
    obtain rfl : k = .nil := F.len_0 (by rw [hk]; rfl)
    have h0 : 0 ≤ xn ∧ xn ≤ 99 := by unfold goodC at hg; rw [if_pos rfl] at hg; unfold inB at hg; simp at hg; omega
    exact hand_var xn s P w h0.1 (by omega) hT
  · subst h
    obtain rfl : k = .nil := F.len_0 (by rw [hk]; rfl)
    exact hand_num xn s P w hT
  · subst h
    obtain ⟨y, ky, rfl⟩ := F.len_1 (a := k) (by rw [hk]; rfl)
    obtain ⟨gy, ly, oy, -⟩ := ho
    have hy : ky.flat.length ≤ 600 := by simp [F.flat] at hl; omega
    obtain ⟨s1, s2, s3⟩ := hn1_small gy ly oy hy
    have e : hn1 ⟨3, xn⟩ (.cons y ky .nil) (hn (.cons y ky .nil)) = lamT (appT (varT 0) (lamT (sh 1 1 (hn1 y ky (hn ky))))) := by
      rw [hn1, if_neg (by simp), if_pos rfl, nt_hn_0]
    rw [e]
    exact hand_lam xn y ky _ s P w (ih.1 y gy ly oy hy) s1 s2 s3 hT
  · subst h
    obtain ⟨y, ky, z, kz, rfl⟩ := two_of (k := k) (by rw [hk]; rfl)
    obtain ⟨gy, ly, oy, gz, lz, oz, -⟩ := ho
    have hy : ky.flat.length ≤ 600 := by simp [F.flat] at hl; omega
    have hz : kz.flat.length ≤ 600 := by simp [F.flat] at hl; omega
    obtain ⟨s1, s2, s3⟩ := hn1_small gy ly oy hy
    obtain ⟨t1, t2, t3⟩ := hn1_small gz lz oz hz
    have e : hn1 ⟨4, xn⟩ (.cons y ky (.cons z kz .nil)) (hn (.cons y ky (.cons z kz .nil))) = lamT (appT (sh 1 0 (hn1 y ky (hn ky))) (lamT (appT (sh 2 0 (hn1 z kz (hn kz))) (lamT (appT (appT (varT 1) (varT 0)) (varT 2)))))) := by
      rw [hn1, if_neg (by simp), if_neg (by simp), if_pos rfl, two, nt_hn_0, nt_hn_s, nt_hn_0]
    rw [e]
    exact hand_app xn y ky _ z kz _ s P w (ih.1 y gy ly oy hy) s1 s2 s3 (ih.2.1 z gz lz oz hz) t1 t2 t3 hT
  · subst h
    obtain ⟨y, ky, z, kz, rfl⟩ := two_of (k := k) (by rw [hk]; rfl)
    obtain ⟨gy, ly, oy, gz, lz, oz, -⟩ := ho
    have hy : ky.flat.length ≤ 600 := by simp [F.flat] at hl; omega
    have hz : kz.flat.length ≤ 600 := by simp [F.flat] at hl; omega
    obtain ⟨s1, s2, s3⟩ := hn1_small gy ly oy hy
    obtain ⟨t1, t2, t3⟩ := hn1_small gz lz oz hz
    have e : hn1 ⟨5, xn⟩ (.cons y ky (.cons z kz .nil)) (hn (.cons y ky (.cons z kz .nil))) = lamT (appT (sh 1 0 (hn1 y ky (hn ky))) (lamT (appT (sh 2 0 (hn1 z kz (hn kz))) (lamT (appT (varT 2) (addT (varT 1) (varT 0))))))) := by
      rw [hn1, if_neg (by simp), if_neg (by simp), if_neg (by simp), if_pos rfl, two, nt_hn_0, nt_hn_s, nt_hn_0]
    rw [e]
    exact hand_add xn y ky _ z kz _ s P w (ih.1 y gy ly oy hy) s1 s2 s3 (ih.2.1 z gz lz oz hz) t1 t2 t3 hT
  · subst h
    obtain ⟨y, ky, z, kz, u, ku, rfl⟩ := three_of (k := k) (by rw [hk]; rfl)
    obtain ⟨gy, ly, oy, gz, lz, oz, gu, lu, ou, -⟩ := ho
    have hy : ky.flat.length ≤ 600 := by simp [F.flat] at hl; omega
    have hz : kz.flat.length ≤ 600 := by simp [F.flat] at hl; omega
    have hu : ku.flat.length ≤ 600 := by simp [F.flat] at hl; omega
    obtain ⟨s1, s2, s3⟩ := hn1_small gy ly oy hy
    obtain ⟨t1, t2, t3⟩ := hn1_small gz lz oz hz
    obtain ⟨r1, r2, r3⟩ := hn1_small gu lu ou hu
    have e : hn1 ⟨6, xn⟩ (.cons y ky (.cons z kz (.cons u ku .nil))) (hn (.cons y ky (.cons z kz (.cons u ku .nil)))) = lamT (appT (sh 1 0 (hn1 y ky (hn ky))) (lamT (ifT (varT 0) (appT (sh 2 0 (hn1 z kz (hn kz))) (varT 1)) (appT (sh 2 0 (hn1 u ku (hn ku))) (varT 1))))) := by
      rw [hn1, if_neg (by simp), if_neg (by simp), if_neg (by simp), if_neg (by simp), if_pos rfl, nt_hn_0, nt_hn_s, nt_hn_0, nt_hn_s, nt_hn_s, nt_hn_0]
    rw [e]
    exact hand_if xn y ky _ z kz _ u ku _ s P w (ih.1 y gy ly oy hy) s1 s2 s3 (ih.2.1 z gz lz oz hz) t1 t2 t3 (ih.2.2.1 u gu lu ou hu) r1 r2 r3 hT
  · subst h
    obtain ⟨y, ky, z, kz, rfl⟩ := two_of (k := k) (by rw [hk]; rfl)
    obtain ⟨gy, ly, oy, gz, lz, oz, -⟩ := ho
    have hy : ky.flat.length ≤ 600 := by simp [F.flat] at hl; omega
    have hz : kz.flat.length ≤ 600 := by simp [F.flat] at hl; omega
    obtain ⟨s1, s2, s3⟩ := hn1_small gy ly oy hy
    obtain ⟨t1, t2, t3⟩ := hn1_small gz lz oz hz
    have e : hn1 ⟨7, xn⟩ (.cons y ky (.cons z kz .nil)) (hn (.cons y ky (.cons z kz .nil))) = lamT (appT (sh 1 0 (hn1 y ky (hn ky))) (lamT (appT (sh 1 1 (hn1 z kz (hn kz))) (varT 1)))) := by
      rw [hn1, if_neg (by simp), if_neg (by simp), if_neg (by simp), if_neg (by simp), if_neg (by simp), if_pos rfl, nt_hn_0, nt_hn_s, nt_hn_0]
    rw [e]
    exact hand_let xn y ky _ z kz _ s P w (ih.1 y gy ly oy hy) s1 s2 s3 (ih.2.1 z gz lz oz hz) t1 t2 t3 hT

/-- What l7Of answers. -/
def OfV (w : World) (l : List Cc) (e : Ending) : Prop :=
  if hoB l = true then ∃ b v, hoR l = some b ∧ e = .returned (.tuple #[v, .bool true]) ∧ TV w AnyQ b v
  else e = .returned (.tuple #[.agg #[.int .i64 0, .int .i64 0, .slice none 0 0], .bool false])

set_option maxRecDepth 20000 in
set_option maxHeartbeats 4000000 in
theorem l7Of_any (ad : Option Addr) (c : Nat) (l : List Cc) (w : World) (hl : l.length ≤ 1048576) (h : CRow w ad l) :
    Calls Tryz.prog 16 #[.slice ad l.length c] w fun e w' => OfV w' l e ∧ Below w.heap.size w w' := by
  have hB0 : Below w.heap.size w (w.alloc (.cells #[.int .i64 0, .int .i64 0, .slice none 0 0] 50)) := bel1 _ _
  have HC := hide (l3Tree_any ad c l _ hl (h.below hB0))
  clear h
  cases ht : treeT l with
  | none =>
    have hb : hoB l = false := by unfold hoB hoR closedT; rw [ht]
    unfold OfV
    rw [hb]
    rw [ht] at HC
    clear ht hb
    go_enter Tryz.func16, Tryz.ntmps16
    go_wp2_with fail
    refine Calls.mono HC.out ?_
    rintro e w1 ⟨hb1, k, n, sad, sn, sc, rfl⟩
    have h0 := (hb1.block w.heap.size (by simp)).trans (heap_alloc_new _ _)
    have HB1 := hide (hB0.trans (hb1.mono hB0.size))
    have hlt := (Array.getElem?_eq_some_iff.1 h0).1
    have z0 : w1.cell? ⟨w.heap.size, 0, none⟩ = some (.int .i64 0) := (cell_of_blk h0 0).trans rfl
    have z1 : w1.cell? ⟨w.heap.size, 1, none⟩ = some (.int .i64 0) := (cell_of_blk h0 1).trans rfl
    have z2 : w1.cell? ⟨w.heap.size, 2, none⟩ = some (.slice none 0 0) := (cell_of_blk h0 2).trans rfl
    have fz := unfrozen_of_blk h0
    clear hb1 h0 HC
    go_wp2_with fail
    exact bodyPost_ret (v := .tuple #[.agg #[.int .i64 0, .int .i64 0, .slice none 0 0], .bool false]) (by simp [results, Tryz.results16, go_sem, *]) rfl ⟨rfl, (below_set3 HB1.out (Nat.le_refl _) _ _ _).alloc (below_set3 HB1.out (Nat.le_refl _) (.int .i64 0) (.int .i64 0) (.slice none 0 0)).size _⟩
  | some a =>
    rw [ht] at HC
    obtain ⟨t1, t2, t3, t4, -⟩ := treeT_flat ht
    obtain ⟨x, k, rfl⟩ := F.len_1 t3
    obtain ⟨g1, l1, o1, -⟩ := ok_cons t2
    have hn := good_n g1
    have hkf : k.flat.length ≤ 600 := by rw [t1] at t4; simp [F.flat] at t4; omega
    by_cases h40 : l.length ≤ 40
    · have h40' : ¬ (40 : Int) < (l.length : Int) := by omega
      by_cases hfr : fr1 0 x k [] = []
      · have hR : hoR l = some (hn1 x k (W.hn k)) := by
          unfold hoR closedT
          rw [ht]
          simp only
          rw [if_pos (show freT (.cons x k .nil) = [] from hfr)]
          simp only
          rw [if_pos h40, hn_one]
        have hB : hoB l = goodT (hn1 x k (W.hn k)).flat := by unfold hoB; rw [hR]
        obtain ⟨q1, q2, q3⟩ := hn1_small g1 l1 o1 hkf
        have HHn := hide (l7Hand_any k x g1 l1 o1 hkf)
        unfold HHd at HHn
        have HFt := hide (V.F.okw_fit q1)
        have HR := hide hR
        have HBo := hide hB
        have HLb := hide q2
        have HF := hide (fun (s : Value) (P : Nat → Prop) => l3Free_any k x s (.slice none 0 0) 0 [] P)
        have HO := hide o1
        have HL := hide l1
        rw [hfr] at HF
        rw [show ((0 : Nat) : Int) = 0 from rfl] at HF
        clear hR hB q1 q2 q3 hfr ht t1 t2 t3 t4 g1 o1 l1
        obtain ⟨b, hbq⟩ : ∃ b, b = hn1 x k (W.hn k) := ⟨_, rfl⟩
        rw [← hbq] at HHn HFt HR HBo HLb
        unfold OfV
        obtain ⟨G, hG⟩ : ∃ G, G = hoB l := ⟨_, rfl⟩
        rw [← hG] at HBo ⊢
        clear hbq hG
        go_enter Tryz.func16, Tryz.ntmps16
        go_wp2_with fail
        refine Calls.mono HC.out ?_
        rintro e w1 ⟨hb1, ho⟩
        obtain ⟨x', k', s, hxe, rfl, hK⟩ := ho
        simp only [F.cons.injEq, and_true] at hxe
        obtain ⟨rfl, rfl⟩ := hxe
        have HK := hide hK
        obtain ⟨sad, sc, rfl⟩ := hK.form
        obtain ⟨KL, hKL⟩ : ∃ KL, KL = k.len := ⟨_, rfl⟩
        rw [← hKL] at HK ⊢
        have H1 := hide ((hb1.block w.heap.size (by simp)).trans (heap_alloc_new _ _))
        have HB1 := hide (hB0.trans (hb1.mono hB0.size))
        have hlt := (Array.getElem?_eq_some_iff.1 H1.out).1
        clear hb1 HC hK hKL
        go_wp2_with fail
        refine Calls.mono (HF.out _ _ _ hn.1 hn.2 HL.out HO.out (by omega) (by simp; omega) (HK.out.below (bel1 _ _)) (.inl ⟨rfl, rfl⟩)) ?_
        rintro e w2 ⟨s2, rfl, hs2, hb2⟩
        obtain ⟨pad, pc, rfl⟩ := hs2.form
        have H2 : Hid (w2.heap[w.heap.size]? = some (.cells #[.int .i64 0, .int .i64 0, .slice none 0 0] 50)) := hide ((hb2.block w.heap.size (by simp; omega)).trans ((heap_alloc_old _ _ hlt).trans H1.out))
        have HX2 := hide ((hb2.block w1.heap.size (by simp)).trans (heap_alloc_new _ _))
        have hX0 : w2.cell? ⟨w1.heap.size, 0, none⟩ = some (.int .i64 x.k) := (cell_of_blk HX2.out 0).trans rfl
        have hX1 : w2.cell? ⟨w1.heap.size, 1, none⟩ = some (.int .i64 x.n) := (cell_of_blk HX2.out 1).trans rfl
        have hX2 : w2.cell? ⟨w1.heap.size, 2, none⟩ = some (.slice sad KL sc) := (cell_of_blk HX2.out 2).trans rfl
        have HK2 := hide ((HK.out.below (bel1 _ _)).below hb2)
        have HB2 := hide ((HB1.out.alloc HB1.out.size _).trans (hb2.mono (HB1.out.alloc HB1.out.size _).size))
        clear hs2 hb2 HF HK
        go_wp2_with fail
        refine Calls.mono (HHn.out _ _ _ HK2.out) ?_
        rintro e w3 ⟨v3, rfl, hv3, hb3⟩
        obtain ⟨xb, kb, sb, hbe, rfl, hKb⟩ := hv3
        have HV3 : Hid (TV w3 AnyQ b (.agg #[.int .i64 xb.k, .int .i64 xb.n, sb])) := hide ⟨xb, kb, sb, hbe, rfl, hKb⟩
        have HT3 := hide hKb
        obtain ⟨bad, bc, rfl⟩ := hKb.form
        obtain ⟨BL, hBL⟩ : ∃ BL, BL = kb.len := ⟨_, rfl⟩
        rw [← hBL] at HV3 HT3 ⊢
        have hlb : kb.flat.length + 1 ≤ 1048576 := by have := HLb.out; rw [hbe] at this; simp [F.flat] at this; omega
        have HTl := hide (fun (w' : World) (hT : KidT w' AnyQ kb (.slice bad BL bc)) => l3Tell_any xb kb _ AnyQ w' hlb hT)
        have hbf : xb :: kb.flat = b.flat := by rw [hbe]; simp [F.flat]
        rw [hbf, ← HBo.out] at HTl
        have H3 := hide ((hb3.block w.heap.size (Array.getElem?_eq_some_iff.1 H2.out).1).trans H2.out)
        have HB3 := hide (HB2.out.trans (hb3.mono HB2.out.size))
        have hl3 := (Array.getElem?_eq_some_iff.1 H3.out).1
        clear hb3 hKb HHn HX2 hX0 hX1 hX2 hbe hBL hbf hlb
        go_wp2_with fail
        refine Calls.mono (HTl.out _ (HT3.out.below (bel1 _ _))) ?_
        rintro e w4 ⟨s4, rfl, ho4, hb4⟩
        obtain ⟨ta, tc, rfl⟩ := own_form ho4
        have h0 := (hb4.block w.heap.size (by simp; omega)).trans ((heap_alloc_old _ _ hl3).trans H3.out)
        have hY := (hb4.block w3.heap.size (by simp)).trans (heap_alloc_new _ _)
        have y0 : w4.cell? ⟨w3.heap.size, 0, none⟩ = some (.int .i64 xb.k) := (cell_of_blk hY 0).trans rfl
        have y1 : w4.cell? ⟨w3.heap.size, 1, none⟩ = some (.int .i64 xb.n) := (cell_of_blk hY 1).trans rfl
        have y2 : w4.cell? ⟨w3.heap.size, 2, none⟩ = some (.slice bad BL bc) := (cell_of_blk hY 2).trans rfl
        have z0 : w4.cell? ⟨w.heap.size, 0, none⟩ = some (.int .i64 0) := (cell_of_blk h0 0).trans rfl
        have z1 : w4.cell? ⟨w.heap.size, 1, none⟩ = some (.int .i64 0) := (cell_of_blk h0 1).trans rfl
        have z2 : w4.cell? ⟨w.heap.size, 2, none⟩ = some (.slice none 0 0) := (cell_of_blk h0 2).trans rfl
        have fz := unfrozen_of_blk h0
        have H0 := hide h0
        have HB4 := hide ((HB3.out.alloc HB3.out.size _).trans (hb4.mono (HB3.out.alloc HB3.out.size _).size))
        have HV4 := hide ((HV3.out.below (bel1 _ _)).below hb4)
        clear h0 hY hb4 ho4 HTl
        cases G with
        | false =>
          go_wp2_with fail
          exact bodyPost_ret (v := .tuple #[.agg #[.int .i64 0, .int .i64 0, .slice none 0 0], .bool false]) (by simp [results, Tryz.results16, go_sem, *]) rfl ⟨rfl, below_set3 HB4.out (Nat.le_refl _) _ _ _⟩
        | true =>
          go_wp2_with fail
          have hre := set3_at H0.out (.int .i64 xb.k) (.int .i64 xb.n) (.slice bad BL bc)
          have r0 := (cell_of_blk hre 0).trans rfl
          have r1 := (cell_of_blk hre 1).trans rfl
          have r2 := (cell_of_blk hre 2).trans rfl
          exact bodyPost_ret (v := .tuple #[.agg #[.int .i64 xb.k, .int .i64 xb.n, .slice bad BL bc], .bool true]) (by simp [results, Tryz.results16, go_sem, r0, r1, r2]) rfl ⟨⟨b, HR.out, _, rfl, HV4.out.set3 HFt.out H0.out _ _ _⟩, below_set3 HB4.out (Nat.le_refl _) _ _ _⟩
      · have hb : hoB l = false := by
          unfold hoB hoR closedT
          rw [ht]
          simp only
          rw [if_neg (show ¬ freT (.cons x k .nil) = [] from hfr)]
        unfold OfV
        rw [hb]
        have HF := hide (fun (s : Value) (P : Nat → Prop) => l3Free_any k x s (.slice none 0 0) 0 [] P)
        have HO := hide o1
        have HL := hide l1
        have hfl : (0 : Int) < ((fr1 0 x k []).length : Int) := by
          cases h : fr1 0 x k [] with
          | nil => exact absurd h hfr
          | cons p q => simp
        obtain ⟨FL, hFL⟩ : ∃ FL, FL = fr1 0 x k [] := ⟨_, rfl⟩
        rw [← hFL] at HF hfl
        rw [show ((0 : Nat) : Int) = 0 from rfl] at HF
        clear hb hfr ht t1 t2 t3 t4 g1 o1 l1 hFL
        go_enter Tryz.func16, Tryz.ntmps16
        go_wp2_with fail
        refine Calls.mono HC.out ?_
        rintro e w1 ⟨hb1, ho⟩
        obtain ⟨x', k', s, hxe, rfl, hK⟩ := ho
        simp only [F.cons.injEq, and_true] at hxe
        obtain ⟨rfl, rfl⟩ := hxe
        have HK := hide hK
        obtain ⟨sad, sc, rfl⟩ := hK.form
        obtain ⟨KL, hKL⟩ : ∃ KL, KL = k.len := ⟨_, rfl⟩
        rw [← hKL] at HK ⊢
        have H1 := hide ((hb1.block w.heap.size (by simp)).trans (heap_alloc_new _ _))
        have HB1 := hide (hB0.trans (hb1.mono hB0.size))
        have hlt := (Array.getElem?_eq_some_iff.1 H1.out).1
        clear hb1 HC hK hKL
        go_wp2_with fail
        refine Calls.mono (HF.out _ _ _ hn.1 hn.2 HL.out HO.out (by omega) (by simp; omega) (HK.out.below (bel1 _ _)) (.inl ⟨rfl, rfl⟩)) ?_
        rintro e w2 ⟨s2, rfl, hs2, hb2⟩
        obtain ⟨pad, pc, rfl⟩ := hs2.form
        have h0 := (hb2.block w.heap.size (by simp; omega)).trans ((heap_alloc_old _ _ hlt).trans H1.out)
        have z0 : w2.cell? ⟨w.heap.size, 0, none⟩ = some (.int .i64 0) := (cell_of_blk h0 0).trans rfl
        have z1 : w2.cell? ⟨w.heap.size, 1, none⟩ = some (.int .i64 0) := (cell_of_blk h0 1).trans rfl
        have z2 : w2.cell? ⟨w.heap.size, 2, none⟩ = some (.slice none 0 0) := (cell_of_blk h0 2).trans rfl
        have fz := unfrozen_of_blk h0
        have HB2 := hide ((HB1.out.alloc HB1.out.size _).trans (hb2.mono (HB1.out.alloc HB1.out.size _).size))
        clear hs2 hb2 HF HK h0
        go_wp2_with fail
        exact bodyPost_ret (v := .tuple #[.agg #[.int .i64 0, .int .i64 0, .slice none 0 0], .bool false]) (by simp [results, Tryz.results16, go_sem, *]) rfl ⟨rfl, below_set3 HB2.out (Nat.le_refl _) _ _ _⟩
    · have h40' : (40 : Int) < (l.length : Int) := by omega
      have hb : hoB l = false := by
        cases hR : hoR l with
        | none => unfold hoB; rw [hR]
        | some q => obtain ⟨_, _, h, _⟩ := hoR_some hR; exact absurd h h40
      unfold OfV
      rw [hb]
      clear hb ht t1 t2 t3 t4 g1 o1 l1
      go_enter Tryz.func16, Tryz.ntmps16
      go_wp2_with fail
      refine Calls.mono HC.out ?_
      rintro e w1 ⟨hb1, ho⟩
      obtain ⟨x', k', s, hxe, rfl, hK⟩ := ho
      obtain ⟨sad, sc, rfl⟩ := hK.form
      obtain ⟨KL, hKL⟩ : ∃ KL, KL = k'.len := ⟨_, rfl⟩
      rw [← hKL]
      have h0 := (hb1.block w.heap.size (by simp)).trans (heap_alloc_new _ _)
      have hlt := (Array.getElem?_eq_some_iff.1 h0).1
      have z0 : w1.cell? ⟨w.heap.size, 0, none⟩ = some (.int .i64 0) := (cell_of_blk h0 0).trans rfl
      have z1 : w1.cell? ⟨w.heap.size, 1, none⟩ = some (.int .i64 0) := (cell_of_blk h0 1).trans rfl
      have z2 : w1.cell? ⟨w.heap.size, 2, none⟩ = some (.slice none 0 0) := (cell_of_blk h0 2).trans rfl
      have fz := unfrozen_of_blk h0
      have HB1 := hide (hB0.trans (hb1.mono hB0.size))
      clear hb1 HC hK hKL h0 hxe
      go_wp2_with fail
      exact bodyPost_ret (v := .tuple #[.agg #[.int .i64 0, .int .i64 0, .slice none 0 0], .bool false]) (by simp [results, Tryz.results16, go_sem, *]) rfl ⟨rfl, (below_set3 HB1.out (Nat.le_refl _) _ _ _).alloc (below_set3 HB1.out (Nat.le_refl _) (.int .i64 0) (.int .i64 0) (.slice none 0 0)).size _⟩

theorem hoL_some {l : List Cc} {b : F} (h : hoR l = some b) (hb : hoB l = true) : hoL l = b.flat := by
  unfold hoL
  unfold hoB at hb
  rw [h] at hb ⊢
  simp only at hb ⊢
  unfold gd
  rw [if_pos hb]
theorem hoL_no {l : List Cc} (hb : hoB l = false) : hoL l = [] := by
  unfold hoL
  unfold hoB at hb
  cases h : hoR l with
  | none => rfl
  | some b =>
    rw [h] at hb
    simp only at hb ⊢
    unfold gd
    rw [hb]
    rfl
end Go.Proofs.YtnmkbpflbfhpnaaGreat.W

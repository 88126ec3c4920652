/-
  The step by value, by the program: contracts of partsCalled, calledPlace, CallStep. Conditions: at most 1048576 cells.
-/
import Derived.Test.YtbimfnnbfbfdoabTeKd
namespace Go.Proofs.Ytbimfnnbfbfdoab.W
open Go.ChangeShapes Go.WideShapes Go.ChangeAt Go.RowKit
set_option linter.unusedVariables false

set_option maxHeartbeats 400000 in
theorem partsCalled_any (k : Int) (w : World) :
    Calls Try.prog 67 #[.int .i64 k] w fun e w' => e = .returned (.int .i64 (pc k : Int)) ∧ w' = w := by
  go_enter Try.func67, Try.ntmps67
  go_wp2
  all_goals
    go_ret
    refine ⟨ret_int ?_, rfl⟩
    simp_all [pc]

theorem pc_ar (k : Int) : pc k ≤ ar k := by
  unfold pc ar
  by_cases h3 : k = 3
  · subst h3; decide
  · rw [if_neg h3]
    by_cases h4 : k = 4 ∨ k = 5
    · rw [if_pos h4, if_pos (by omega)]; decide
    · rw [if_neg h4]
      by_cases h7 : k = 7 ∨ k = 6
      · rw [if_pos h7]
        rcases h7 with h | h
        · subst h; decide
        · subst h; decide
      · rw [if_neg h7]; omega

theorem cpk_le : ∀ (a : F) (m at_ : Nat) (q : Nat × Bool), cpk a m at_ = some q → q.1 ≤ at_ + a.flat.length
  | .nil, m, at_, q, h => by simp [cpk] at h
  | .cons y ky r, m, at_, q, h => by
    unfold cpk at h
    by_cases hm : m = 0
    · rw [if_pos hm] at h; cases h
    · rw [if_neg hm] at h
      by_cases hv : isVal y.k = true
      · rw [if_pos hv] at h
        have := cpk_le r _ _ q h
        simp [F.flat]; omega
      · rw [if_neg hv] at h
        simp only [Option.some.injEq] at h
        subst h
        cases hc : cpk ky (pc y.k) 1 with
        | none => simp
        | some q2 =>
          have := cpk_le ky _ _ q2 hc
          simp [F.flat]; omega
theorem cpl_le (x : Cc) (k : F) : (cpl x k).1 ≤ k.flat.length + 1 := by
  unfold cpl
  cases hc : cpk k (pc x.k) 1 with
  | none => simp
  | some q => have := cpk_le k _ _ q hc; simp only; omega
theorem cpk_step (y : Cc) (ky r : F) (m at_ : Nat) (hm : ¬ m = 0) (hv : isVal y.k = false) : cpk (.cons y ky r) m at_ = some (at_ + (cpl y ky).1, (cpl y ky).2) := by
  rw [cpk, if_neg hm, if_neg (by rw [hv]; simp)]
  unfold cpl
  cases cpk ky (pc y.k) 1 <;> rfl

def CPGoal (k : F) : Prop := ∀ (x : Cc) (b o c : Nat) (w : World) (L : Nat), okT x k → L = k.flat.length + 1 → L ≤ 600 → L ≤ c → CRowAt w b o (x :: k.flat) →
    Calls Try.prog 45 #[.slice (some ⟨b, o, none⟩) L c] w fun e w' => e = .returned (.tuple #[.int .i64 ((cpl x k).1 : Int), .bool (cpl x k).2]) ∧ Below w.heap.size w w'

set_option maxRecDepth 20000 in
set_option maxHeartbeats 2000000 in
theorem calledPlace_any : ∀ k, CPGoal k := by
  apply F.rec_kids
  intro k ih x b o c w L hok hL hl hc h
  have IH := hide ih
  have HR := hide h
  have HOk := hide hok
  have p0 := (h.2 0 (by simp)).1
  simp only [Nat.zero_mul, Nat.add_zero, List.getElem_cons_zero] at p0
  have hb := h.1
  have hL0 : (0 : Int) < (L : Int) := by omega
  have HL := hide hL
  have hfr := front hok.1 hok.2.1 hok.2.2 []
  rw [List.append_nil] at hfr
  have HIs := hide (fun (w' : World) (hb : Below w.heap.size w w') => isRedex_any (some ⟨b, o, none⟩) c (x :: k.flat) w' (by simp; omega) hfr.2 (.inr ⟨b, o, rfl, HR.out.below hb⟩))
  have hxl : (x :: k.flat).length = L := by simp [hL]
  rw [hxl, hfr.1] at HIs
  have hpc : pc x.k ≤ k.len := by rw [hok.2.1]; exact pc_ar _
  have HCp : Hid (cpl x k = match cpk k (pc x.k) 1 with | some q => q | none => (0, redx x k)) := hide rfl
  obtain ⟨CP, hCP⟩ : ∃ CP, CP = cpl x k := ⟨_, rfl⟩
  rw [← hCP] at HCp ⊢
  clear ih h hok hL hfr hxl hCP
  go_enter Try.func45, Try.ntmps45
  go_wp2_with fail
  refine (partsCalled_any x.k _).mono ?_
  rintro e w1 ⟨rfl, hw⟩
  obtain rfl := hw.symm
  go_wp2_with fail
  have hp3 : pc x.k ≤ 3 := Nat.le_trans (pc_ar _) (ar_le _)
  obtain ⟨PC, hPC⟩ : ∃ PC, PC = pc x.k := ⟨_, rfl⟩
  rw [← hPC] at hpc HCp hp3 ⊢
  clear hPC
  go_loopw [4, 14] (fun a i w' => ∃ d r : F, k = d.app r ∧ i = .int .i64 (d.len : Int) ∧ a = .int .i64 ((1 + d.flat.length : Nat) : Int) ∧ d.len ≤ PC ∧ cpk k PC 1 = cpk r (PC - d.len) (1 + d.flat.length) ∧ Below w.heap.size w w') (fun _ i _ => PC - (intOf i).toNat)
  case atStart => exact ⟨.nil, k, rfl, rfl, rfl, Nat.zero_le _, rfl, Below.refl _ _⟩
  case round =>
    obtain ⟨d, r, hk, rfl, rfl, hdl, hcp, hB⟩ := hrel
    have HCk := hide hcp
    clear hcp
    by_cases hlt : d.len < PC
    · have hlt' : (d.len : Int) < (PC : Int) := by omega
      cases r with
      | nil => rw [hk, F.app_nil] at hpc; omega
      | cons y ky r =>
        have hO := HOk.out.2.2
        rw [hk] at hO
        obtain ⟨gy, ly, oy, orr⟩ := ((F.app_ok _ _).1 hO).2
        have hfk : k.flat.length = d.flat.length + (1 + ky.flat.length + r.flat.length) := by rw [hk, F.app_flat]; simp [F.flat]; omega
        have hLL := HL.out
        have hI := IH.out
        rw [hk] at hI
        have hrow : CRowAt wr b (o + (1 + d.flat.length) * 2) ((y :: ky.flat) ++ r.flat) := by
          have h1 := HR.out.below (w' := wr) ⟨hB.os, hB.tape, hB.output, hB.size, hB.block⟩
          have e1 : x :: k.flat = (x :: d.flat) ++ ((y :: ky.flat) ++ r.flat) := by rw [hk, F.app_flat]; simp [F.flat]
          rw [e1] at h1
          have h2 := h1.back
          rw [show (x :: d.flat).length = 1 + d.flat.length by simp; omega] at h2
          exact h2
        have hcut := cutAhead_any b (o + (1 + d.flat.length) * 2) (c - (1 + d.flat.length)) ((y :: ky.flat) ++ r.flat) (ky.flat.length + 1) wr (by simp; omega) (by simp; omega) (sz_one ⟨gy, ly, oy⟩ _) (by simp) hrow
        have hcl : ((y :: ky.flat) ++ r.flat).length = L - (1 + d.flat.length) := by simp; omega
        rw [hcl] at hcut
        have HC := hide hcut
        have HRow := hide hrow.front
        have HCP := hide (fun (w' : World) (hb : Below wr.heap.size wr w') => F.all_at hI y b (o + (1 + d.flat.length) * 2) (c - (1 + d.flat.length)) w' (ky.flat.length + 1) ⟨gy, ly, oy⟩ rfl (by omega) (by omega) (HRow.out.below hb))
        have q0 := (hrow.front.2 0 (by simp)).1
        have q1 := (hrow.front.2 0 (by simp)).2
        simp only [Nat.zero_mul, Nat.add_zero, List.getElem_cons_zero] at q0 q1
        have hbr : b < wr.heap.size := Nat.lt_of_lt_of_le hb hB.size
        have hcpl := cpl_le y ky
        have HSn := hide (hk.trans (F.app_snoc d ky r y))
        have HDl : Hid ((d.app (.cons y ky .nil)).len = d.len + 1) := hide (by rw [F.app_len]; rfl)
        have HDf : Hid ((d.app (.cons y ky .nil)).flat.length = d.flat.length + (ky.flat.length + 1)) := hide (by rw [F.app_flat]; simp [F.flat])
        have HVal : Hid (isVal y.k = true → cpk (.cons y ky r) (PC - d.len) (1 + d.flat.length) = cpk r (PC - (d.len + 1)) (1 + (d.flat.length + (ky.flat.length + 1)))) := hide (fun hv => by
          rw [cpk, if_neg (by omega), if_pos hv]
          congr 1; omega)
        have HNo : Hid (isVal y.k = false → CP = (1 + d.flat.length + (cpl y ky).1, (cpl y ky).2)) := hide (fun hv => by
          rw [HCp.out, HCk.out, cpk_step y ky r _ _ (by omega) hv])
        obtain ⟨KF, hKF⟩ : ∃ KF, KF = ky.flat.length + 1 := ⟨_, rfl⟩
        obtain ⟨AT, hAT⟩ : ∃ AT, AT = 1 + d.flat.length := ⟨_, rfl⟩
        obtain ⟨DL, hDL⟩ : ∃ DL, DL = d.len := ⟨_, rfl⟩
        obtain ⟨IN, hIN⟩ : ∃ IN, IN = (cpl y ky).1 := ⟨_, rfl⟩
        obtain ⟨IB, hIB⟩ : ∃ IB, IB = (cpl y ky).2 := ⟨_, rfl⟩
        rw [← hKF, ← hAT] at HC
        rw [← hKF, ← hAT, ← hIN, ← hIB] at HCP
        rw [← hAT] at q0 q1 ⊢
        rw [← hDL] at hlt' HDl ⊢
        rw [← hAT, ← hIN, ← hIB] at HNo
        rw [← hIN, ← hKF] at hcpl
        have ha0 : (0 : Int) ≤ (AT : Int) := by omega
        have haL : (AT : Int) ≤ (L : Int) := by omega
        have hLc : (L : Int) ≤ (c : Int) := by omega
        have hac : (AT : Int) ≤ (c : Int) := by omega
        have hcn : ¬ c = AT := by omega
        have hKF0 : (0 : Int) < (KF : Int) := by omega
        have hAT6 : AT ≤ 600 := by omega
        have hDL3 : DL ≤ 3 := by omega
        have hIN6 : IN ≤ 600 := by omega
        have hKF6 : KF ≤ 600 := by omega
        have HAT := hide hAT
        have HKF := hide hKF
        have HDL := hide hDL
        clear hO gy ly oy orr hfk hLL hI hrow hcut hcl hk hKF hAT hDL hIN hIB p0
        go_wp2_with fail
        refine Calls.mono HC.out ?_
        rintro e w1 ⟨qq, rfl, -, hb1⟩
        have r0 := (hb1.cell (p := ⟨b, o + AT * 2, none⟩) hbr).trans q0
        have r1 := (hb1.cell (p := ⟨b, o + AT * 2 + 1, none⟩) hbr).trans q1
        clear q0 q1 HC
        go_wp2_with fail
        refine Calls.mono (isValueCell_any y.k y.n _) ?_
        rintro e w2 ⟨rfl, hb2⟩
        have hb12 : Below wr.heap.size wr w2 := hb1.trans (hb2.mono hb1.size)
        have hB2 : Below w.heap.size w w2 := hB.trans (hb12.mono hB.size)
        clear r0 r1 hb1 hb2
        cases hv : isVal y.k with
        | true =>
          have HV := hide (HVal.out hv)
          clear hv HVal HNo HCP
          go_wp2_with fail
          have e1 := HAT.out
          have e2 := HKF.out
          have e3 := HDL.out
          exact ⟨⟨d.app (.cons y ky .nil), r, HSn.out, by rw [HDl.out]; go_num, by rw [HDf.out, show 1 + (d.flat.length + (ky.flat.length + 1)) = AT + KF by omega]; go_num, by rw [HDl.out]; omega, by rw [HDl.out, HDf.out, e3]; exact HCk.out.trans HV.out, hB2⟩, by simp [intOf]; omega⟩
        | false =>
          have HV := hide (HNo.out hv)
          clear hv HVal HNo
          go_wp2_with fail
          refine Calls.mono (HCP.out _ hb12) ?_
          rintro e w3 ⟨rfl, hb3⟩
          have hB3 : Below w.heap.size w w3 := hB2.trans (hb3.mono hB2.size)
          go_wp2_with fail
          refine bodyPost_ret (v := .tuple #[.int .i64 ((AT : Int) + (IN : Int)), .bool IB]) (by simp [results, Try.results45, go_sem]) rfl ⟨?_, hB3⟩
          rw [HV.out]
          simp
    · obtain hdp : d.len = PC := by omega
      have hz : cpk k PC 1 = none := by
        rw [HCk.out, hdp, Nat.sub_self]
        cases r with
        | nil => rfl
        | cons y ky r => rw [cpk, if_pos rfl]
      have hcpe : CP = (0, redx x k) := by rw [HCp.out, hz]
      have HCe := hide hcpe
      rw [hdp]
      obtain ⟨RB, hRB⟩ : ∃ RB, RB = redx x k := ⟨_, rfl⟩
      rw [← hRB] at HIs HCe
      clear hz hcpe hdp hRB hdl hlt HCk HCp p0
      go_wp2_with fail
      refine Calls.mono (HIs.out _ hB) ?_
      rintro e w2 ⟨rfl, hb2⟩
      have hB2 : Below w.heap.size w w2 := hB.trans (hb2.mono hB.size)
      go_wp2_with fail
      refine bodyPost_ret (v := .tuple #[.int .i64 0, .bool RB]) (by simp [results, Try.results45, go_sem]) rfl ⟨?_, hB2⟩
      rw [HCe.out]
      rfl

/-- The cells of what a term steps to by value; none where nothing steps, or there is no room. -/
def clR (l : List Cc) : Option (List Cc) := match treeT l with | some (.cons x k _) => (cl x k).map fun p => p.1 :: p.2.flat | _ => none

set_option maxRecDepth 20000 in
set_option maxHeartbeats 2000000 in
theorem implCall_any (ad : Option Addr) (c : Nat) (l : List Cc) (w : World) (hl : l.length ≤ 1048576) (hc : l.length ≤ c) (h : CRow w ad l) :
    Calls Try.prog 23 #[.slice ad l.length c] w fun e w' => RS w (clR l) e w' := by
  have HR := hide h
  have HC := hide (implGoodT_any ad c l w hl h)
  cases hg : treeT l with
  | none =>
    have hg2 : goodT l = false := by unfold goodT; rw [hg]; rfl
    have hr : clR l = none := by unfold clR; rw [hg]
    rw [hg2] at HC
    rw [hr]
    clear hg hg2 h hr
    go_enter Try.func23, Try.ntmps23
    go_wp2_with fail
    refine Calls.mono HC.out ?_
    rintro e w1 ⟨rfl, hb1⟩
    clear HC
    go_wp2_with fail
    exact bodyPost_ret (v := .tuple #[.slice none 0 0, .bool false]) (by simp [results, Try.results23, go_sem]) rfl ⟨_, rfl, World.ownsRow_nil _ _ _ _, hb1⟩
  | some t =>
    have hg2 : goodT l = true := by unfold goodT; rw [hg]; rfl
    rw [hg2] at HC
    obtain ⟨e1, ho, e3, e4, -⟩ := treeT_flat hg
    obtain ⟨x, k, rfl⟩ := F.len_1 e3
    obtain ⟨g1, l1, o1, -⟩ := ho
    have hok : okT x k := ⟨g1, l1, o1⟩
    have e5 : l = x :: k.flat := by rw [e1]; simp [F.flat]
    have hr : clR l = (cl x k).map fun p => p.1 :: p.2.flat := by unfold clR; rw [hg]
    rw [hr]
    obtain ⟨b, o, rfl, hrow⟩ : ∃ b o, ad = some ⟨b, o, none⟩ ∧ CRowAt w b o l := by
      rcases h with h0 | h0
      · rw [e5] at h0; cases h0
      · exact h0
    have HP := hide (fun (w' : World) (hb : Below w.heap.size w w') => calledPlace_any k x b o c w' l.length hok (by rw [e5]; simp) e4 hc (by rw [← e5]; exact hrow.below hb))
    have hst := step_one hok
    rw [← e5] at hst
    have HK := hide (fun (at_ : Nat) (r : Option (List Cc)) (hp : Place l at_ r) (w' : World) (hb : Below w.heap.size w w') => contractedAt_any b o c l at_ r w' hp e4 hc (hrow.below hb))
    obtain ⟨R, hR⟩ : ∃ R, R = (cl x k).map fun p => p.1 :: p.2.flat := ⟨_, rfl⟩
    obtain ⟨AT, hAT⟩ : ∃ AT, AT = (cpl x k).1 := ⟨_, rfl⟩
    obtain ⟨OK, hOK⟩ : ∃ OK, OK = (cpl x k).2 := ⟨_, rfl⟩
    have hst2 : (OK = false ∧ R = none) ∨ (OK = true ∧ Place l AT R) := by
      rw [hR, hAT, hOK]
      rcases hst with ⟨s1, s2⟩ | ⟨s1, s2⟩
      · exact .inl ⟨s1, by rw [s2]; rfl⟩
      · exact .inr ⟨s1, s2⟩
    rw [← hAT, ← hOK] at HP
    rw [← hR]
    clear hg hg2 e1 e3 g1 l1 o1 hok e5 hr hst hR hAT hOK h hrow
    go_enter Try.func23, Try.ntmps23
    go_wp2_with fail
    refine Calls.mono HC.out ?_
    rintro e w1 ⟨rfl, hb1⟩
    clear HC
    go_wp2_with fail
    refine Calls.mono (HP.out _ hb1) ?_
    rintro e w2 ⟨rfl, hb2⟩
    have hB2 : Below w.heap.size w w2 := hb1.trans (hb2.mono hb1.size)
    clear HP hb2
    rcases hst2 with ⟨rfl, rfl⟩ | ⟨rfl, hpl⟩
    · go_wp2_with fail
      exact bodyPost_ret (v := .tuple #[.slice none 0 0, .bool false]) (by simp [results, Try.results23, go_sem]) rfl ⟨_, rfl, World.ownsRow_nil _ _ _ _, hB2⟩
    · have HKK := hide (HK.out AT R hpl w2 hB2)
      clear hpl HK
      go_wp2_with fail
      refine Calls.mono HKK.out ?_
      rintro e w3 ⟨s3, rfl, ho3, hb3⟩
      have hB3 : Below w.heap.size w w3 := hB2.trans (hb3.mono hB2.size)
      have HO3 := hide (iOwn_lower ho3 hB2.size)
      obtain ⟨rad, rc, rfl⟩ := iOwn_form ho3
      clear ho3 hb3 HKK
      obtain ⟨RN, hRN⟩ : ∃ RN, RN = (rL R).length := ⟨_, rfl⟩
      obtain ⟨RB, hRB⟩ : ∃ RB, RB = rB R := ⟨_, rfl⟩
      have HRN := hide hRN
      have HRB := hide hRB
      rw [← hRN, ← hRB]
      rw [← hRN] at HO3
      clear hRN hRB
      go_wp2_with fail
      refine bodyPost_ret (v := .tuple #[.slice rad RN rc, .bool RB]) (by simp [results, Try.results23, go_sem]) rfl ?_
      exact ⟨.slice rad RN rc, by rw [HRB.out], by rw [← HRN.out]; exact HO3.out, hB3⟩
end Go.Proofs.Ytbimfnnbfbfdoab.W

/-
  HandOn and HandedSize of the program. Conditions: at most 1048576 cells.
-/
import Derived.Test.YtnmkbpflbfhpnaaHnF
import Derived.Test.YtnmkbpflbfhpnaaHnG
import Derived.Test.YtnmkbpflbfhpnaaMaN
import Derived.Test.YtnmkbpflbfhpnaaTeD
namespace Go.Proofs.Ytnmkbpflbfhpnaa.W
open Go.ChangeShapes Go.WideShapes Go.ChangeAt Go.RowKit
set_option linter.unusedVariables false

/-- What is made of a row of cells, where it is a closed term of at most 40. -/
def hoR (l : List Cc) : Option F := match closedT l with | some a => if l.length ≤ 40 then some (hn a) else none | none => none
def hoL (l : List Cc) : List Cc := match hoR l with | some b => gd b.flat | none => []
def hoB (l : List Cc) : Bool := match hoR l with | some b => goodT b.flat | none => false
theorem hoR_some {l : List Cc} {b : F} (h : hoR l = some b) : ∃ a, closedT l = some a ∧ l.length ≤ 40 ∧ b = hn a := by
  unfold hoR at h
  cases hc : closedT l with
  | none => rw [hc] at h; cases h
  | some a =>
    rw [hc] at h
    simp only at h
    by_cases h4 : l.length ≤ 40
    · rw [if_pos h4] at h
      simp only [Option.some.injEq] at h
      exact ⟨a, rfl, h4, h.symm⟩
    · rw [if_neg h4] at h; cases h
theorem hoL_len (l : List Cc) : (hoL l).length ≤ 600 := by
  unfold hoL
  split
  · rename_i b _
    unfold gd
    split
    · rename_i h
      unfold goodT at h
      cases ht : treeT b.flat with
      | none => rw [ht] at h; cases h
      | some c => exact (treeT_flat ht).2.2.2.1
    · simp
  · simp

set_option maxRecDepth 20000 in
set_option maxHeartbeats 2000000 in
theorem implHandOn_any (ad : Option Addr) (c : Nat) (l : List Cc) (w : World) (hl : l.length ≤ 1048576) (hc : l.length ≤ c) (h : CRow w ad l) :
    Calls Try.prog 9 #[.slice ad l.length c] w fun e w' => ∃ s', e = .returned (.tuple #[s', .bool (hoB l)]) ∧ w'.ownsRow w.heap.size 42 2 s' (hoL l).length (cv (hoL l)) ∧ Below w.heap.size w w' := by
  have HC := hide (isClosed_any ad c l w hl hc h)
  have HR := hide h
  clear h
  cases hR : hoR l with
  | none =>
    have e1 : hoL l = [] := by unfold hoL; rw [hR]
    have e2 : hoB l = false := by unfold hoB; rw [hR]
    rw [e1, e2]
    clear e1 e2
    by_cases hcl : closed l = true
    · have h4 : (40 : Int) < (l.length : Int) := by
        unfold closed at hcl
        unfold hoR at hR
        cases hc : closedT l with
        | none => rw [hc] at hcl; cases hcl
        | some a =>
          rw [hc] at hR
          simp only at hR
          by_cases h4 : l.length ≤ 40
          · rw [if_pos h4] at hR; cases hR
          · omega
      rw [hcl] at HC
      clear hcl hR
      go_enter Try.func9, Try.ntmps9
      go_wp2_with fail
      refine Calls.mono HC.out ?_
      rintro e w1 ⟨rfl, hb1⟩
      go_wp2_with fail
      exact bodyPost_ret (v := .tuple #[.slice none 0 0, .bool false]) (by simp [results, Try.results9, go_sem]) rfl ⟨_, rfl, World.ownsRow_nil _ _ _ _, hb1⟩
    · rw [Bool.not_eq_true] at hcl
      rw [hcl] at HC
      clear hcl hR
      go_enter Try.func9, Try.ntmps9
      go_wp2_with fail
      refine Calls.mono HC.out ?_
      rintro e w1 ⟨rfl, hb1⟩
      go_wp2_with fail
      exact bodyPost_ret (v := .tuple #[.slice none 0 0, .bool false]) (by simp [results, Try.results9, go_sem]) rfl ⟨_, rfl, World.ownsRow_nil _ _ _ _, hb1⟩
  | some b =>
    have e1 : hoL l = gd b.flat := by unfold hoL; rw [hR]
    have e2 : hoB l = goodT b.flat := by unfold hoB; rw [hR]
    rw [e1, e2]
    clear e1 e2
    obtain ⟨a, hcl, h40, rfl⟩ := hoR_some hR
    have h4 : ¬ (40 : Int) < (l.length : Int) := by omega
    have hcb : closed l = true := by unfold closed; rw [hcl]; rfl
    rw [hcb] at HC
    obtain ⟨hCl, hT, -⟩ := closedT_some hcl
    obtain ⟨f1, f2, f3, -, f5⟩ := hCl
    subst f1
    have hfb := fbd_of a 0 0 0 f5
    have hPO := hide (fun (w' : World) (hb : Below w.heap.size w w') => partOf_any a ad c w' f2 f3 hl hc (HR.out.below hb))
    have hkt := kM_top f2 f3 (by omega)
    have hsz := hn_size a f2
    have hfit := V.F.okw_fit (okv_okw (B := 100 + 2 * a.flat.length) (by omega) (hn_okv a f2))
    have hln : (hn a).len = 1 := by rw [hn_len, f3]
    have HG := hide (fun (w' : World) => goodCells_any (pvT (hn a)) (hn a).flat (mcT hfit hln) (by omega) w')
    have HH : Hid (∀ w' : World, Calls Try.prog 22 #[pvT a, .nilFunc] w' fun e w'' => ∃ v', e = .returned v' ∧ Mk w'' v' (kM a 0 (fun n u => varT (u + n))) ∧ Below w'.heap.size w' w'') := hide (fun w' => by
      obtain ⟨x, k, rfl⟩ := F.len_1 f3
      exact handed_any k x 0 f2.1 f2.2.1 f2.2.2.1 (fun e => by have := hfb.1 e; simpa [binds_0] using this) (by have := hfb.2.1; simpa [binds_0] using this) (by simp [F.flat] at h40; omega) .nilFunc _ w' (.inl ⟨rfl, rfl⟩))
    obtain ⟨T, q, hTq⟩ := pvT_iface f3
    obtain ⟨T2', q2, hTq2⟩ := pvT_iface hln
    rw [hTq] at hPO HH
    rw [hTq2] at HG
    have HK := hide hkt
    have HTq := hide hTq2
    clear hR hcl hT f2 f3 f5 hfb hkt hsz hfit hln hTq hTq2 hcb h40 HR
    obtain ⟨L, hL⟩ : ∃ L, L = a.flat.length := ⟨_, rfl⟩
    rw [← hL] at HC hPO h4 ⊢
    clear hL hl hc
    go_enter Try.func9, Try.ntmps9
    go_wp2_with fail
    refine Calls.mono HC.out ?_
    rintro e w1 ⟨rfl, hb1⟩
    have HB1 := hide hb1
    clear hb1 HC
    go_wp2_with fail
    refine Calls.mono (hPO.out _ HB1.out) ?_
    rintro e w2 ⟨rfl, hb2⟩
    have HB2 := hide (HB1.out.trans (hb2.mono HB1.out.size))
    clear hb2
    go_wp2_with fail
    refine Calls.mono (HH.out _) ?_
    rintro e w3 ⟨v3, rfl, ⟨fid, cap, rfl, hent, hlen, hk⟩, hb3⟩
    have ent : ∀ args w, (callFunc fid args).run Try.prog w = .ok (.enter fid args) w := hent
    have HB3 := hide (HB2.out.trans (hb3.mono HB2.out.size))
    have HKc := hide (hk 0 w3 (Below.refl _ _))
    rw [HK.out, HTq.out] at HKc
    clear hk hb3 hent hlen
    go_wp2_with fail
    refine Calls.mono HKc.out ?_
    rintro e w4 ⟨rfl, hb4⟩
    have HB4 := hide (HB3.out.trans (hb4.mono HB3.out.size))
    clear hb4 HKc
    go_wp2_with fail
    refine Calls.mono (HG.out _) ?_
    rintro e w5 ⟨s', rfl, hown, hb5⟩
    have HO := hide (own_lower hown HB4.out.size)
    have HB5 := hide (HB4.out.trans (hb5.mono HB4.out.size))
    obtain ⟨sa, sc, rfl⟩ := own_form hown
    obtain ⟨NL, hNL⟩ : ∃ NL, NL = (gd (hn a).flat).length := ⟨_, rfl⟩
    rw [← hNL] at HO ⊢
    obtain ⟨GB, hGB⟩ : ∃ GB, GB = goodT (hn a).flat := ⟨_, rfl⟩
    rw [← hGB]
    have HNL := hide hNL
    have HGB := hide hGB
    clear hb5 hown hNL hGB
    go_wp2_with fail
    exact bodyPost_ret (v := .tuple #[.slice sa NL sc, .bool GB]) (by simp [results, Try.results9, go_sem]) rfl ⟨_, by rw [← HGB.out], by rw [← HNL.out]; exact HO.out, HB5.out⟩

set_option maxHeartbeats 1000000 in
theorem implHandedSize_any (ad : Option Addr) (c : Nat) (l : List Cc) (w : World) (hl : l.length ≤ 1048576) (hc : l.length ≤ c) (h : CRow w ad l) :
    Calls Try.prog 16 #[.slice ad l.length c] w fun e w' => e = .returned (.tuple #[.int .i64 ((hoL l).length : Int), .bool (hoB l)]) ∧ Below w.heap.size w w' := by
  have HC := hide (implHandOn_any ad c l w hl hc h)
  have hlen := hoL_len l
  clear h
  obtain ⟨NL, hNL⟩ : ∃ NL, NL = (hoL l).length := ⟨_, rfl⟩
  rw [← hNL] at HC hlen ⊢
  obtain ⟨GB, hGB⟩ : ∃ GB, GB = hoB l := ⟨_, rfl⟩
  rw [← hGB] at HC ⊢
  clear hNL hGB
  go_enter Try.func16, Try.ntmps16
  go_wp2_with fail
  refine Calls.mono HC.out ?_
  rintro e w1 ⟨s', rfl, hown, hb1⟩
  obtain ⟨sa, sc, rfl⟩ := own_form hown
  clear HC hown
  go_wp2_with fail
  exact bodyPost_ret (v := .tuple #[.int .i64 (NL : Int), .bool GB]) (by simp [results, Try.results16, go_sem]) rfl ⟨rfl, hb1⟩
end Go.Proofs.Ytnmkbpflbfhpnaa.W

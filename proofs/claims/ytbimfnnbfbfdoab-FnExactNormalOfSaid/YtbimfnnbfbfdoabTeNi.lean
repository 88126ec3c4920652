/-
  The program's NormalOf. Conditions: at most 1048576 cells.
-/
import Derived.Test.YtbimfnnbfbfdoabTeNm
import Derived.Test.YtbimfnnbfbfdoabTeRf
namespace Go.Proofs.Ytbimfnnbfbfdoab.W
open Go.ChangeShapes Go.WideShapes Go.ChangeAt Go.RowKit
set_option linter.unusedVariables false

/-- The cells that so many steps come to, and how many were made. -/
def nmR (l : List Cc) (s : Int) : Option (List Cc × Nat) :=
  if inB s 0 60 = true then (match treeT l with | some (.cons x k _) => (nm s.toNat 0 (x, k)).map (fun q => (q.1.1 :: q.1.2.flat, q.2)) | _ => none) else none
def nmL (r : Option (List Cc × Nat)) : List Cc := match r with | some q => q.1 | none => []
def nmN (r : Option (List Cc × Nat)) : Nat := match r with | some q => q.2 | none => 0
/-- What both sides tell of such a result. -/
def RN (w : World) (r : Option (List Cc × Nat)) (e : Ending) (w' : World) : Prop := ∃ s', e = .returned (.tuple #[s', .int .i64 (nmN r : Int), .bool r.isSome]) ∧ w'.ownsRow w.heap.size 46 2 s' (nmL r).length (cv (nmL r)) ∧ Below w.heap.size w w'

set_option maxRecDepth 20000 in
set_option maxHeartbeats 2000000 in
theorem implNormal_good (ad : Option Addr) (c : Nat) (l : List Cc) (S : Nat) (x : Cc) (k : F) (w : World) (hl : l.length ≤ 1048576) (hS : S ≤ 60) (ht : treeT l = some (.cons x k .nil)) (h : CRow w ad l) :
    Calls Try.prog 21 #[.slice ad l.length c, .int .i64 (S : Int)] w fun e w' => RN w (nmR l (S : Int)) e w' := by
  have hr : nmR l (S : Int) = (nm S 0 (x, k)).map (fun q => (q.1.1 :: q.1.2.flat, q.2)) := by
    unfold nmR
    rw [if_pos (by simp [inB]; omega), ht, Int.toNat_natCast]
  have hg : goodT l = true := by unfold goodT; rw [ht]; rfl
  have HC := hide (implGoodT_any ad c l w hl h)
  rw [hg] at HC
  obtain ⟨e1, ho, -, e4, -⟩ := treeT_flat ht
  obtain ⟨g1, l1, o1, -⟩ := ho
  have hok : okT x k := ⟨g1, l1, o1⟩
  have e5 : l = x :: k.flat := by rw [e1]; simp [F.flat]
  obtain ⟨b, o, rfl, hrow⟩ : ∃ b o, ad = some ⟨b, o, none⟩ ∧ CRowAt w b o l := by
    rcases h with h0 | h0
    · rw [e5] at h0; cases h0
    · exact h0
  have HCl := hide (fun (w' : World) (hb : Below w.heap.size w w') => cloneC_any b o c l w' hl (.inr ⟨b, o, rfl, hrow.below hb⟩))
  rw [hr]
  obtain ⟨R, hR⟩ : ∃ R, R = nm S 0 (x, k) := ⟨_, rfl⟩
  rw [← hR]
  have HR := hide hR
  have HOk := hide hok
  have hk6 : k.flat.length + 1 ≤ 600 := by rw [e5] at e4; simpa using e4
  have HL5 := hide e5
  have hS1 : ¬ (S : Int) < 0 := by omega
  have hS2 : ¬ (60 : Int) < (S : Int) := by omega
  clear ht hr hg h e1 e4 g1 l1 o1 hok e5 hrow hR
  go_enter Try.func21, Try.ntmps21
  go_wp2_with fail
  refine Calls.mono HC.out ?_
  rintro e w1 ⟨rfl, hb1⟩
  clear HC
  go_wp2_with fail
  refine Calls.mono (HCl.out _ hb1) ?_
  rintro e w2 ⟨v2, rfl, ho2, hb2⟩
  have hB2 : Below w.heap.size w w2 := hb1.trans (hb2.mono hb1.size)
  have HO2 := hide (iOwn_lower ho2 hb1.size)
  obtain ⟨va, vc, rfl⟩ := iOwn_form ho2
  clear HCl ho2 hb2
  go_wp2_with fail
  have hl0 : l.length = k.flat.length + 1 := by rw [HL5.out]; simp
  have HO0 : Hid (w2.ownsRow w.heap.size 46 2 (.slice va l.length vc) (k.flat.length + 1) (cv (x :: k.flat))) := hide (by have h := HO2.out; rw [← hl0, ← HL5.out]; exact h)
  clear HO2 HL5
  go_loopw [7, 26] (fun v i w' => ∃ (p : Cc × F) (j : Nat), j ≤ S ∧ i = .int .i64 (j : Int) ∧ okT p.1 p.2 ∧ p.2.flat.length + 1 ≤ 600 ∧ R = nm (S - j) j p ∧ w'.ownsRow w.heap.size 46 2 v (p.2.flat.length + 1) (cv (p.1 :: p.2.flat)) ∧ Below w.heap.size w w') (fun _ i _ => S - (intOf i).toNat)
  case atStart => exact ⟨(x, k), 0, Nat.zero_le _, rfl, HOk.out, hk6, HR.out, HO0.out, hB2⟩
  case round =>
    obtain ⟨p, j, hj, rfl, hok, hp6, hRj, hOw, hB⟩ := hrel
    clear HO0 HR HOk hk6 hl0 hB2
    have HRj := hide hRj
    obtain ⟨g, cap, hv, hgb, hgl⟩ := tOwn_some hOw (by omega)
    subst hv
    have hOw' : wr.ownsRow w.heap.size 46 2 (.slice (some ⟨g, 0, none⟩) (p.2.flat.length + 1) cap) (p.1 :: p.2.flat).length (cv (p.1 :: p.2.flat)) := by rw [List.length_cons]; exact hOw
    obtain ⟨ad', c', he, hcc, hrow⟩ := cOwn_row hOw'
    simp only [List.length_cons, Value.slice.injEq] at he
    obtain ⟨rfl, -, rfl⟩ := he
    have hrow' : CRowAt wr g 0 (p.1 :: p.2.flat) := by
      rcases hrow with h0 | ⟨b', o', h1, h2⟩
      · cases h0
      · simp only [Option.some.injEq, Addr.mk.injEq] at h1
        obtain ⟨rfl, rfl, -⟩ := h1
        exact h2
    have HOw := hide hOw
    have hS0 := hS
    rw [List.length_cons] at hcc
    by_cases hlt : j < S
    · have hlt' : (j : Int) < (S : Int) := by omega
      have hnm : nm (S - j) j p = match fh p.1 p.2 with | none => some (p, j) | some none => none | some (some q) => if goodT (q.1 :: q.2.flat) = true then nm (S - (j + 1)) (j + 1) q else none := by
        rw [show S - j = (S - (j + 1)) + 1 by omega]; rfl
      have hfo := first_one hok
      have HFi := hide (firstRedex_any (some ⟨g, 0, none⟩) cap (p.1 :: p.2.flat) wr (by simp; omega) (by simp) (by simpa using hcc) (fun i hi => by
        have := redOK_in (.cons p.1 p.2 .nil) [] i ⟨hok.1, hok.2.1, hok.2.2, trivial⟩ (by simpa [F.flat] using hi)
        simpa [F.flat] using this) (.inr ⟨g, 0, rfl, hrow'⟩))
      have hcons : (p.1 :: p.2.flat).length = p.2.flat.length + 1 := rfl
      rw [hcons] at HFi
      have HKA := hide (fun (at_ : Nat) (r : Option (List Cc)) (hp : Place (p.1 :: p.2.flat) at_ r) (w' : World) (hb : Below wr.heap.size wr w') => contractedAt_any g 0 cap (p.1 :: p.2.flat) at_ r w' hp (by simpa using hp6) (by simpa using hcc) (hrow'.below hb))
      rw [hcons] at HKA
      obtain ⟨N, hN⟩ : ∃ N, N = p.2.flat.length + 1 := ⟨_, rfl⟩
      rw [← hN] at HFi HKA HOw hcc ⊢
      have HNe := hide hN
      obtain ⟨FR, hFR⟩ : ∃ FR, FR = fstR (p.1 :: p.2.flat) := ⟨_, rfl⟩
      rw [← hFR] at HFi hfo
      clear hOw hOw' hrow hrow' hN hFR
      go_wp2_with fail
      refine Calls.mono HFi.out ?_
      rintro e w3 ⟨rfl, hb3⟩
      have hB3 : Below w.heap.size w w3 := hB.trans (hb3.mono hB.size)
      have HOw3 := hide (tOwn_keep HOw.out (fun k _ hk => hb3.block k hk))
      clear HFi HOw
      rcases hfo with ⟨f1, f2⟩ | ⟨cc, pos, f1, f2, f3⟩
      · subst f2
        have hRe : R = some (p, j) := by rw [HRj.out, hnm, f1]
        have HRe := hide hRe
        clear hRe hnm f1 HKA hb3
        simp only [Option.getD_none, Option.isSome_none]
        go_wp2_with fail
        refine bodyPost_ret (v := .tuple #[.slice (some ⟨g, 0, none⟩) N cap, .int .i64 (j : Int), .bool true]) (by simp [results, Try.results21, go_sem]) rfl ?_
        rw [HRe.out]
        exact ⟨_, rfl, by show w3.ownsRow _ _ 2 _ (p.1 :: p.2.flat).length (cv (p.1 :: p.2.flat)); rw [List.length_cons, ← HNe.out]; exact HOw3.out, hB3⟩
      · subst f2
        have HKK := hide (HKA.out pos _ f3 w3 hb3)
        rw [f1] at hnm
        have HNm := hide hnm
        have HF1 := hide f1
        clear f3 HKA hb3 hnm f1
        simp only [Option.getD_some, Option.isSome_some]
        go_wp2_with fail
        refine Calls.mono HKK.out ?_
        rintro e w4 ⟨s4, rfl, ho4, hb4⟩
        have hB4 : Below w.heap.size w w4 := hB3.trans (hb4.mono hB3.size)
        obtain ⟨va4, vc4, rfl⟩ := iOwn_form ho4
        have HO4 := hide (iOwn_lower ho4 hB3.size)
        clear HKK ho4 hb4 HOw3
        cases cc with
        | none =>
          have hRe : R = none := by rw [HRj.out, HNm.out]
          have HRe := hide hRe
          clear hRe
          have e1 : rB (Option.map (fun p : Cc × F => p.1 :: p.2.flat) none) = false := rfl
          have e2 : (rL (Option.map (fun p : Cc × F => p.1 :: p.2.flat) none)).length = 0 := rfl
          rw [e1, e2]
          clear e1 e2
          go_wp2_with fail
          refine bodyPost_ret (v := .tuple #[.slice none 0 0, .int .i64 0, .bool false]) (by simp [results, Try.results21, go_sem]) rfl ?_
          rw [HRe.out]
          exact ⟨_, rfl, World.ownsRow_nil _ _ _ _, hB4⟩
        | some q =>
          have e1 : rB (Option.map (fun p : Cc × F => p.1 :: p.2.flat) (some q)) = goodT (q.1 :: q.2.flat) := rfl
          have e2 : rL (Option.map (fun p : Cc × F => p.1 :: p.2.flat) (some q)) = gd (q.1 :: q.2.flat) := rfl
          rw [e2] at HO4
          rw [e1, e2]
          cases hgq : goodT (q.1 :: q.2.flat) with
          | true =>
            have e3 : gd (q.1 :: q.2.flat) = q.1 :: q.2.flat := if_pos hgq
            rw [e3] at HO4 ⊢
            obtain ⟨hokq, hq6⟩ := good_back (fh_fit hok HF1.out) hgq
            have hRe : R = nm (S - (j + 1)) (j + 1) q := by
              rw [HRj.out, HNm.out]
              simp only
              rw [if_pos hgq]
            have HRe := hide hRe
            have HOq := hide hokq
            obtain ⟨QN, hQN⟩ : ∃ QN, QN = (q.1 :: q.2.flat).length := ⟨_, rfl⟩
            rw [← hQN] at HO4 ⊢
            have HQN := hide hQN
            clear hRe e1 e2 e3 hgq hokq hQN HNm HF1
            go_wp2_with fail
            exact ⟨⟨q, j + 1, by omega, by go_num, HOq.out, hq6, HRe.out, by have h := HO4.out; rw [HQN.out, List.length_cons] at h; rw [HQN.out, List.length_cons]; exact h, hB4⟩, by simp [intOf]; omega⟩
          | false =>
            have e3 : gd (q.1 :: q.2.flat) = [] := if_neg (by rw [hgq]; simp)
            rw [e3] at HO4 ⊢
            have hRe : R = none := by
              rw [HRj.out, HNm.out]
              simp only
              rw [if_neg (by rw [hgq]; simp)]
            have HRe := hide hRe
            clear hRe e1 e2 e3 hgq HNm HF1
            go_wp2_with fail
            refine bodyPost_ret (v := .tuple #[.slice none 0 0, .int .i64 0, .bool false]) (by simp [results, Try.results21, go_sem]) rfl ?_
            rw [HRe.out]
            exact ⟨_, rfl, World.ownsRow_nil _ _ _ _, hB4⟩
    · obtain rfl : j = S := by omega
      have hRe : R = some (p, j) := by rw [HRj.out, Nat.sub_self]; rfl
      have HRe := hide hRe
      obtain ⟨N, hN⟩ : ∃ N, N = p.2.flat.length + 1 := ⟨_, rfl⟩
      rw [← hN] at HOw hcc ⊢
      have HNe := hide hN
      clear hRe hOw hOw' hrow hrow' hN HRj
      go_wp2_with fail
      refine bodyPost_ret (v := .tuple #[.slice (some ⟨g, 0, none⟩) N cap, .int .i64 (j : Int), .bool true]) (by simp [results, Try.results21, go_sem]) rfl ?_
      rw [HRe.out]
      exact ⟨_, rfl, by show wr.ownsRow _ _ 2 _ (p.1 :: p.2.flat).length (cv (p.1 :: p.2.flat)); rw [List.length_cons, ← HNe.out]; exact HOw.out, hB⟩

set_option maxRecDepth 20000 in
set_option maxHeartbeats 2000000 in
theorem implNormal_bad (ad : Option Addr) (c : Nat) (l : List Cc) (s : Int) (w : World) (hl : l.length ≤ 1048576) (h : CRow w ad l) (hb : goodT l = false ∨ inB s 0 60 = false) :
    Calls Try.prog 21 #[.slice ad l.length c, .int .i64 s] w fun e w' => RN w none e w' := by
  have HC := hide (implGoodT_any ad c l w hl h)
  clear h
  by_cases hg : goodT l = true
  · have hs : inB s 0 60 = false := by
      rcases hb with h | h
      · rw [hg] at h; cases h
      · exact h
    rw [hg] at HC
    by_cases h0 : s < 0
    · clear hb hg hs
      go_enter Try.func21, Try.ntmps21
      go_wp2_with fail
      refine Calls.mono HC.out ?_
      rintro e w1 ⟨rfl, hb1⟩
      go_wp2_with fail
      exact bodyPost_ret (v := .tuple #[.slice none 0 0, .int .i64 0, .bool false]) (by simp [results, Try.results21, go_sem]) rfl ⟨_, rfl, World.ownsRow_nil _ _ _ _, hb1⟩
    · have h6 : (60 : Int) < s := by
        simp [inB] at hs
        omega
      clear hb hg hs
      go_enter Try.func21, Try.ntmps21
      go_wp2_with fail
      refine Calls.mono HC.out ?_
      rintro e w1 ⟨rfl, hb1⟩
      go_wp2_with fail
      exact bodyPost_ret (v := .tuple #[.slice none 0 0, .int .i64 0, .bool false]) (by simp [results, Try.results21, go_sem]) rfl ⟨_, rfl, World.ownsRow_nil _ _ _ _, hb1⟩
  · rw [Bool.not_eq_true] at hg
    rw [hg] at HC
    clear hb hg
    go_enter Try.func21, Try.ntmps21
    go_wp2_with fail
    refine Calls.mono HC.out ?_
    rintro e w1 ⟨rfl, hb1⟩
    go_wp2_with fail
    exact bodyPost_ret (v := .tuple #[.slice none 0 0, .int .i64 0, .bool false]) (by simp [results, Try.results21, go_sem]) rfl ⟨_, rfl, World.ownsRow_nil _ _ _ _, hb1⟩

theorem implNormal_any (ad : Option Addr) (c : Nat) (l : List Cc) (s : Int) (w : World) (hl : l.length ≤ 1048576) (h : CRow w ad l) :
    Calls Try.prog 21 #[.slice ad l.length c, .int .i64 s] w fun e w' => RN w (nmR l s) e w' := by
  cases hs : inB s 0 60 with
  | false =>
    have hr : nmR l s = none := by unfold nmR; rw [if_neg (by rw [hs]; simp)]
    rw [hr]
    exact implNormal_bad ad c l s w hl h (.inr hs)
  | true =>
    have h5 : 0 ≤ s ∧ s ≤ 60 := by simpa [inB] using hs
    obtain ⟨S, rfl⟩ := Int.eq_ofNat_of_zero_le h5.1
    cases ht : treeT l with
    | none =>
      have hr : nmR l (S : Int) = none := by unfold nmR; rw [if_pos hs, ht]
      rw [hr]
      exact implNormal_bad ad c l _ w hl h (.inl (by unfold goodT; rw [ht]; rfl))
    | some t =>
      obtain ⟨x, k, rfl⟩ := F.len_1 (treeT_flat ht).2.2.1
      exact implNormal_good ad c l S x k w hl (by omega) ht h
end Go.Proofs.Ytbimfnnbfbfdoab.W

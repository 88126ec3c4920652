/-
  A term at the front developed by the program: a contract of developedAhead. Conditions: good terms.
-/
import Derived.Test.YtbimfnnbfbfdoabTeDm
import Derived.Test.YtbimfnnbfbfdoabTeKb
namespace Go.Proofs.Ytbimfnnbfbfdoab.W
open Go.ChangeShapes Go.WideShapes Go.ChangeAt Go.RowKit
set_option linter.unusedVariables false

theorem dvF_app : ∀ a b : F, dvF (a.app b) = match dvF a with | none => none | some a' => (dvF b).map fun b' => a'.app b'
  | .nil, b => by show dvF b = (dvF b).map _; cases dvF b <;> rfl
  | .cons y ky r, b => by
    show dvF (.cons y ky (r.app b)) = _
    rw [dvF_cons, dvF_cons, dvF_app r b]
    cases dv y ky with
    | none => rfl
    | some p =>
      cases dvF r with
      | none => rfl
      | some r' => cases dvF b <;> rfl
theorem dv_600 {y : Cc} {ky : F} (hok : okT y ky) (hl : ky.flat.length + 1 ≤ 600) {p : Cc × F} (h : dv y ky = some p) : p.2.flat.length + 1 ≤ 600 := by
  unfold dv at h
  split at h
  · cases h
  · rename_i k' hk'
    split at h
    · rename_i h6
      by_cases hrd : redx y ky = true
      · rw [if_pos hrd] at h
        exact (ctrO_B (dv_red hok hrd hk' (dvF_B hok.2.2 (by omega) hk')) (by omega) (by omega) h6 h).2
      · rw [if_neg hrd] at h
        simp only [Option.some.injEq] at h
        subst h
        exact h6
    · cases h
/-- What developedAhead tells. -/
def DO (w w' : World) (b o c : Nat) (n : Nat) (m : Nat) (r : Option (Cc × F)) (e : Ending) : Prop :=
  match r with
  | none => ∃ a1 n1 c1 a2 n2 c2, e = .returned (.tuple #[.slice a1 n1 c1, .slice a2 n2 c2, .bool false])
  | some p => ∃ s' q, e = .returned (.tuple #[s', .slice (some ⟨b, q, none⟩) m (c - n), .bool true]) ∧ (0 < m → q = o + n * 2) ∧ w'.ownsRow w.heap.size 46 2 s' (p.1 :: p.2.flat).length (cv (p.1 :: p.2.flat))
def DAGoal (k : F) : Prop := ∀ (x : Cc) (r : List Cc) (b o c : Nat) (w : World), okT x k → (k.flat ++ r).length + 1 ≤ 600 → (k.flat ++ r).length + 1 ≤ c → CRowAt w b o (x :: (k.flat ++ r)) →
    Calls Try.prog 31 #[.slice (some ⟨b, o, none⟩) ((k.flat ++ r).length + 1) c] w fun e w' => DO w w' b o c (k.flat.length + 1) r.length (dv x k) e ∧ Below w.heap.size w w'

set_option maxRecDepth 20000 in
set_option maxHeartbeats 4000000 in
theorem developedAhead_any : ∀ k, DAGoal k := by
  apply F.rec_kids
  intro k ih x r b o c w hok hl hc h
  have IH := hide ih
  have HOk := hide hok
  have HRow := hide h
  obtain ⟨i0, hi0, hz0, hz1, hz2⟩ := infoPartsT infoCe
  have Hi := hide hi0
  have hp := h.2 0 (by simp)
  simp only [Nat.zero_mul, Nat.add_zero, List.getElem_cons_zero] at hp
  obtain ⟨p0, p1⟩ := hp
  have hbw := h.1
  obtain ⟨R, hR⟩ : ∃ R, R = dv x k := ⟨_, rfl⟩
  rw [← hR]
  have HR := hide hR
  have hka := hok.2.1
  obtain ⟨KN, hKN⟩ : ∃ KN, KN = ar x.k := ⟨_, rfl⟩
  have HKN : Hid (KN = k.len) := hide (by rw [hKN, hka])
  have HTb := hide (fun w' => termsBehind_any x.k w')
  rw [← hKN] at HTb
  obtain ⟨TL, hTL⟩ : ∃ TL, TL = (k.flat ++ r).length := ⟨_, rfl⟩
  rw [← hTL] at hl hc ⊢
  have HTL := hide hTL
  have hc1 : (1 : Int) ≤ (c : Int) := by omega
  have hl1 : (1 : Int) ≤ ((TL + 1 : Nat) : Int) := by omega
  have hlc : ((TL + 1 : Nat) : Int) ≤ (c : Int) := by omega
  have hl0 : (0 : Int) < ((TL + 1 : Nat) : Int) := by omega
  clear ih hok h hi0 hR hka hKN hTL
  by_cases hcc : c = 1
  · subst hcc
    obtain rfl : TL = 0 := by omega
    have hnil : k.flat ++ r = [] := List.eq_nil_of_length_eq_zero HTL.out.symm
    have hk0 : k = .nil := by
      cases k with
      | nil => rfl
      | cons y ky s => simp [F.flat] at hnil
    subst hk0
    have hr0 : r = [] := by simpa [F.flat] using hnil
    subst hr0
    obtain rfl : KN = 0 := HKN.out
    have hrd : redx x .nil = false := by
      cases h9 : redx x .nil with
      | false => rfl
      | true => exact absurd (red_of HOk.out h9) (fun h8 => by cases h8 with
        | app y d z kd kz hx hk' => cases hk'
        | lett y d ky kd hx hk' => cases hk'
        | add y z hx hk' => cases hk'
        | iff y z u kz ku hx hk' => cases hk')
    have hRe : R = some (x, .nil) := by rw [HR.out]; unfold dv; simp [dvF, F.flat, hrd]
    subst hRe
    have hfr := front HOk.out.1 HOk.out.2.1 HOk.out.2.2 []
    have HRx := hide (fun (w' : World) (hb : Below w.heap.size w w') => isRedex_any (some ⟨b, o, none⟩) 1 (x :: (F.nil.flat ++ [])) w' (by simp [F.flat]) hfr.2 (.inr ⟨b, o, rfl, HRow.out.below hb⟩))
    rw [hfr.1, hrd] at HRx
    have hlen : (x :: (F.nil.flat ++ [])).length = 0 + 1 := rfl
    rw [hlen] at HRx
    clear hnil hfr hrd hlen HR
    go_enter Try.func31, Try.ntmps31
    go_wp2_with fail
    obtain ⟨w0, hw0⟩ : ∃ w0, w0 = w.alloc (.cells #[.int .i64 x.k, .int .i64 x.n] 46) := ⟨_, rfl⟩
    rw [← hw0]
    have hB0 : Below w.heap.size w w0 := by rw [hw0]; exact (Below.refl _ _).alloc (Nat.le_refl _) _
    have HO0 : Hid (w0.ownsRow w.heap.size 46 2 (.slice (some ⟨w.heap.size, 0, none⟩) 1 1) 1 (cv [x])) := hide (by rw [hw0]; exact ⟨rfl, .inr ⟨w.heap.size, 1, _, rfl, Nat.le_refl _, heap_alloc_new _ _, Nat.le_refl _, by decide, rfl, rfl⟩⟩)
    clear hw0 p0 p1
    refine Calls.mono (HTb.out _) ?_
    rintro e w' ⟨rfl, rfl⟩
    clear HTb
    go_wp2_with fail
    refine wp_loop_rounds 1 ?_
    rw [rounds_succ]
    go_wp2_with fail
    refine Calls.mono (HRx.out _ hB0) ?_
    rintro e w2 ⟨rfl, hb2⟩
    go_wp2_with fail
    exact bodyPost_ret (v := .tuple #[.slice (some ⟨w.heap.size, 0, none⟩) 1 1, .slice (some ⟨b, o, none⟩) 0 0, .bool true]) (by simp [results, Try.results31, go_sem]) rfl ⟨⟨_, o, rfl, fun h => absurd h (Nat.lt_irrefl _), tOwn_keep HO0.out (fun k _ hk => hb2.block k hk)⟩, hB0.trans (hb2.mono hB0.size)⟩
  go_enter Try.func31, Try.ntmps31
  go_wp2_with fail
  obtain ⟨w0, hw0⟩ : ∃ w0, w0 = w.alloc (.cells #[.int .i64 x.k, .int .i64 x.n] 46) := ⟨_, rfl⟩
  rw [← hw0]
  have hB0 : Below w.heap.size w w0 := by rw [hw0]; exact (Below.refl _ _).alloc (Nat.le_refl _) _
  have HO0 : Hid (w0.ownsRow w.heap.size 46 2 (.slice (some ⟨w.heap.size, 0, none⟩) 1 1) 1 (cv [x])) := hide (by rw [hw0]; exact ⟨rfl, .inr ⟨w.heap.size, 1, _, rfl, Nat.le_refl _, heap_alloc_new _ _, Nat.le_refl _, by decide, rfl, rfl⟩⟩)
  clear hw0 p0 p1
  refine Calls.mono (HTb.out _) ?_
  rintro e w' ⟨rfl, rfl⟩
  clear HTb
  go_wp2_with fail
  go_loopw [5, 6, 23] (fun v rs i w' => ∃ (a bb a' : F) (q : Nat), k = a.app bb ∧ i = .int .i64 (a.len : Int) ∧ dvF a = some a' ∧ rs = .slice (some ⟨b, q, none⟩) ((bb.flat ++ r).length) (c - (a.flat.length + 1)) ∧ (0 < (bb.flat ++ r).length → q = o + (a.flat.length + 1) * 2) ∧ w'.ownsRow w.heap.size 46 2 v (x :: a'.flat).length (cv (x :: a'.flat)) ∧ (a'.flat.length ≤ 600 * a.len) ∧ Below w.heap.size w w') (fun _ _ i _ => KN - (intOf i).toNat)
  case atStart => exact ⟨.nil, k, .nil, o + 2, rfl, rfl, rfl, by rw [← HTL.out]; rfl, fun _ => by simp [F.flat], HO0.out, by simp [F.flat, F.len], hB0⟩
  case round =>
    obtain ⟨a, bb, a', q, hk, rfl, hda, rfl, hq, hOw, ha4, hB⟩ := hrel
    have HDa := hide hda
    have HQ := hide hq
    have HOw := hide hOw
    obtain ⟨oa, oc, rfl⟩ := iOwn_form hOw
    clear hda hq hOw HO0 hB0
    cases bb with
    | nil =>
      rw [F.app_nil] at hk
      subst hk
      have hKL := HKN.out
      rw [← hKL]
      have hfr := front HOk.out.1 HOk.out.2.1 HOk.out.2.2 r
      have hlen : (x :: (k.flat ++ r)).length = TL + 1 := by rw [HTL.out]; simp
      have HRx := hide (fun (w' : World) (hb : Below w.heap.size w w') => isRedex_any (some ⟨b, o, none⟩) c (x :: (k.flat ++ r)) w' (by omega) hfr.2 (.inr ⟨b, o, rfl, HRow.out.below hb⟩))
      rw [hfr.1, hlen] at HRx
      have hkf : k.flat.length ≤ 600 := by have := HTL.out; simp at this; omega
      obtain ⟨RL, hRL⟩ : ∃ RL, RL = r.length := ⟨_, rfl⟩
      have e8 : (F.nil.flat ++ r).length = RL := by rw [hRL]; rfl
      rw [e8] at HQ ⊢
      obtain ⟨KF, hKF⟩ : ∃ KF, KF = k.flat.length := ⟨_, rfl⟩
      rw [← hKF] at HQ ⊢
      obtain ⟨ON, hON⟩ : ∃ ON, ON = (x :: a'.flat).length := ⟨_, rfl⟩
      have hON1 : ON = a'.flat.length + 1 := by rw [hON]; rfl
      have HKF := hide hKF
      have HRL := hide hRL
      have HON := hide hON
      have hdv : R = if a'.flat.length + 1 ≤ 600 then (if redx x k = true then ctrO x a' else some (x, a')) else none := by rw [HR.out]; unfold dv; rw [HDa.out]
      rw [← hON1] at hdv
      have HDv := hide hdv
      have HWk := hide (fun hrd => dv_red HOk.out hrd HDa.out (dvF_B HOk.out.2.2 hkf HDa.out))
      rw [← hON] at HOw ⊢
      clear hfr hlen hKL hRL hKF hON e8 hdv hON1 IH ha4
      by_cases h6 : ON ≤ 600
      · have h6' : ¬ (600 : Int) < (ON : Int) := by omega
        go_wp2_with fail
        refine Calls.mono (HRx.out _ hB) ?_
        rintro e w2 ⟨rfl, hb2⟩
        have hB2 : Below w.heap.size w w2 := hB.trans (hb2.mono hB.size)
        have HO2 := hide (tOwn_keep HOw.out (fun k _ hk => hb2.block k hk))
        clear HRx hb2 HOw
        cases hrd : redx x k with
        | false =>
          have hRe : R = some (x, a') := by rw [HDv.out, if_pos h6, if_neg (by rw [hrd]; simp)]
          subst hRe
          clear hrd
          go_wp2_with fail
          refine bodyPost_ret (v := .tuple #[.slice oa ON oc, .slice (some ⟨b, q, none⟩) RL (c - (KF + 1)), .bool true]) (by simp [results, Try.results31, go_sem]) rfl ⟨⟨_, q, by rw [HRL.out, HKF.out], by rw [← HRL.out, ← HKF.out]; exact HQ.out, ?_⟩, hB2⟩
          have h := HO2.out
          rw [HON.out] at h ⊢
          exact h
        | true =>
          have hRe : R = ctrO x a' := by rw [HDv.out, if_pos h6, if_pos hrd]
          have hred := HWk.out hrd
          have hO2 : w2.ownsRow w.heap.size 46 2 (.slice oa ON oc) (x :: a'.flat).length (cv (x :: a'.flat)) := by have h := HO2.out; rw [HON.out] at h ⊢; exact h
          obtain ⟨g, cap, he, hgb, hgl⟩ := tOwn_some hO2 (by simp)
          obtain ⟨ad2, c2, he2, hc2, hrow2⟩ := cOwn_row hO2
          simp only [Value.slice.injEq] at he he2
          obtain ⟨rfl, -, rfl⟩ := he
          obtain ⟨rfl, -, rfl⟩ := he2
          have hrow3 : CRowAt w2 g 0 (x :: a'.flat) := by
            rcases hrow2 with h0 | ⟨b', o', h1, h2⟩
            · cases h0
            · simp only [Option.some.injEq, Addr.mk.injEq] at h1
              obtain ⟨rfl, rfl, -⟩ := h1
              exact h2
          have HCt := hide (contracted_w (B := 99 + 600 * k.flat.length) (by omega) g 0 oc x a' w2 hred ON (by rw [HON.out]; rfl) h6 (by rw [HON.out]; exact hc2) hrow3)
          rw [← hRe] at HCt
          clear hRe hred hO2 hrow2 hrow3 hc2 hrd
          go_wp2_with fail
          refine Calls.mono HCt.out ?_
          rintro e w3 ⟨s3, rfl, ho3, hb3⟩
          have hB3 : Below w.heap.size w w3 := hB2.trans (hb3.mono hB2.size)
          have HO3 := hide (iOwn_lower ho3 hB2.size)
          obtain ⟨a3, c3, rfl⟩ := iOwn_form ho3
          clear HCt ho3 hb3
          cases R with
          | none =>
            go_wp2_with fail
            exact bodyPost_ret (v := .tuple #[.slice a3 0 c3, .slice (some ⟨b, q, none⟩) RL (c - (KF + 1)), .bool false]) (by simp [results, Try.results31, go_sem]) rfl ⟨⟨_, _, _, _, _, _, rfl⟩, hB3⟩
          | some p =>
            simp only [Option.map_some, Option.getD_some, Option.isSome_some] at HO3 ⊢
            obtain ⟨PN, hPN⟩ : ∃ PN, PN = (p.1 :: p.2.flat).length := ⟨_, rfl⟩
            rw [← hPN] at HO3 ⊢
            have HPN := hide hPN
            clear hPN
            go_wp2_with fail
            refine bodyPost_ret (v := .tuple #[.slice a3 PN c3, .slice (some ⟨b, q, none⟩) RL (c - (KF + 1)), .bool true]) (by simp [results, Try.results31, go_sem]) rfl ⟨⟨_, q, by rw [HRL.out, HKF.out], by rw [← HRL.out, ← HKF.out]; exact HQ.out, ?_⟩, hB3⟩
            have h := HO3.out
            rw [HPN.out] at h ⊢
            exact h
      · have h6' : (600 : Int) < (ON : Int) := by omega
        have hRe : R = none := by rw [HDv.out, if_neg h6]
        subst hRe
        go_wp2_with fail
        exact bodyPost_ret (v := .tuple #[.slice none 0 0, .slice none 0 0, .bool false]) (by simp [results, Try.results31, go_sem]) rfl ⟨⟨_, _, _, _, _, _, rfl⟩, hB⟩
    | cons y ky bb =>
      have hO := HOk.out.2.2
      rw [hk] at hO
      obtain ⟨gy, ly, oy, orr⟩ := ((F.app_ok _ _).1 hO).2
      have hI := IH.out
      rw [hk] at hI
      have hfk : k.flat = a.flat ++ (y :: (ky.flat ++ bb.flat)) := by rw [hk, F.app_flat]; simp [F.flat]
      have hTl : TL = a.flat.length + (ky.flat ++ (bb.flat ++ r)).length + 1 := by rw [HTL.out, hfk]; simp; omega
      have hkl2 : KN = a.len + (bb.len + 1) := by rw [HKN.out, hk, F.app_len]; rfl
      have hlt' : (a.len : Int) < (KN : Int) := by omega
      have e9 : ((F.cons y ky bb).flat ++ r).length = (ky.flat ++ (bb.flat ++ r)).length + 1 := by simp [F.flat]
      have hqe := HQ.out (by rw [e9]; omega)
      have hrw : CRowAt w b (o + (a.flat.length + 1) * 2) (y :: (ky.flat ++ (bb.flat ++ r))) := by
        have h1 := HRow.out
        rw [hfk, show x :: (a.flat ++ (y :: (ky.flat ++ bb.flat)) ++ r) = (x :: a.flat) ++ (y :: (ky.flat ++ (bb.flat ++ r))) by simp] at h1
        have := h1.back
        simpa using this
      rw [hqe, e9]
      have HCl := hide (fun (w' : World) (hb : Below w.heap.size w w') => F.all_at hI y (bb.flat ++ r) b (o + (a.flat.length + 1) * 2) (c - (a.flat.length + 1)) w' ⟨gy, ly, oy⟩ (by omega) (by omega) (hrw.below hb))
      have HSn := hide (hk.trans (F.app_snoc a ky bb y))
      have HDl : Hid ((a.app (.cons y ky .nil)).len = a.len + 1) := hide (by rw [F.app_len]; rfl)
      have HFl : Hid ((a.app (.cons y ky .nil)).flat.length = a.flat.length + (ky.flat.length + 1)) := hide (by rw [F.app_flat]; simp [F.flat])
      have HDn : Hid (dv y ky = none → R = none) := hide (fun hv => by
        rw [HR.out]; unfold dv; rw [hk, dvF_app, HDa.out]; simp only; rw [dvF_cons, hv]; rfl)
      have HDs : Hid (∀ p, dv y ky = some p → dvF (a.app (.cons y ky .nil)) = some (a'.app (.cons p.1 p.2 .nil))) := hide (fun p hv => by
        rw [dvF_app, HDa.out]; simp only; rw [dvF_cons, hv]; rfl)
      have hky : ky.flat.length + 1 ≤ 600 := by have h9 := hTl; simp at h9; omega
      obtain ⟨CM, hCM⟩ : ∃ CM, CM = dv y ky := ⟨_, rfl⟩
      rw [← hCM] at HCl HDn HDs
      obtain ⟨AL, hAL⟩ : ∃ AL, AL = a.len := ⟨_, rfl⟩
      obtain ⟨AF, hAF⟩ : ∃ AF, AF = a.flat.length := ⟨_, rfl⟩
      obtain ⟨RF, hRF⟩ : ∃ RF, RF = (ky.flat ++ (bb.flat ++ r)).length := ⟨_, rfl⟩
      rw [← hAL] at hlt' HDl ⊢
      rw [← hAF] at HCl HFl hTl ⊢
      rw [← hRF] at HCl hTl ⊢
      have HAL := hide hAL
      have hAL3 : AL ≤ 3 := by have h1 := ar_le x.k; have h2 := HOk.out.2.1; have h3 := HKN.out; omega
      rw [← hAL] at ha4
      obtain ⟨ON, hON⟩ : ∃ ON, ON = (x :: a'.flat).length := ⟨_, rfl⟩
      have hON1 : ON = a'.flat.length + 1 := by rw [hON]; rfl
      rw [← hON] at HOw ⊢
      have HON := hide hON
      obtain ⟨KF, hKF⟩ : ∃ KF, KF = ky.flat.length := ⟨_, rfl⟩
      rw [← hKF] at HCl HFl hky
      obtain ⟨ML, hML⟩ : ∃ ML, ML = (bb.flat ++ r).length := ⟨_, rfl⟩
      rw [← hML] at HCl
      have HML := hide hML
      have HP6 := hide (fun p hv => dv_600 ⟨gy, ly, oy⟩ (hKF ▸ hky) (p := p) (hCM ▸ hv))
      have hKFl : AF + (KF + 1) ≤ TL := by rw [hTl, hRF, hKF]; simp; omega
      have hON2 : ON ≤ 2000 := by omega
      clear hO gy ly oy orr hI hfk hkl2 hqe hrw hk hAL hCM e9 hON hKF hML hAF hRF hON1 hTl
      go_wp2_with fail
      refine Calls.mono (HCl.out _ hB) ?_
      rintro e w2 ⟨hdo, hb2⟩
      have hB2 : Below w.heap.size w w2 := hB.trans (hb2.mono hB.size)
      have HO2 := hide (tOwn_keep HOw.out (fun k _ hk => hb2.block k hk))
      have hol : ∀ q, (Value.slice oa ON oc).ownBlock = some q → w.heap.size ≤ q := fun q hq => (HOw.out.lt q hq).1
      have hs2 := hb2.size
      clear HCl HOw hb2
      cases CM with
      | none =>
        obtain ⟨a1, n1, c1, a2, n2, c2, rfl⟩ := hdo
        have hRn := HDn.out rfl
        subst hRn
        clear HDn HDs HP6
        go_wp2_with fail
        exact bodyPost_ret (v := .tuple #[.slice none 0 0, .slice none 0 0, .bool false]) (by simp [results, Try.results31, go_sem]) rfl ⟨⟨_, _, _, _, _, _, rfl⟩, hB2⟩
      | some p =>
        obtain ⟨s', q', rfl, hq', ho'⟩ := hdo
        have hDs := HDs.out p rfl
        have hp6 := HP6.out p rfl
        obtain ⟨g', cap', rfl, -, hg', hcs⟩ := tOwn_lies ho' (by simp)
        obtain ⟨PN, hPN⟩ : ∃ PN, PN = (p.1 :: p.2.flat).length := ⟨_, rfl⟩
        have hPN1 : PN = p.2.flat.length + 1 := by rw [hPN]; rfl
        have HNw : Hid (∀ j u, (cv (p.1 :: p.2.flat))[j]? = some u → w2.cell? ((⟨g', 0, none⟩ : Addr).add j) = some u) := hide (fun j u hu => by
          have h9 := hcs j u hu
          by_cases hj : j = 0
          · subst hj; simpa [Addr.add] using h9
          · simpa [Addr.add, hj] using h9)
        have HCv : Hid ((cv (p.1 :: p.2.flat)).length = PN * 2) := hide (by rw [cv_len, hPN])
        rw [← hPN] at ⊢
        have HPN := hide hPN
        have HDs2 := hide hDs
        have HQ2 := hide hq'
        clear HDn HDs HP6 hDs hq' ho' hcs hPN
        have hM1 : ON + PN ≤ maxLen := by unfold maxLen; omega
        have hM2 : (ON + PN) * 16 ≤ 140737488355328 := by omega
        have HPN1 := hide hPN1
        clear hPN1
        go_wp2_with (at_builtin; refine wpList_append_own _ rfl _ _ 24 rfl w.heap.size 46 i0 (.agg #[.int .i64 0, .int .i64 0]) 2 16 Try.underlying24 Hi.out hz0 hz1 hz2 rfl (by decide) _ ON (cv (x :: a'.flat)) rfl HO2.out ⟨g', 0, none⟩ PN cap' (cv (p.1 :: p.2.flat)) rfl HCv.out HNw.out (cv_one _) hM1 hM2 hB2.size ?_)
        intro v6 w6 hown6 hgr6 _
        have hB6 : Below w.heap.size w w6 := hB2.grown hgr6 hB2.size (fun q hq => hol q hq)
        obtain ⟨va, vc, rfl⟩ := iOwn_form hown6
        have HO6 := hide hown6
        clear hown6 hgr6 HNw HCv HO2
        go_wp2_with fail
        have e5 : x :: (a'.app (.cons p.1 p.2 .nil)).flat = (x :: a'.flat) ++ (p.1 :: p.2.flat) := by rw [F.app_flat]; simp [F.flat]
        refine ⟨⟨a.app (.cons y ky .nil), bb, a'.app (.cons p.1 p.2 .nil), q', HSn.out, by rw [HDl.out]; go_num, HDs2.out, ?_, fun hpos => ?_, ?_, ?_, hB6⟩, by simp [intOf]; omega⟩
        · rw [← HML.out, HFl.out, show c - (AF + 1) - (KF + 1) = c - (AF + (KF + 1) + 1) by omega]
        · rw [HQ2.out (by rw [HML.out]; exact hpos), HFl.out]; omega
        · rw [e5, List.length_append, ← HON.out, ← HPN.out, cv_app]; exact HO6.out
        · rw [F.app_flat, HDl.out]; simp [F.flat]; omega
end Go.Proofs.Ytbimfnnbfbfdoab.W

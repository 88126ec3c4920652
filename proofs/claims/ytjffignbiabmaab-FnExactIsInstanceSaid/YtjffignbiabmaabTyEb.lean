/-
  Types in the place of a type's variables, by the specification: the contract of l5Match. Conditions: as the theorem states.
-/
import Derived.Test.YtjffignbiabmaabTyEa
namespace Go.Proofs.Ytjffignbiabmaab.Y
open Go.Proofs.Ytjffignbiabmaab.W
open Go.ChangeShapes Go.WideShapes Go.ChangeAt Go.RowKit
set_option linter.unusedVariables false

set_option maxRecDepth 20000 in
set_option maxHeartbeats 4000000 in
theorem l5Match_any : ∀ k, L5MGoal k := by
  apply F.rec_kids
  intro kb ih x y ka s1 s2 H K σ w hx hy hl1 hl2 hHK hT1 hT2 hST
  obtain ⟨gx, lx, okx, -⟩ : goodC x = true ∧ ka.len = ar x.k ∧ ka.ok ∧ F.nil.ok := hx
  obtain ⟨gy, ly, oky, -⟩ : goodC y = true ∧ kb.len = ar y.k ∧ kb.ok ∧ F.nil.ok := hy
  by_cases hyk : y.k = 1
  · have hy30 := good_v gy hyk
    obtain ⟨yk, yn⟩ := y
    simp only at hyk hy30
    subst hyk
    obtain ⟨m, rfl⟩ := Int.eq_ofNat_of_zero_le hy30.1
    have e1 : mt1 x ka ⟨1, (m : Int)⟩ kb σ = bind1 σ (m : Int) (x :: ka.flat) := if_pos rfl
    rw [e1]
    obtain ⟨ad2, c2, rfl⟩ := hT2.form
    exact l5Match_var x m ka kb s1 _ H K σ w ⟨gx, lx, okx, trivial⟩ (by omega) hl1 hHK hT1 ⟨_, _, _, rfl⟩ hST
  · have hykb : (y.k == 1) = false := by simpa using hyk
    obtain ⟨ad1, c1, rfl⟩ := hT1.form
    obtain ⟨ad2, c2, rfl⟩ := hT2.form
    have HST := hide hST
    by_cases hk : x.k = y.k
    · have e1 : mt1 x ka y kb σ = mtF ka kb σ := by unfold mt1; rw [if_neg hyk, if_pos hk]
      rw [e1]
      clear e1
      have hLL : ka.len = kb.len := by rw [lx, ly, hk]
      have IH := hide ih
      have HT1 := hide hT1
      have HT2 := hide hT2
      have HOx := hide okx
      have HOy := hide oky
      have hHl := hST.ltH
      have hKl := hST.ltK
      obtain ⟨M, hM⟩ : ∃ M, M = mtF ka kb σ := ⟨_, rfl⟩
      rw [← hM]
      have HM := hide hM
      have hkl1 := F.len_flat ka
      have hkl2 := F.len_flat kb
      obtain ⟨KL, hKL⟩ : ∃ KL, KL = ka.len := ⟨_, rfl⟩
      have HKL := hide hKL
      have HKL2 : Hid (KL = kb.len) := hide (by rw [hKL, hLL])
      rw [← hLL, ← hKL]
      rw [← hKL] at HT1 hkl1
      rw [← hLL, ← hKL] at HT2 hkl2
      have hkb' : (x.k == y.k) = true := by simpa using hk
      have hkb2 : (x.k != y.k) = false := by simp [hk]
      rw [hk]
      clear lx ly hLL hKL ih hT1 hT2 okx oky gx gy hM hST hk hkb' hkb2
      go_enter Try.func79, Try.ntmps79
      go_wp2_with fail
      obtain ⟨w0, hw0⟩ : ∃ w0, w0 = (w.alloc (.cells #[.int .i64 y.k, .int .i64 x.n, .slice ad1 KL c1] 64)).alloc (.cells #[.int .i64 y.k, .int .i64 y.n, .slice ad2 KL c2] 64) := ⟨_, rfl⟩
      have hB0 : Below w.heap.size w w0 := by rw [hw0]; exact ((Below.refl _ _).alloc (Nat.le_refl _) _).alloc (by simp) _
      have hb1 : w0.heap[w.heap.size]? = some (.cells #[.int .i64 y.k, .int .i64 x.n, .slice ad1 KL c1] 64) := by rw [hw0, heap_alloc_old _ _ (by simp)]; exact heap_alloc_new _ _
      have hb2 : w0.heap[w.heap.size + 1]? = some (.cells #[.int .i64 y.k, .int .i64 y.n, .slice ad2 KL c2] 64) := by rw [hw0]; have := heap_alloc_new (w.alloc (.cells #[.int .i64 y.k, .int .i64 x.n, .slice ad1 KL c1] 64)) (.cells #[.int .i64 y.k, .int .i64 y.n, .slice ad2 KL c2] 64); simpa using this
      have hsz0 : w0.heap.size = w.heap.size + 1 + 1 := by rw [hw0]; simp
      have a0 : w0.cell? ⟨w.heap.size, 2, none⟩ = some (.slice ad1 KL c1) := (cell_of_blk hb1 2).trans rfl
      have a1 : w0.cell? ⟨w.heap.size + 1, 2, none⟩ = some (.slice ad2 KL c2) := (cell_of_blk hb2 2).trans rfl
      rw [← hw0]
      have HO0 : Hid (Ot H K w w0) := hide (Ot.ofBelow hB0)
      have HST0 := hide (HST.out.below hB0)
      clear hw0 hb1 hb2 hB0
      go_loopw [42] (fun i w' => ∃ (d d' p q : F) (τ : Sg), ka = d.app p ∧ kb = d'.app q ∧ d'.len = d.len ∧ i = .int .i64 (d.len : Int) ∧ M = mtF p q τ ∧ ST w' H K τ ∧ Ot H K w0 w') (fun i _ => KL - (intOf i).toNat)
      case atStart => exact ⟨.nil, .nil, ka, kb, σ, rfl, rfl, rfl, rfl, HM.out, HST0.out, Ot.refl _ _ _⟩
      case round =>
        obtain ⟨d, d', p, q, τ, hka, hkb, hdd, rfl, hMM, hSr, hOr⟩ := hrel
        have HMM := hide hMM
        have HSr := hide hSr
        have HOr := hide hOr
        have hszr := hOr.size
        clear hMM hSr hOr HST0
        cases p with
        | nil =>
          have hq0 : q = .nil := F.len_0 (by
            have e1 := HKL.out; have e2 := HKL2.out
            rw [hka, F.app_nil] at e1
            rw [hkb, F.app_len] at e2
            omega)
          subst hq0
          have hMt : M = some τ := by rw [HMM.out]; rfl
          subst hMt
          have hdl : d.len = KL := by rw [HKL.out, hka, F.app_nil]
          rw [hdl]
          clear HMM HM hka hkb hdd hdl
          go_wp2_with fail
          go_ret
          refine ⟨rfl, HO0.out.trans HOr.out, fun σ' h => ?_⟩
          simp only [Option.some.injEq] at h
          subst h
          exact HSr.out
        | cons z kz pz =>
          cases q with
          | nil =>
            have e1 := HKL.out; have e2 := HKL2.out
            rw [hka, F.app_len] at e1
            rw [hkb, F.app_len] at e2
            simp [F.len] at e1 e2
            omega
          | cons u ku qu =>
            have hlt : d.len < KL := by rw [HKL.out, hka, F.app_len]; simp [F.len]
            have hlt' : (d.len : Int) < (KL : Int) := by omega
            have hI := IH.out
            have hO1 := HOx.out
            have hO2 := HOy.out
            rw [hka] at hO1
            rw [hkb] at hI hO2
            have hf1 : kz.flat.length ≤ 60 := by have h := hl1; rw [hka, F.app_flat] at h; simp [F.flat] at h; omega
            have hf2 : ku.flat.length ≤ 60 := by have h := hl2; rw [hkb, F.app_flat] at h; simp [F.flat] at h; omega
            obtain ⟨g1, cap1, sz, he1, hP1, hg1, hTz, p0, p1, p2⟩ := KidT.kid (a := d) (k := kz) (r := pz) (x := z) (s := .slice ad1 KL c1) (by rw [← hka]; exact HT1.out)
            obtain ⟨g2, cap2, su, he2, hP2, hg2, hTu, q0, q1, q2⟩ := KidT.kid (a := d') (k := ku) (r := qu) (x := u) (s := .slice ad2 KL c2) (by rw [← hkb]; exact HT2.out)
            simp only [Value.slice.injEq] at he1 he2
            obtain ⟨rfl, -, rfl⟩ := he1
            obtain ⟨rfl, -, rfl⟩ := he2
            rw [hdd] at q0 q1 q2
            have hOw : Ot H K w wr := HO0.out.trans HOr.out
            have b0 := (HOr.out.cell (p := ⟨w.heap.size, 2, none⟩) (by show w.heap.size < _; omega) (by show w.heap.size ≠ _; omega) (by show w.heap.size ≠ _; omega)).trans a0
            have b1 := (HOr.out.cell (p := ⟨w.heap.size + 1, 2, none⟩) (by show w.heap.size + 1 < _; omega) (by show w.heap.size + 1 ≠ _; omega) (by show w.heap.size + 1 ≠ _; omega)).trans a1
            have m0 := (hOw.cell (p := ⟨g1, d.len * 3, none⟩) hg1 hP1.1 hP1.2).trans p0
            have m1 := (hOw.cell (p := ⟨g1, d.len * 3 + 1, none⟩) hg1 hP1.1 hP1.2).trans p1
            have m2 := (hOw.cell (p := ⟨g1, d.len * 3 + 2, none⟩) hg1 hP1.1 hP1.2).trans p2
            have n0 := (hOw.cell (p := ⟨g2, d.len * 3, none⟩) hg2 hP2.1 hP2.2).trans q0
            have n1 := (hOw.cell (p := ⟨g2, d.len * 3 + 1, none⟩) hg2 hP2.1 hP2.2).trans q1
            have n2 := (hOw.cell (p := ⟨g2, d.len * 3 + 2, none⟩) hg2 hP2.1 hP2.2).trans q2
            obtain ⟨gz, lz, oz, -⟩ : goodC z = true ∧ kz.len = ar z.k ∧ kz.ok ∧ pz.ok := ((F.app_ok _ _).1 hO1).2
            obtain ⟨gu, lu, ou, -⟩ : goodC u = true ∧ ku.len = ar u.k ∧ ku.ok ∧ qu.ok := ((F.app_ok _ _).1 hO2).2
            have HC := hide (F.all_at hI z u kz sz su H K τ wr.drew ⟨gz, lz, oz, trivial⟩ ⟨gu, lu, ou, trivial⟩ hf1 hf2 hHK ((hOw.kid hTz).keep (Nat.le_refl _) (fun g h1 h2 => ⟨rfl, h1⟩)) ((hOw.kid hTu).keep (Nat.le_refl _) (fun g h1 h2 => ⟨rfl, h1⟩)) (HSr.out.below (belowDrew (Below.refl _ _))))
            have hMs : M = (mt1 z kz u ku τ).bind (mtF pz qu) := by rw [HMM.out]; exact mtF_cons _ _ _ _ _ _ _
            have HMs := hide hMs
            obtain ⟨zad, zc, rfl⟩ := hTz.form
            obtain ⟨uad, uc, rfl⟩ := hTu.form
            have HN1 := hide (hka.trans (F.app_snoc d kz pz z))
            have HN2 := hide (hkb.trans (F.app_snoc d' ku qu u))
            have HD1 : Hid ((d.app (.cons z kz .nil)).len = d.len + 1) := hide (by rw [F.app_len]; rfl)
            have HD2 : Hid ((d'.app (.cons u ku .nil)).len = d.len + 1) := hide (by rw [F.app_len, hdd]; rfl)
            clear p0 p1 p2 q0 q1 q2 hTz hTu hI hO1 hO2 hka hkb hdd gz lz oz gu lu ou hMs HMM hOw
            obtain ⟨S1, hS1⟩ : ∃ S1, S1 = mt1 z kz u ku τ := ⟨_, rfl⟩
            rw [← hS1] at HC HMs
            obtain ⟨al, hal⟩ : ∃ al, al = d.len := ⟨_, rfl⟩
            obtain ⟨zn, hzn⟩ : ∃ zn, zn = kz.len := ⟨_, rfl⟩
            obtain ⟨un, hun⟩ : ∃ un, un = ku.len := ⟨_, rfl⟩
            rw [← hal] at hlt hlt' m0 m1 m2 n0 n1 n2 HD1 HD2 ⊢
            rw [← hzn] at HC m2
            rw [← hun] at HC n2
            clear hS1 hal hzn hun
            have hg1r : g1 < wr.heap.size := by have := HO0.out.size; omega
            have hg2r : g2 < wr.heap.size := by have := HO0.out.size; omega
            have hP1a := hP1.1
            have hP1b := hP1.2
            have hP2a := hP2.1
            have hP2b := hP2.2
            go_wp2_with fail
            go_region_held3 (fun w' => w'.cell? ⟨w.heap.size, 2, none⟩ = some (.slice (some ⟨g1, 0, none⟩) KL c1) ∧ w'.cell? ⟨w.heap.size + 1, 2, none⟩ = some (.slice (some ⟨g2, 0, none⟩) KL c2) ∧ w'.cell? ⟨g1, al * 3, none⟩ = some (.int .i64 z.k) ∧ w'.cell? ⟨g1, al * 3 + 1, none⟩ = some (.int .i64 z.n) ∧ w'.cell? ⟨g1, al * 3 + 2, none⟩ = some (.slice zad zn zc) ∧ w'.cell? ⟨g2, al * 3, none⟩ = some (.int .i64 u.k) ∧ w'.cell? ⟨g2, al * 3 + 1, none⟩ = some (.int .i64 u.n) ∧ w'.cell? ⟨g2, al * 3 + 2, none⟩ = some (.slice uad un uc)) (go_keep)
              (first
                | (go_at_call 79; (with_reducible refine Calls.mono HC.out ?_); rintro e wa ⟨rfl, hOa, hSa⟩; have HOa := hide hOa; have HSa := hide hSa; (have fa0 := (hOa.cell (p := ⟨w.heap.size, 2, none⟩) (show w.heap.size < wr.heap.size by omega) (by show w.heap.size ≠ _; omega) (by show w.heap.size ≠ _; omega)).trans b0; have fa1 := (hOa.cell (p := ⟨w.heap.size + 1, 2, none⟩) (show w.heap.size + 1 < wr.heap.size by omega) (by show w.heap.size + 1 ≠ _; omega) (by show w.heap.size + 1 ≠ _; omega)).trans b1; have fa2 := (hOa.cell (p := ⟨g1, al * 3, none⟩) hg1r hP1a hP1b).trans m0; have fa3 := (hOa.cell (p := ⟨g1, al * 3 + 1, none⟩) hg1r hP1a hP1b).trans m1; have fa4 := (hOa.cell (p := ⟨g1, al * 3 + 2, none⟩) hg1r hP1a hP1b).trans m2; have fa5 := (hOa.cell (p := ⟨g2, al * 3, none⟩) hg2r hP2a hP2b).trans n0; have fa6 := (hOa.cell (p := ⟨g2, al * 3 + 1, none⟩) hg2r hP2a hP2b).trans n1; have fa7 := (hOa.cell (p := ⟨g2, al * 3 + 2, none⟩) hg2r hP2a hP2b).trans n2); clear hOa hSa))
            all_goals
              have hOr5 : Ot H K w0 wa := HOr.out.trans ⟨HOa.out.os, HOa.out.tape, HOa.out.output, HOa.out.size, HOa.out.block⟩
              clear b0 b1 m0 m1 m2 n0 n1 n2 HC
              cases S1 with
              | none =>
                have hMf : M = none := by rw [HMs.out]; rfl
                subst hMf
                clear HMs HM
                simp only [Option.isSome_none]
                go_wp2_with fail
                go_ret
                exact ⟨rfl, HO0.out.trans hOr5, fun σ' h => by cases h⟩
              | some τ' =>
                have hMt : M = mtF pz qu τ' := by rw [HMs.out]; rfl
                have HMt := hide hMt
                have HSt := hide (HSa.out τ' rfl)
                clear hMt HMs HSa
                simp only [Option.isSome_some]
                go_wp2_with fail
                exact ⟨⟨d.app (.cons z kz .nil), d'.app (.cons u ku .nil), pz, qu, τ', HN1.out, HN2.out, by rw [HD1.out, HD2.out], by rw [HD1.out]; go_num, HMt.out, HSt.out, hOr5⟩, by simp [intOf]; omega⟩
    · have e1 : mt1 x ka y kb σ = none := by unfold mt1; rw [if_neg hyk, if_neg hk]
      rw [e1]
      have hnb : (x.k == y.k) = false := by simpa using hk
      have hnb' : (x.k != y.k) = true := by simp [hk]
      clear e1 lx ly ih hT1 hT2 hST
      go_enter Try.func79, Try.ntmps79
      go_wp2_with fail
      go_ret
      exact ⟨rfl, Ot.ofBelow (((Below.refl _ _).alloc (Nat.le_refl _) _).alloc (by simp) _), fun σ' h => by cases h⟩
end Go.Proofs.Ytjffignbiabmaab.Y

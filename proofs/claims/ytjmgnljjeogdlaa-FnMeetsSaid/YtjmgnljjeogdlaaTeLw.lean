/-
  All terms that some redexes, contracted at once, make: the specification's l4All. Conditions: good terms. Written by wip/build/mk_llall.py.
-/
import Derived.Test.YtjmgnljjeogdlaaJat
import Derived.Test.YtjmgnljjeogdlaaJaf
import Derived.Test.YtjmgnljjeogdlaaJan
namespace Go.Proofs.Ytjmgnljjeogdlaa.W
open Go.ChangeShapes Go.WideShapes Go.ChangeAt Go.RowKit
set_option linter.unusedVariables false
set_option linter.unusedSimpArgs false

def rowsL (x : Cc) (us : List F) : List (Cc × F) := us.map fun u => (x, u)
theorem rowsL_len (x : Cc) (us : List F) : (rowsL x us).length = us.length := by simp [rowsL]
theorem rowsL_app (x : Cc) (a : List F) (b : List F) (u : F) : rowsL x (a ++ (b ++ [u])) = rowsL x (a ++ b) ++ [(x, u)] := by simp [rowsL]
theorem ldT_600' {x : Cc} {k : F} {l : List (Cc × F)} (hok : okT x k) (hl : k.flat.length + 1 ≤ 600) (h : ldT x k = some l) : ∀ p ∈ l, p.2.flat.length + 1 ≤ 600 := by
  intro p hp
  have hm := ldT_mem h p hp
  simp only [ldr] at hm
  obtain ⟨ky', r', h1, h2, h6, h4 | ⟨h5, q, h7, h8⟩⟩ := hm
  · simp only [F.cons.injEq] at h4
    rw [h4.2.1]; exact h6
  · simp only [F.cons.injEq] at h8
    rw [h8.2.1]
    exact (ctrO_B (ldr_red hok h5 h1 (ldr_B hok.2.2 (by omega) h1)) (by omega) (by omega) h6 h7).2
theorem ldT_pos' {x : Cc} {k : F} {l : List (Cc × F)} (h : ldT x k = some l) : 0 < l.length ∧ l.length ≤ 200 := by
  unfold ldT at h
  cases hg : ldG [.nil] k with
  | none => rw [hg] at h; cases h
  | some us =>
    rw [hg] at h
    have h1 := ldG_pos k [.nil] us (by simp) (by simp) hg
    have h2 := ldX_le h
    omega
theorem ldG_ldr {k : F} {us : List F} (h : ldG [.nil] k = some us) : ∀ u ∈ us, ldr k u := by
  intro u hu
  obtain ⟨v, hv, a', rfl, ha⟩ := ldG_mem k _ us h u hu
  rw [List.mem_singleton] at hv
  subst hv
  exact ha
/-- Terms whose cells tell how many are behind them, of at most 600 cells. -/
def Gd (q : Cc × F) : Prop := q.2.flat.length + 1 ≤ 600 ∧ (F.cons q.1 q.2 .nil).ard
theorem ldA_gd {out : List (Cc × F)} {p : Cc × F} (ho : ∀ q ∈ out, Gd q) (hp : Gd p) : ∀ q ∈ ldA out p, Gd q := fun q hq => by
  rcases ldA_mem hq with h | rfl
  · exact ho q h
  · exact hp
/-- What l4All tells. -/
def SA (w' : World) (r : Option (List (Cc × F))) (e : Ending) : Prop :=
  match r with
  | none => ∃ a n c, e = .returned (.tuple #[.slice a n c, .bool false])
  | some L => ∃ s', e = .returned (.tuple #[s', .bool true]) ∧ KidT w' TT (toF L) s'
def WAGoal (k : F) : Prop := ∀ (x : Cc) (s : Value) (w : World), okT x k → k.flat.length + 1 ≤ 600 → KidT w TT k s →
    Calls Try.prog 38 #[.agg #[.int .i64 x.k, .int .i64 x.n, s]] w fun e w' => SA w' (ldT x k) e ∧ Below w.heap.size w w'

set_option maxRecDepth 20000 in
set_option maxHeartbeats 16000000 in
theorem l4All_any : ∀ k, WAGoal k := by
  apply F.rec_kids
  intro k ih x s w hok hfl hT
  have IH := hide ih
  have HOk := hide hok
  have HT := hide hT
  have hkl3 : k.len ≤ 3 := by rw [hok.2.1]; exact ar_le _
  have HIs := hide (fun (w' : World) (hb : Below w.heap.size w w') => l4Is_any x k s _ w' hok.2.1 hok.2.2 (HT.out.below hb))
  obtain ⟨sad, sc, rfl⟩ := hT.form
  obtain ⟨KL, hKL⟩ : ∃ KL, KL = k.len := ⟨_, rfl⟩
  obtain ⟨R, hR⟩ : ∃ R, R = ldT x k := ⟨_, rfl⟩
  rw [← hR]
  rw [← hKL] at HT HIs hkl3 ⊢
  have HKL := hide hKL
  have HR := hide hR
  clear ih hok hT hR hKL
  go_enter Try.func38, Try.ntmps38
  go_wp2_with fail
  obtain ⟨w0, hw0⟩ : ∃ w0, w0 = (w.alloc (.cells #[.int .i64 x.k, .int .i64 x.n, .slice sad KL sc] 55)).alloc (.cells #[.int .i64 x.k, .int .i64 x.n, .slice none 0 0] 55) := ⟨_, rfl⟩
  have hB0 : Below w.heap.size w w0 := by rw [hw0]; exact ((Below.refl _ _).alloc (Nat.le_refl _) _).alloc (by simp) _
  have hbT : w0.heap[w.heap.size]? = some (.cells #[.int .i64 x.k, .int .i64 x.n, .slice sad KL sc] 55 (0, 0)) := by rw [hw0, heap_alloc_old _ _ (by simp)]; exact heap_alloc_new _ _
  have hbW : w0.heap[w.heap.size + 1]? = some (.cells #[.int .i64 x.k, .int .i64 x.n, .slice none 0 0] 55 (0, 0)) := by rw [hw0]; have := heap_alloc_new (w.alloc (.cells #[.int .i64 x.k, .int .i64 x.n, .slice sad KL sc] 55)) (.cells #[.int .i64 x.k, .int .i64 x.n, .slice none 0 0] 55); simpa using this
  have hs0 : w.heap.size < w0.heap.size := by rw [hw0]; simp; omega
  have hs1 : w.heap.size + 1 < w0.heap.size := by rw [hw0]; simp
  have HK0 : Hid (KidT w0 TT (toF (rowsL x [.nil])) (.slice (some ⟨w.heap.size + 1, 0, none⟩) 1 1)) := hide ⟨tC x (.slice none 0 0), ⟨_, [], rfl, KidT.nil, rfl⟩, .inr ⟨by simp [toF, rowsL, F.len], _, _, rfl, trivial, hs1, fun j v hj => by
    have h := tC_cells hbW j v hj
    rw [iAdd, Nat.zero_add] at h
    exact h⟩⟩
  rw [← hw0]
  have HB0 := hide hB0
  have HbT := hide hbT
  clear hw0 hB0 hbT hbW hs1
  go_loopw [4, 30] (fun v i w' => ∃ (a bb : F) (us : List F), k = a.app bb ∧ i = .int .i64 (a.len : Int) ∧ ldG [.nil] a = some us ∧ KidT w' TT (toF (rowsL x us)) v ∧ (∀ u ∈ us, u.flat.length ≤ 600 * a.len) ∧ w'.heap[w.heap.size]? = some (.cells #[.int .i64 x.k, .int .i64 x.n, .slice sad KL sc] 55 (0, 0)) ∧ w.heap.size < w'.heap.size ∧ Below w.heap.size w w') (fun _ i _ => KL - (intOf i).toNat)
  case atStart => exact ⟨.nil, k, [.nil], rfl, rfl, rfl, HK0.out, by simp [F.flat, F.len], HbT.out, hs0, HB0.out⟩
  case round =>
    clear HK0 HbT HB0
    obtain ⟨a, bb, us, hk, rfl, hda, hKw, ha4, hbT, hszr, hB⟩ := hrel
    have HDa := hide hda
    have HKw := hide hKw
    have HbT := hide hbT
    have HA4 := hide ha4
    obtain ⟨hu0, hu2⟩ := ldG_pos a [.nil] us (by simp) (by simp) hda
    obtain ⟨va, vc, hvf⟩ := hKw.form
    rw [toF_len, rowsL_len] at hvf
    subst hvf
    obtain ⟨UN, hUN⟩ : ∃ UN, UN = us.length := ⟨_, rfl⟩
    rw [← hUN] at HKw hu0 hu2 ⊢
    have HUN := hide hUN
    clear hda hKw hbT ha4 hUN
    cases bb with
    | nil =>
      rw [F.app_nil] at hk
      subst hk
      have hKl := HKL.out
      rw [← hKl]
      have hX : R = ldX x (redx x k) us := by rw [HR.out]; unfold ldT; rw [HDa.out]
      have HX := hide hX
      obtain ⟨wa, hwa⟩ : ∃ wa, wa = wr := ⟨_, rfl⟩
      subst hwa
      clear hKl hX IH
      go_wp2_with fail
      go_loopw [77] (fun i w' => ∃ (A B : List F), us = A ++ B ∧ i = .int .i64 (A.length : Int) ∧ (∀ u ∈ A, u.flat.length + 1 ≤ 600) ∧ Below wa.heap.size wa w') (fun i _ => UN - (intOf i).toNat)
      case atStart => exact ⟨[], us, rfl, rfl, by simp, Below.refl _ _⟩
      case round =>
        obtain ⟨A, B, hAB, rfl, h6, hBa⟩ := hrel
        have H6 := hide h6
        have HBa := hide hBa
        have HBw : Hid (Below w.heap.size w wr) := hide (hB.trans (hBa.mono hB.size))
        have hsa := hBa.size
        clear h6 hBa
        cases B with
        | nil =>
          rw [List.append_nil] at hAB
          subst hAB
          have hUl := HUN.out
          rw [← hUl]
          have hno : ¬ ∃ u ∈ us, 600 < u.flat.length + 1 := fun ⟨u, h1, h2⟩ => by have := H6.out u h1; omega
          have hX2 := HX.out
          unfold ldX at hX2
          rw [if_neg hno] at hX2
          have HX2 := hide hX2
          have hTb := (HBa.out.block w.heap.size hszr).trans HbT.out
          have t0 : wr.cell? ⟨w.heap.size, 0, none⟩ = some (.int .i64 x.k) := (cell_of_blk hTb 0).trans rfl
          have t1 : wr.cell? ⟨w.heap.size, 1, none⟩ = some (.int .i64 x.n) := (cell_of_blk hTb 1).trans rfl
          have t2 : wr.cell? ⟨w.heap.size, 2, none⟩ = some (.slice sad KL sc) := (cell_of_blk hTb 2).trans rfl
          clear hUl hno hX2 HX hTb
          go_wp2_with fail
          refine Calls.mono (HIs.out _ HBw.out) ?_
          rintro e wb ⟨rfl, hbb⟩
          have HBb := hide (HBa.out.trans (hbb.mono HBa.out.size))
          have HBwb := hide (HBw.out.trans (hbb.mono HBw.out.size))
          have hsb := HBb.out.size
          have HKb := hide (HKw.out.below HBb.out)
          clear HIs hbb t0 t1 t2 HKw HBa HBw
          cases hrd : redx x k with
          | false =>
            have hRe : R = some (rowsL x us) := by rw [HX2.out, hrd, if_neg (by simp), if_pos (by rw [← HUN.out]; exact hu2)]; rfl
            subst hRe
            clear hrd
            have hu2' : (UN : Int) ≤ 200 := by omega
            go_wp2_with fail
            exact bodyPost_ret (v := .tuple #[.slice va UN vc, .bool true]) (by simp [results, Try.results38, go_sem]) rfl ⟨⟨_, rfl, HKb.out⟩, HBwb.out⟩
          | true =>
            have hRe : R = match ldC x (rowsL x us) us with | none => none | some out => if out.length ≤ 200 then some out else none := by
              rw [HX2.out, hrd, if_pos rfl]; rfl
            have HRe := hide hRe
            have HLd := hide (ldG_ldr HDa.out)
            have HRed : Hid (∀ u ∈ us, RedW x u (99 + 600 * k.flat.length)) := hide (fun u hu => ldr_red HOk.out hrd (HLd.out u hu) (ldr_B HOk.out.2.2 (by omega) (HLd.out u hu)))
            have HGd : Hid (∀ q ∈ rowsL x us, Gd q) := hide (fun q hq => by
              unfold rowsL at hq
              rw [List.mem_map] at hq
              obtain ⟨u, hu, rfl⟩ := hq
              have hl := HLd.out u hu
              exact ⟨H6.out u hu, by rw [ldr_len hl]; exact HOk.out.2.1, okB_ard (ldr_B HOk.out.2.2 (by omega) hl), trivial⟩)
            clear hrd hRe HX2
            go_wp2_with fail
            go_loopw [16, 90] (fun v i w' => ∃ (P Q : List F) (out : List (Cc × F)), us = P ++ Q ∧ i = .int .i64 (P.length : Int) ∧ ldC x (rowsL x us) us = ldC x out Q ∧ KidT w' TT (toF out) v ∧ out.length ≤ UN + P.length ∧ (∀ q ∈ out, Gd q) ∧ Below wb.heap.size wb w') (fun _ i _ => UN - (intOf i).toNat)
            case atStart => exact ⟨[], us, rowsL x us, rfl, rfl, rfl, HKb.out, by rw [rowsL_len, ← HUN.out]; simp, HGd.out, Below.refl _ _⟩
            case round =>
              clear HGd
              obtain ⟨P, Q, out, hPQ, rfl, hlc, hKo, hol, hgd, hBb⟩ := hrel
              have HLc := hide hlc
              have HKo := hide hKo
              have HGd := hide hgd
              have HBb2 := hide hBb
              have HBw2 : Hid (Below w.heap.size w wr) := hide (HBwb.out.trans (hBb.mono HBwb.out.size))
              obtain ⟨oa, oc, hof⟩ := hKo.form
              rw [toF_len] at hof
              subst hof
              obtain ⟨ON, hON⟩ : ∃ ON, ON = out.length := ⟨_, rfl⟩
              rw [← hON] at HKo hol ⊢
              have HON := hide hON
              clear hlc hKo hgd hBb hON
              cases Q with
              | nil =>
                rw [List.append_nil] at hPQ
                subst hPQ
                have hUl := HUN.out
                rw [← hUl] at hol ⊢
                have hRe : R = if ON ≤ 200 then some out else none := by rw [HRe.out, HLc.out]; simp only [ldC]; rw [HON.out]
                clear hUl
                by_cases h2 : ON ≤ 200
                · rw [if_pos h2] at hRe
                  subst hRe
                  have h2' : (ON : Int) ≤ 200 := by omega
                  go_wp2_with fail
                  exact bodyPost_ret (v := .tuple #[.slice oa ON oc, .bool true]) (by simp [results, Try.results38, go_sem]) rfl ⟨⟨_, rfl, HKo.out⟩, HBw2.out⟩
                · rw [if_neg h2] at hRe
                  subst hRe
                  have h2' : ¬ (ON : Int) ≤ 200 := by omega
                  go_wp2_with fail
                  exact bodyPost_ret (v := .tuple #[.slice oa ON oc, .bool false]) (by simp [results, Try.results38, go_sem]) rfl ⟨⟨_, _, _, rfl⟩, HBw2.out⟩
              | cons u Q =>
                have hlt : P.length < UN := by rw [HUN.out, hPQ]; simp
                have hlt' : (P.length : Int) < (UN : Int) := by omega
                have hp0 : (0 : Int) ≤ (P.length : Int) := by omega
                have hum : u ∈ us := by rw [hPQ]; simp
                have hTq : KidT wb TT ((toF (rowsL x P)).app (.cons x u (toF (rowsL x Q)))) (.slice va UN vc) := by
                  rw [← toF_split (out := rowsL x us) (q := (x, u)) (by rw [hPQ]; simp [rowsL])]; exact HKb.out
                obtain ⟨g, cap, su, he, hPg, hg, hTz, p0, p1, p2⟩ := KidT.kid hTq
                simp only [Value.slice.injEq] at he
                obtain ⟨rfl, -, rfl⟩ := he
                rw [toF_len, rowsL_len] at p0 p1 p2
                have q0 := (HBb2.out.cell (p := ⟨g, P.length * 3, none⟩) hg).trans p0
                have q1 := (HBb2.out.cell (p := ⟨g, P.length * 3 + 1, none⟩) hg).trans p1
                have q2 := (HBb2.out.cell (p := ⟨g, P.length * 3 + 2, none⟩) hg).trans p2
                have HCt := hide (fun (o : Obj) => l4Contract_w (B := 99 + 600 * k.flat.length) (by omega) x u su TT (wr.alloc o) (HRed.out u hum) (H6.out u hum) ((hTz.below HBb2.out).below ((Below.refl _ _).alloc (Nat.le_refl _) o)))
                have HCB := hide (fun p hp => ctrO_B (p := p) (HRed.out u hum) (by omega) (by omega) (H6.out u hum) hp)
                have HCc : Hid (ldC x out (u :: Q) = match ctrO x u with | none => none | some p => ldC x (ldA out p) Q) := hide (by rw [ldC]; rfl)
                obtain ⟨uad, uc, huf⟩ := hTz.form
                obtain ⟨UL, hUL⟩ : ∃ UL, UL = u.len := ⟨_, rfl⟩
                rw [← hUL] at huf
                subst huf
                have HPQ : Hid (us = (P ++ [u]) ++ Q) := hide (by rw [hPQ]; simp)
                obtain ⟨CM, hCM⟩ : ∃ CM, CM = ctrO x u := ⟨_, rfl⟩
                rw [← hCM] at HCt HCB HCc
                obtain ⟨PN, hPN⟩ : ∃ PN, PN = P.length := ⟨_, rfl⟩
                rw [← hPN] at hlt hlt' hp0 q0 q1 q2 hol ⊢
                have HPN := hide hPN
                clear hPQ hum hTq hPg hTz p0 p1 p2 hUL hCM hPN
                go_wp2_with fail
                refine Calls.mono (HCt.out _) ?_
                rintro e wc ⟨hto, hbc⟩
                have hbc' : Below wr.heap.size wr wc := ((Below.refl _ wr).alloc (Nat.le_refl _) _).trans (hbc.mono (by simp))
                have HBbc := hide (HBb2.out.trans (hbc'.mono HBb2.out.size))
                have HBwc := hide (HBw2.out.trans (hbc'.mono HBw2.out.size))
                have HKoc := hide (HKo.out.below hbc')
                clear HCt q0 q1 q2 hbc HKo
                cases CM with
                | none =>
                  obtain rfl : e = .returned (.tuple #[.agg #[.int .i64 0, .int .i64 0, .slice none 0 0], .bool false]) := hto
                  have hRn : R = none := by rw [HRe.out, HLc.out, HCc.out]
                  subst hRn
                  have hBx : Below w.heap.size w (wc.alloc (.cells #[.int .i64 0, .int .i64 0, .slice none 0 0] 55)) := HBwc.out.alloc HBwc.out.size _
                  have HBx := hide hBx
                  clear hBx
                  go_wp2_with fail
                  exact bodyPost_ret (v := .tuple #[.slice none 0 0, .bool false]) (by simp [results, Try.results38, go_sem]) rfl ⟨⟨_, _, _, rfl⟩, HBx.out⟩
                | some p =>
                  obtain ⟨sp, rfl, hKp⟩ : ∃ s', e = .returned (.tuple #[.agg #[.int .i64 p.1.k, .int .i64 p.1.n, s'], .bool true]) ∧ KidT wc _ p.2 s' := hto
                  have hcb := HCB.out p rfl
                  have hgp : Gd p := ⟨hcb.2, okB_ard hcb.1⟩
                  have HAd := hide (fun (o : Obj) => l4Add_any out p (.slice oa ON oc) sp (wc.alloc o) (HKoc.out.below ((Below.refl _ _).alloc (Nat.le_refl _) o)) (hKp.tt.below ((Below.refl _ _).alloc (Nat.le_refl _) o)) (by rw [← HON.out]; omega) (fun q hq => by have := (HGd.out q hq).1; omega) (fun q hq => (HGd.out q hq).2) hgp.2)
                  obtain ⟨pad, pc, hpf⟩ := hKp.form
                  obtain ⟨ZN, hZN⟩ : ∃ ZN, ZN = p.2.len := ⟨_, rfl⟩
                  rw [← hZN] at hpf
                  subst hpf
                  have HGdp := hide (ldA_gd HGd.out hgp)
                  have HLp : Hid ((ldA out p).length ≤ UN + (PN + 1)) := hide (by have := ldA_le1 out p; have := HON.out; omega)
                  have HLc2 : Hid (ldC x (rowsL x us) us = ldC x (ldA out p) Q) := hide (by rw [HLc.out, HCc.out])
                  clear hKp hcb hgp hZN HCB HCc HLc
                  go_wp2_with fail
                  refine Calls.mono (HAd.out _) ?_
                  rintro e wd ⟨s9, rfl, hK9, hb9⟩
                  have hb9' : Below wc.heap.size wc wd := ((Below.refl _ wc).alloc (Nat.le_refl _) _).trans (hb9.mono (by simp))
                  have HBd := hide (HBbc.out.trans (hb9'.mono HBbc.out.size))
                  have HK9 := hide hK9
                  obtain ⟨a9, c9, h9f⟩ := hK9.form
                  rw [toF_len] at h9f
                  obtain ⟨NN, hNN⟩ : ∃ NN, NN = (ldA out p).length := ⟨_, rfl⟩
                  rw [← hNN] at h9f
                  subst h9f
                  clear hK9 hb9 hb9' HAd hNN
                  go_wp2_with fail
                  exact ⟨⟨P ++ [u], Q, ldA out p, HPQ.out, by rw [List.length_append, List.length_singleton, ← HPN.out]; go_num, HLc2.out, HK9.out, by rw [List.length_append, List.length_singleton, ← HPN.out]; exact HLp.out, HGdp.out, HBd.out⟩, by simp [intOf]; omega⟩
        | cons u B =>
          have hlt : A.length < UN := by rw [HUN.out, hAB]; simp
          have hlt' : (A.length : Int) < (UN : Int) := by omega
          have hp0 : (0 : Int) ≤ (A.length : Int) := by omega
          have hum : u ∈ us := by rw [hAB]; simp
          have hTq : KidT wa TT ((toF (rowsL x A)).app (.cons x u (toF (rowsL x B)))) (.slice va UN vc) := by
            rw [← toF_split (out := rowsL x us) (q := (x, u)) (by rw [hAB]; simp [rowsL])]; exact HKw.out
          obtain ⟨g, cap, su, he, hPg, hg, hTz, p0, p1, p2⟩ := KidT.kid hTq
          simp only [Value.slice.injEq] at he
          obtain ⟨rfl, -, rfl⟩ := he
          rw [toF_len, rowsL_len] at p0 p1 p2
          have q0 := (HBa.out.cell (p := ⟨g, A.length * 3, none⟩) hg).trans p0
          have q1 := (HBa.out.cell (p := ⟨g, A.length * 3 + 1, none⟩) hg).trans p1
          have q2 := (HBa.out.cell (p := ⟨g, A.length * 3 + 2, none⟩) hg).trans p2
          have huf4 : u.flat.length ≤ 400000 := by have h1 := HA4.out u hum; have h2 := HKL.out; omega
          have HSi := hide (fun (o : Obj) => l3Size_any u x su TT (wr.alloc o) (by omega) ((hTz.below HBa.out).below ((Below.refl _ _).alloc (Nat.le_refl _) o)))
          obtain ⟨uad, uc, huf⟩ := hTz.form
          obtain ⟨UL, hUL⟩ : ∃ UL, UL = u.len := ⟨_, rfl⟩
          rw [← hUL] at huf
          subst huf
          have HAB : Hid (us = (A ++ [u]) ++ B) := hide (by rw [hAB]; simp)
          obtain ⟨FN, hFN⟩ : ∃ FN, FN = u.flat.length := ⟨_, rfl⟩
          rw [← hFN] at HSi huf4
          have HFN := hide hFN
          have HNone : Hid (600 < FN + 1 → R = none) := hide (fun h => by
            rw [HX.out]; unfold ldX
            rw [if_pos ⟨u, hum, by rw [← HFN.out]; exact h⟩])
          obtain ⟨AN, hAN⟩ : ∃ AN, AN = A.length := ⟨_, rfl⟩
          rw [← hAN] at hlt hlt' hp0 q0 q1 q2 ⊢
          have HAN := hide hAN
          clear hAB hum hTq hPg hTz p0 p1 p2 hUL hFN hAN
          go_wp2_with fail
          refine Calls.mono (HSi.out _) ?_
          rintro e w9 ⟨rfl, hb9⟩
          have hb9' : Below wr.heap.size wr w9 := ((Below.refl _ wr).alloc (Nat.le_refl _) _).trans (hb9.mono (by simp))
          have HBa9 := hide (HBa.out.trans (hb9'.mono HBa.out.size))
          have HBw9 := hide (HBw.out.trans (hb9'.mono HBw.out.size))
          clear HSi q0 q1 q2 hb9 hb9'
          by_cases h6 : FN + 1 ≤ 600
          · have h6' : ¬ (600 : Int) < ((FN + 1 : Nat) : Int) := by omega
            go_wp2_with fail
            refine ⟨⟨A ++ [u], B, HAB.out, by rw [List.length_append, List.length_singleton, ← HAN.out]; go_num, fun v hv => ?_, HBa9.out⟩, by simp [intOf]; omega⟩
            rw [List.mem_append, List.mem_singleton] at hv
            rcases hv with hv | rfl
            · exact H6.out v hv
            · rw [← HFN.out]; exact h6
          · have h6' : (600 : Int) < ((FN + 1 : Nat) : Int) := by omega
            have hRn := HNone.out (by omega)
            subst hRn
            go_wp2_with fail
            exact bodyPost_ret (v := .tuple #[.slice none 0 0, .bool false]) (by simp [results, Try.results38, go_sem]) rfl ⟨⟨_, _, _, rfl⟩, HBw9.out⟩
    | cons y ky bb =>
      have hO := HOk.out.2.2
      rw [hk] at hO
      obtain ⟨gy, ly, oy, orr⟩ := ((F.app_ok _ _).1 hO).2
      have hfk : k.flat.length = a.flat.length + (1 + ky.flat.length + bb.flat.length) := by rw [hk, F.app_flat]; simp [F.flat]; omega
      have hI := IH.out
      rw [hk] at hI
      have hkl2 : KL = a.len + (bb.len + 1) := by rw [HKL.out, hk, F.app_len]; rfl
      have hlt' : (a.len : Int) < (KL : Int) := by omega
      have hd0 : (0 : Int) ≤ (a.len : Int) := by omega
      obtain ⟨g, cap, sy, he, hPg, hg, hTy, p0, p1, p2⟩ := KidT.kid (a := a) (k := ky) (r := bb) (x := y) (s := .slice sad KL sc) (by rw [← hk]; exact HT.out)
      simp only [Value.slice.injEq] at he
      obtain ⟨rfl, -, rfl⟩ := he
      have q0 := (hB.cell (p := ⟨g, a.len * 3, none⟩) hg).trans p0
      have q1 := (hB.cell (p := ⟨g, a.len * 3 + 1, none⟩) hg).trans p1
      have q2 := (hB.cell (p := ⟨g, a.len * 3 + 2, none⟩) hg).trans p2
      have HCl := hide (fun (w' : World) (hw' : Below w.heap.size w w') => F.all_at hI y sy w' ⟨gy, ly, oy⟩ (by omega) (hTy.below hw'))
      obtain ⟨yad, yc, rfl⟩ := hTy.form
      have HSn := hide (hk.trans (F.app_snoc a ky bb y))
      have HDl : Hid ((a.app (.cons y ky .nil)).len = a.len + 1) := hide (by rw [F.app_len]; rfl)
      have hGc : ldG [.nil] k = match ldT y ky with | none => none | some l => if 200 < us.length * l.length then none else ldG (ldW us l) bb := by
        rw [hk, ldG_app, HDa.out]; simp only; rw [ldG_cons]
        cases ldT y ky with
        | none => rfl
        | some l => simp only; rw [ldW_len]
      have HDs : Hid (∀ l, ldT y ky = some l → ¬ 200 < us.length * l.length → ldG [.nil] (a.app (.cons y ky .nil)) = some (ldW us l)) := hide (fun l h1 h2 => by
        rw [ldG_app, HDa.out]; simp only; rw [ldG_cons, h1]; simp only; rw [ldW_len, if_neg h2]; rfl)
      have HDn : Hid (ldT y ky = none → R = none) := hide (fun hv => by rw [HR.out]; unfold ldT; rw [hGc, hv])
      have HDm : Hid (∀ l, ldT y ky = some l → 200 < us.length * l.length → R = none) := hide (fun l hv h2 => by rw [HR.out]; unfold ldT; rw [hGc, hv]; simp only; rw [if_pos h2])
      have hky : ky.flat.length + 1 ≤ 600 := by omega
      have HP6 := hide (fun l hv => ldT_600' (l := l) ⟨gy, ly, oy⟩ hky hv)
      have HPp := hide (fun l (hv : ldT y ky = some l) => ldT_pos' hv)
      obtain ⟨CM, hCM⟩ : ∃ CM, CM = ldT y ky := ⟨_, rfl⟩
      rw [← hCM] at HCl HDn HDs HDm HP6 HPp
      obtain ⟨AL, hAL⟩ : ∃ AL, AL = a.len := ⟨_, rfl⟩
      obtain ⟨kn, hkn⟩ : ∃ kn, kn = ky.len := ⟨_, rfl⟩
      have hul := HUN.out
      rw [← hul] at HDs HDm
      rw [← hAL] at hlt' hd0 q0 q1 q2 HDl HA4 ⊢
      rw [← hkn] at q2 HCl
      have HAL := hide hAL
      have hAL3 : AL ≤ 3 := by omega
      have hBa : ∀ o : Obj, Below w.heap.size w (wr.alloc o) := fun o => hB.alloc hB.size o
      clear p0 p1 p2 hTy hI hO gy ly oy orr hfk hk hkl2 hAL hkn hCM hGc hul hPg
      go_wp2_with fail
      refine Calls.mono (HCl.out _ (hBa _)) ?_
      rintro e wk ⟨hso, hbk⟩
      have hbk' : Below wr.heap.size wr wk := ((Below.refl _ wr).alloc (Nat.le_refl _) _).trans (hbk.mono (by simp))
      have HBw := hide (hB.trans (hbk'.mono hB.size))
      have hskr := hbk'.size
      have HTk := hide ((hbk'.block w.heap.size hszr).trans HbT.out)
      have HKk := hide (HKw.out.below hbk').lt
      clear q0 q1 q2 HCl hbk hbk' hBa HKw HbT hB
      cases CM with
      | none =>
        obtain ⟨a1, n1, c1, rfl⟩ : ∃ a n c, e = .returned (.tuple #[.slice a n c, .bool false]) := hso
        have hRn := HDn.out rfl
        subst hRn
        clear HDn HDs HDm HP6 HPp
        go_wp2_with fail
        exact bodyPost_ret (v := .tuple #[.slice none 0 0, .bool false]) (by simp [results, Try.results38, go_sem]) rfl ⟨⟨_, _, _, rfl⟩, HBw.out⟩
      | some l =>
        obtain ⟨sl, rfl, hKl⟩ : ∃ s', e = .returned (.tuple #[s', .bool true]) ∧ KidT wk TT (toF l) s' := hso
        have HP6' := hide (HP6.out l rfl)
        obtain ⟨hl0, hl2⟩ := HPp.out l rfl
        have HDs2 := hide (HDs.out l rfl)
        have HDm2 := hide (HDm.out l rfl)
        obtain ⟨la, lc, hlf⟩ := hKl.form
        rw [toF_len] at hlf
        obtain ⟨LN, hLN⟩ : ∃ LN, LN = l.length := ⟨_, rfl⟩
        rw [← hLN] at hlf hl0 hl2 HDs2 HDm2
        subst hlf
        have HLN := hide hLN
        have HKl := hide hKl.lt
        obtain ⟨M, hM⟩ : ∃ M, M = UN * LN := ⟨_, rfl⟩
        have hM4 : M ≤ 40000 := by rw [hM]; exact Nat.le_trans (Nat.mul_le_mul hu2 hl2) (by omega)
        rw [← hM] at HDs2 HDm2
        have HM := hide hM
        obtain ⟨b0, hb0⟩ : ∃ b0, b0 = wk.heap.size := ⟨_, rfl⟩
        rw [← hb0] at HKl HKk hskr
        have Hb0 := hide hb0
        have hswk : w.heap.size < b0 := by omega
        clear HDn HDs HP6 HDm HPp hKl hLN hM hb0
        go_wp2_with fail
        go_loopw [9, 43] (fun v i w' => ∃ (A B : List F) (cs : List Value), us = A ++ B ∧ i = .int .i64 (A.length : Int) ∧ OT w' b0 TT v (rowsL x (ldW A l)) cs ∧ Below b0 wk w') (fun _ i _ => UN - (intOf i).toNat)
        case atStart => exact ⟨[], us, [], rfl, rfl, OT.start _ _ _, Below.refl _ _⟩
        case round =>
          obtain ⟨A, B, cs2, hAB, rfl, hot, hBk⟩ := hrel
          have HOT := hide hot
          have HBk := hide hBk
          obtain ⟨oa, oc, rfl⟩ := iOwn_form hot.own
          have hb0r : b0 ≤ wr.heap.size := by have := hBk.size; have := Hb0.out; omega
          obtain ⟨PO, hPO⟩ : ∃ PO, PO = (rowsL x (ldW A l)).length := ⟨_, rfl⟩
          have hPO1 : PO = A.length * LN := by rw [hPO, rowsL_len, ldW_len, HLN.out]
          rw [← hPO] at HOT ⊢
          have HPO := hide hPO
          clear hot hBk hPO
          cases B with
          | nil =>
            rw [List.append_nil] at hAB
            subst hAB
            have hUl := HUN.out
            rw [← hUl] at hPO1 ⊢
            have hOM : PO = M := by rw [hPO1, HM.out]
            have HKn : Hid (KidT wr TT (toF (rowsL x (ldW us l))) (.slice oa PO oc)) := hide (HOT.out.kidT (fun _ _ => trivial))
            have HTr := hide ((HBk.out.block w.heap.size hswk).trans HTk.out)
            have HBwr := hide (HBw.out.trans (HBk.out.mono (by omega)))
            have HA4n : Hid (∀ u ∈ ldW us l, u.flat.length ≤ 600 * (AL + 1)) := hide (fun u hu => by
              unfold ldW at hu
              rw [List.mem_flatMap] at hu
              obtain ⟨v, hv, hu⟩ := hu
              rw [List.mem_map] at hu
              obtain ⟨p, hp, rfl⟩ := hu
              have h1 := HA4.out v hv
              have h2 := HP6'.out p hp
              rw [F.app_flat]; simp [F.flat]; omega)
            subst hOM
            clear hPO1 hUl HOT
            by_cases h2 : 200 < PO
            · have hRn := HDm2.out h2
              subst hRn
              have h2' : (200 : Int) < (PO : Int) := by omega
              go_wp2_with fail
              exact bodyPost_ret (v := .tuple #[.slice none 0 0, .bool false]) (by simp [results, Try.results38, go_sem]) rfl ⟨⟨_, _, _, rfl⟩, HBwr.out⟩
            · have h2' : ¬ (200 : Int) < (PO : Int) := by omega
              have HGn := hide (HDs2.out h2)
              go_wp2_with fail
              exact ⟨⟨a.app (.cons y ky .nil), bb, ldW us l, HSn.out, by rw [HDl.out]; go_num, HGn.out, HKn.out, by rw [HDl.out]; exact HA4n.out, HTr.out, by omega, HBwr.out⟩, by simp [intOf]; omega⟩
          | cons u B =>
            have hltu : A.length < UN := by rw [HUN.out, hAB]; simp
            have hltu' : (A.length : Int) < (UN : Int) := by omega
            have hA0 : (0 : Int) ≤ (A.length : Int) := by omega
            have hTq : KidT wk (fun g => g < b0) ((toF (rowsL x A)).app (.cons x u (toF (rowsL x B)))) (.slice va UN vc) := by
              rw [← toF_split (out := rowsL x us) (q := (x, u)) (by rw [hAB]; simp [rowsL])]; exact HKk.out.weak (fun g h _ => h)
            obtain ⟨gw, capw, su, he, hPw, hgw, hTu, p0, p1, p2⟩ := KidT.kid hTq
            simp only [Value.slice.injEq] at he
            obtain ⟨rfl, -, rfl⟩ := he
            rw [toF_len, rowsL_len] at p0 p1 p2
            have q0 := (HBk.out.cell (p := ⟨gw, A.length * 3, none⟩) hPw).trans p0
            have q1 := (HBk.out.cell (p := ⟨gw, A.length * 3 + 1, none⟩) hPw).trans p1
            have q2 := (HBk.out.cell (p := ⟨gw, A.length * 3 + 2, none⟩) hPw).trans p2
            obtain ⟨uad, uc, huf⟩ := hTu.form
            obtain ⟨UL, hUL⟩ : ∃ UL, UL = u.len := ⟨_, rfl⟩
            rw [← hUL] at huf
            subst huf
            have hUl3 : UL ≤ 3 := by
              have h1 := ldG_len a 0 [.nil] us (by simp [F.len]) HDa.out u (by rw [hAB]; simp)
              have h2 := HAL.out
              omega
            have HTu := hide hTu
            have HUL := hide hUL
            have HAB : Hid (us = (A ++ [u]) ++ B) := hide (by rw [hAB]; simp)
            have HWn : Hid (ldW (A ++ [u]) l = ldW A l ++ l.map fun y => u.app (.cons y.1 y.2 .nil)) := hide (by unfold ldW; rw [List.flatMap_append]; simp)
            obtain ⟨AN, hAN⟩ : ∃ AN, AN = A.length := ⟨_, rfl⟩
            rw [← hAN] at hltu hltu' hA0 q0 q1 q2 hPO1 ⊢
            have HAN := hide hAN
            have hOb : PO + LN ≤ 40000 := by
              have h1 : (AN + 1) * LN ≤ UN * LN := Nat.mul_le_mul_right _ hltu
              rw [Nat.succ_mul] at h1
              have := HM.out
              omega
            obtain ⟨T1, hT1⟩ : ∃ T1, T1 = wr.heap.size := ⟨_, rfl⟩
            have hbx : (wr.alloc (.cells #[.int .i64 x.k, .int .i64 x.n, .slice uad UL uc] 55)).heap[T1]? = some (.cells #[.int .i64 x.k, .int .i64 x.n, .slice uad UL uc] 55 (0, 0)) := by rw [hT1]; exact heap_alloc_new _ _
            have hbw1 : Below wr.heap.size wr (wr.alloc (.cells #[.int .i64 x.k, .int .i64 x.n, .slice uad UL uc] 55)) := (Below.refl _ _).alloc (Nat.le_refl _) _
            have HOT1 := hide (HOT.out.below hbw1)
            have HAp1 : Hid ((Value.slice oa PO oc).ownBlock ≠ some T1) := hide (fun e => by have h := (HOT.out.own.lt T1 e).2; omega)
            have HBk1 := hide (HBk.out.trans (hbw1.mono hb0r))
            have HX0 := hide hbx
            have hTlt : T1 < (wr.alloc (.cells #[.int .i64 x.k, .int .i64 x.n, .slice uad UL uc] 55)).heap.size := by rw [hT1]; simp
            have HTlt := hide hTlt
            have hbT1 : b0 ≤ T1 := by omega
            clear hAB hTq hTu hPw p0 p1 p2 hUL hAN hbx hbw1 hTlt hPO1 HOT HBk
            go_wp2_with fail
            rw [← hT1]
            clear hT1 q0 q1 q2
            go_loopw [9, 49] (fun v i w' => ∃ (C Dd : List (Cc × F)) (cs : List Value), l = C ++ Dd ∧ i = .int .i64 (C.length : Int) ∧ OT w' b0 TT v (rowsL x (ldW A l ++ C.map fun y => u.app (.cons y.1 y.2 .nil))) cs ∧ v.ownBlock ≠ some T1 ∧ w'.heap[T1]? = some (.cells #[.int .i64 x.k, .int .i64 x.n, .slice uad UL uc] 55 (0, 0)) ∧ T1 < w'.heap.size ∧ Below b0 wk w') (fun _ i _ => LN - (intOf i).toNat)
            case atStart => exact ⟨[], l, cs2, rfl, rfl, by rw [List.map_nil, List.append_nil]; exact HOT1.out, HAp1.out, HX0.out, HTlt.out, HBk1.out⟩
            case round =>
              clear HOT1 HAp1 HX0 HTlt HBk1
              obtain ⟨C, Dd, cs3, hCD, rfl, hot, hap, hx1, hT1, hBk⟩ := hrel
              have HOT := hide hot
              have HAp := hide hap
              have HX1 := hide hx1
              have HBk := hide hBk
              obtain ⟨oa, oc, rfl⟩ := iOwn_form hot.own
              have hb0r : b0 ≤ wr.heap.size := by omega
              obtain ⟨ON, hON⟩ : ∃ ON, ON = (rowsL x (ldW A l ++ C.map fun y => u.app (.cons y.1 y.2 .nil))).length := ⟨_, rfl⟩
              have hON1 : ON = PO + C.length := by rw [hON, HPO.out, rowsL_len, rowsL_len, List.length_append, List.length_map]
              rw [← hON] at HOT HAp ⊢
              have HON := hide hON
              have HOwl : Hid (∀ g, (Value.slice oa ON oc).ownBlock = some g → b0 ≤ g ∧ g < wr.heap.size) := hide (fun g e => HOT.out.own.lt g e)
              clear hot hap hx1 hBk hON
              cases Dd with
              | nil =>
                rw [List.append_nil] at hCD
                subst hCD
                have hLl := HLN.out
                rw [← hLl] at hON1 ⊢
                have HOTn : Hid (OT wr b0 TT (.slice oa ON oc) (rowsL x (ldW (A ++ [u]) l)) cs3) := hide (by rw [HWn.out]; exact HOT.out)
                clear hLl HOT hON1
                go_wp2_with fail
                exact ⟨⟨A ++ [u], B, cs3, HAB.out, by rw [List.length_append, List.length_singleton, ← HAN.out]; go_num, HOTn.out, HBk.out⟩, by simp [intOf]; omega⟩
              | cons p Dd =>
                have hlt2 : C.length < LN := by rw [HLN.out, hCD]; simp
                have hlt2' : (C.length : Int) < (LN : Int) := by omega
                have hC0 : (0 : Int) ≤ (C.length : Int) := by omega
                have hTq : KidT wk (fun g => g < b0) ((toF C).app (.cons p.1 p.2 (toF Dd))) (.slice la LN lc) := by
                  rw [← toF_split hCD]; exact HKl.out.weak (fun g h _ => h)
                obtain ⟨gl, capl, sp, he, hPl, hgl, hTp, p0, p1, p2⟩ := KidT.kid hTq
                simp only [Value.slice.injEq] at he
                obtain ⟨rfl, -, rfl⟩ := he
                rw [toF_len] at p0 p1 p2
                have q0 := (HBk.out.cell (p := ⟨gl, C.length * 3, none⟩) hPl).trans p0
                have q1 := (HBk.out.cell (p := ⟨gl, C.length * 3 + 1, none⟩) hPl).trans p1
                have q2 := (HBk.out.cell (p := ⟨gl, C.length * 3 + 2, none⟩) hPl).trans p2
                obtain ⟨pad, pc, hpf⟩ := hTp.form
                obtain ⟨PN, hPN⟩ : ∃ PN, PN = p.2.len := ⟨_, rfl⟩
                rw [← hPN] at hpf
                subst hpf
                have HSp := hide hTp
                have HLs : Hid (l = (C ++ [p]) ++ Dd) := hide (by rw [hCD]; simp)
                obtain ⟨CN, hCN⟩ : ∃ CN, CN = C.length := ⟨_, rfl⟩
                rw [← hCN] at hlt2 hlt2' hC0 q0 q1 q2 hON1 ⊢
                have HCN := hide hCN
                obtain ⟨T3, hT3⟩ : ∃ T3, T3 = wr.heap.size := ⟨_, rfl⟩
                obtain ⟨Wb, hWb⟩ : ∃ Wb, Wb = wr.alloc (.cells #[.int .i64 p.1.k, .int .i64 p.1.n, .slice pad PN pc] 55) := ⟨_, rfl⟩
                have hb3 : Wb.heap[T3]? = some (.cells #[.int .i64 p.1.k, .int .i64 p.1.n, .slice pad PN pc] 55 (0, 0)) := by rw [hWb, hT3]; exact heap_alloc_new _ _
                have hb1 : Wb.heap[T1]? = some (.cells #[.int .i64 x.k, .int .i64 x.n, .slice uad UL uc] 55 (0, 0)) := by rw [hWb, heap_alloc_old _ _ hT1]; exact HX1.out
                have HBb : Hid (Below wr.heap.size wr Wb) := hide (by rw [hWb]; exact (Below.refl _ _).alloc (Nat.le_refl _) _)
                have ltT3 : T3 < Wb.heap.size := by rw [hWb, hT3]; simp
                have ltT1 : T1 < Wb.heap.size := by have := HBb.out.size; omega
                have f0 : Wb.cell? ⟨T1, 0, none⟩ = some (.int .i64 x.k) := (cell_of_blk hb1 0).trans rfl
                have f1 : Wb.cell? ⟨T1, 1, none⟩ = some (.int .i64 x.n) := (cell_of_blk hb1 1).trans rfl
                have f2 : Wb.cell? ⟨T1, 2, none⟩ = some (.slice uad UL uc) := (cell_of_blk hb1 2).trans rfl
                have f3 : Wb.cell? ⟨T3, 0, none⟩ = some (.int .i64 p.1.k) := (cell_of_blk hb3 0).trans rfl
                have f4 : Wb.cell? ⟨T3, 1, none⟩ = some (.int .i64 p.1.n) := (cell_of_blk hb3 1).trans rfl
                have f5 : Wb.cell? ⟨T3, 2, none⟩ = some (.slice pad PN pc) := (cell_of_blk hb3 2).trans rfl
                obtain ⟨ck, hck⟩ := (HTu.out.keep (w' := wr) HBk.out.size (fun g h1 h2 => ⟨HBk.out.block g h1, h1⟩)).sc3
                rw [← HUL.out] at hck
                have HSc : Hid (∀ w', Below Wb.heap.size Wb w' → KidsAt w' (fun g => g < b0) u ck ∧ Sc3 w' (.slice uad UL uc) UL ck) := hide (fun w' hb => hck w' (HBb.out.trans (hb.mono HBb.out.size)))
                have HScS : Hid (∀ w', Below Wb.heap.size Wb w' → Sc3 w' (.slice uad UL uc) UL ck) := hide (fun w' hb => (HSc.out w' hb).2)
                have hO4 : ON + 1 ≤ 40000 := by omega
                have hwb : wr.heap.size ≤ Wb.heap.size := HBb.out.size
                have hT3e : wr.heap.size ≤ T3 := by omega
                have HWb := hide hWb
                have HT3 := hide hT3
                clear hCD hTq hTp hPl p0 p1 p2 hPN hCN hb3 hb1 hck hWb hT3 hON1 hOb
                go_wp2_with fail
                rw [← HWb.out, ← HT3.out]
                clear q0 q1 q2
                refine wp_region_noPanic ?_
                refine wp_region_held_drew (S := fun w' => w'.cell? ⟨T1, 0, none⟩ = some (.int .i64 x.k) ∧ w'.cell? ⟨T1, 1, none⟩ = some (.int .i64 x.n) ∧ w'.cell? ⟨T1, 2, none⟩ = some (.slice uad UL uc) ∧ w'.cell? ⟨T3, 0, none⟩ = some (.int .i64 p.1.k) ∧ w'.cell? ⟨T3, 1, none⟩ = some (.int .i64 p.1.n) ∧ w'.cell? ⟨T3, 2, none⟩ = some (.slice pad PN pc)) (by kernel_rfl) ⟨f0, f1, f2, f3, f4, f5⟩ (fun hHeld => ?_)
                refine wpAnyH_take (i := 0) (oi := _) (v := ?_) rfl (by kernel_rfl) (by kernel_rfl) (by kernel_rfl) (fun _ _ _ h => h) (Or.inl ⟨by rfl, ?_⟩) (by assumption) ?_
                rotate_left 1
                · (intro w hSw; (try dsimp only at hSw); (first | (go_simp; done) | (go_simp; with_reducible rfl)))
                try simp only [Act.put, List.getElem_toArray, List.getElem_cons_zero, List.getElem_cons_succ, List.setIfInBounds_toArray, List.set_cons_zero, List.set_cons_succ]
                refine wpAnyH_take (i := 1) (oi := _) (v := ?_) rfl (by kernel_rfl) (by kernel_rfl) (by kernel_rfl) (fun _ _ _ h => h) (Or.inl ⟨by rfl, ?_⟩) (by assumption) ?_
                rotate_left 1
                · (intro w hSw; (try dsimp only at hSw); (first | (go_simp; done) | (go_simp; with_reducible rfl)))
                try simp only [Act.put, List.getElem_toArray, List.getElem_cons_zero, List.getElem_cons_succ, List.setIfInBounds_toArray, List.set_cons_zero, List.set_cons_succ]
                refine wpAnyH_take (i := 2) (oi := _) (v := ?_) rfl (by kernel_rfl) (by kernel_rfl) (by kernel_rfl) (fun _ _ _ h => h) (Or.inl ⟨by rfl, ?_⟩) (by assumption) ?_
                rotate_left 1
                · (intro w hSw; (try dsimp only at hSw); (first | (go_simp; done) | (go_simp; with_reducible rfl)))
                try simp only [Act.put, List.getElem_toArray, List.getElem_cons_zero, List.getElem_cons_succ, List.setIfInBounds_toArray, List.set_cons_zero, List.set_cons_succ]
                refine wpAnyH_take (i := 3) (oi := _) (v := ?_) rfl (by kernel_rfl) (by kernel_rfl) (by kernel_rfl) (fun _ _ _ h => h) (Or.inl ⟨by rfl, ?_⟩) (by assumption) ?_
                rotate_left 1
                · (intro w hSw; (try dsimp only at hSw); (first | (go_simp; done) | (go_simp; with_reducible rfl)))
                try simp only [Act.put, List.getElem_toArray, List.getElem_cons_zero, List.getElem_cons_succ, List.setIfInBounds_toArray, List.set_cons_zero, List.set_cons_succ]
                refine wpAnyH_take (i := 4) (oi := _) (v := ?_) rfl (by kernel_rfl) (by kernel_rfl) (by kernel_rfl) (fun _ _ _ h => h) (Or.inl ⟨by rfl, ?_⟩) (by assumption) ?_
                rotate_left 1
                · (intro w hSw; (try dsimp only at hSw); (first | (go_simp; done) | (go_simp; with_reducible rfl)))
                try simp only [Act.put, List.getElem_toArray, List.getElem_cons_zero, List.getElem_cons_succ, List.setIfInBounds_toArray, List.set_cons_zero, List.set_cons_succ]
                refine wpAnyH_take (i := 6) (oi := _) (v := ?_) rfl (by kernel_rfl) (by kernel_rfl) (by kernel_rfl) (fun _ _ _ h => h) (Or.inl ⟨by rfl, ?_⟩) (by assumption) ?_
                rotate_left 1
                · (intro w hSw; (try dsimp only at hSw); (first | (go_simp; done) | (go_simp; with_reducible rfl)))
                try simp only [Act.put, List.getElem_toArray, List.getElem_cons_zero, List.getElem_cons_succ, List.setIfInBounds_toArray, List.set_cons_zero, List.set_cons_succ]
                refine wpAnyH_take (i := 7) (oi := _) (v := ?_) rfl (by kernel_rfl) (by kernel_rfl) (by kernel_rfl) (fun _ _ _ h => h) (Or.inl ⟨by rfl, ?_⟩) (by assumption) ?_
                rotate_left 1
                · (intro w hSw; (try dsimp only at hSw); (first | (go_simp; done) | (go_simp; with_reducible rfl)))
                try simp only [Act.put, List.getElem_toArray, List.getElem_cons_zero, List.getElem_cons_succ, List.setIfInBounds_toArray, List.set_cons_zero, List.set_cons_succ]
                refine wpAnyH_take (i := 9) (oi := _) (v := ?_) rfl (by kernel_rfl) (by kernel_rfl) (by kernel_rfl) (fun _ _ _ h => h) (Or.inl ⟨by rfl, ?_⟩) (by assumption) ?_
                rotate_left 1
                · (intro w hSw; (try dsimp only at hSw); (first | (go_simp; done) | (go_simp; with_reducible rfl)))
                try simp only [Act.put, List.getElem_toArray, List.getElem_cons_zero, List.getElem_cons_succ, List.setIfInBounds_toArray, List.set_cons_zero, List.set_cons_succ]
                obtain ⟨Wd, hWd⟩ : ∃ Wd, Wd = Wb.drew := ⟨_, rfl⟩
                have HBWd : Hid (Below Wb.heap.size Wb Wd) := hide (by rw [hWd]; exact belowDrew (Below.refl _ _))
                have hsd : Wb.heap.size ≤ Wd.heap.size := HBWd.out.size
                rw [← hWd]
                clear hWd
                refine wpAnyH_ready (rs := [5, 10]) (by kernel_rfl) (by simp) ?_
                refine AllReadyH.cons (o := _) rfl (fun K hK => ?_) (AllReadyH.cons (o := _) rfl (fun K hK => ?_) AllReadyH.nil)
                · have hw3 : Below Wb.heap.size Wb (Wd.alloc (.cells #[] 55)) := HBWd.out.alloc HBWd.out.size _
                  have HBw3x := hide hw3
                  have k0 := (HBw3x.out.cell (p := ⟨T1, 0, none⟩) ltT1).trans f0
                  have k1 := (HBw3x.out.cell (p := ⟨T1, 1, none⟩) ltT1).trans f1
                  have k2 := (HBw3x.out.cell (p := ⟨T1, 2, none⟩) ltT1).trans f2
                  have k3 := (HBw3x.out.cell (p := ⟨T3, 0, none⟩) ltT3).trans f3
                  have k4 := (HBw3x.out.cell (p := ⟨T3, 1, none⟩) ltT3).trans f4
                  have k5 := (HBw3x.out.cell (p := ⟨T3, 2, none⟩) ltT3).trans f5
                  go_simp
                  refine hK.out _ _ ⟨k0, k1, k2, k3, k4, k5⟩ (fun hHeld => ?_)
                  clear hK K
                  try simp only [Act.put, List.getElem_toArray, List.getElem_cons_zero, List.getElem_cons_succ, List.setIfInBounds_toArray, List.set_cons_zero, List.set_cons_succ]
                  have hEn : (Wd.alloc (.cells #[] 55)).heap[Wd.heap.size]? = some (.cells #[] 55 (0, 0)) := heap_alloc_new _ _
                  obtain ⟨w3, hw3e⟩ : ∃ w3, w3 = Wd.alloc (.cells #[] 55) := ⟨_, rfl⟩
                  have hszw3 : w3.heap.size = Wd.heap.size + 1 := by rw [hw3e]; simp
                  rw [← hw3e] at hEn HBw3x ⊢
                  have HBw3 := HBw3x
                  have HE := hide hEn
                  have hltE : Wd.heap.size < w3.heap.size := by omega
                  have hslw3 : Wd.heap.size < w3.heap.size := by omega
                  have hsWw3 : Wb.heap.size ≤ w3.heap.size := by omega
                  have Hszw3 := hide hszw3
                  clear hw3 hw3e hszw3
                  refine wpAnyH_ready (rs := [8, 10]) (by kernel_rfl) (by simp) ?_
                  refine AllReadyH.cons (o := _) rfl (fun K hK => ?_) (AllReadyH.cons (o := _) rfl (fun K hK => ?_) AllReadyH.nil)
                  · refine step_app3 rfl _ _ rfl Wb.heap.size (.slice (some ⟨Wd.heap.size, 0, none⟩) 0 0) 0 [] rfl (own0 HE.out (by omega)) _ UL ck rfl (HScS.out w3 HBw3.out) ?_ ?_ ?_
                    · omega
                    · exact HBw3.out.size
                    intro v1 w1 hown1 hgrow1 hap1
                    have HBw4 : Hid (Below Wb.heap.size Wb w1) := hide (HBw3.out.grown hgrow1 HBw3.out.size (fun k hk => by have h0 : Wd.heap.size = k := (by simpa [Value.ownBlock] using hk); omega))
                    have hown1' : w1.ownsRow Wb.heap.size 55 3 v1 UL ck := by simpa using hown1
                    obtain ⟨v1a, v1c, rfl⟩ := iOwn_form hown1'
                    have HO1 := hide hown1'
                    have hs1 : Wb.heap.size ≤ w1.heap.size := HBw4.out.size
                    have k0 := (HBw4.out.cell (p := ⟨T1, 0, none⟩) ltT1).trans f0
                    have k1 := (HBw4.out.cell (p := ⟨T1, 1, none⟩) ltT1).trans f1
                    have k2 := (HBw4.out.cell (p := ⟨T1, 2, none⟩) ltT1).trans f2
                    have k3 := (HBw4.out.cell (p := ⟨T3, 0, none⟩) ltT3).trans f3
                    have k4 := (HBw4.out.cell (p := ⟨T3, 1, none⟩) ltT3).trans f4
                    have k5 := (HBw4.out.cell (p := ⟨T3, 2, none⟩) ltT3).trans f5
                    clear hown1 hgrow1 hap1 hown1'
                    refine hK.out _ _ ⟨k0, k1, k2, k3, k4, k5⟩ (fun hHeld => ?_)
                    clear hK K
                    try simp only [Act.put, List.getElem_toArray, List.getElem_cons_zero, List.getElem_cons_succ, List.setIfInBounds_toArray, List.set_cons_zero, List.set_cons_succ]
                    obtain ⟨w4, hw4e⟩ : ∃ w4, w4 = w1 := ⟨_, rfl⟩
                    subst hw4e
                    refine wpAnyH_ready (rs := [10]) (by kernel_rfl) (by simp) ?_
                    refine AllReadyH.cons (o := _) rfl (fun K hK => ?_) AllReadyH.nil
                    have hw5 : Below Wb.heap.size Wb (w4.alloc (.cells #[.int .i64 p.1.k, .int .i64 p.1.n, .slice pad PN pc] 55)) := HBw4.out.alloc HBw4.out.size _
                    have HBw5x := hide hw5
                    have k0 := (HBw5x.out.cell (p := ⟨T1, 0, none⟩) ltT1).trans f0
                    have k1 := (HBw5x.out.cell (p := ⟨T1, 1, none⟩) ltT1).trans f1
                    have k2 := (HBw5x.out.cell (p := ⟨T1, 2, none⟩) ltT1).trans f2
                    have k3 := (HBw5x.out.cell (p := ⟨T3, 0, none⟩) ltT3).trans f3
                    have k4 := (HBw5x.out.cell (p := ⟨T3, 1, none⟩) ltT3).trans f4
                    have k5 := (HBw5x.out.cell (p := ⟨T3, 2, none⟩) ltT3).trans f5
                    go_simp
                    refine hK.out _ _ ⟨k0, k1, k2, k3, k4, k5⟩ (fun hHeld => ?_)
                    clear hK K
                    try simp only [Act.put, List.getElem_toArray, List.getElem_cons_zero, List.getElem_cons_succ, List.setIfInBounds_toArray, List.set_cons_zero, List.set_cons_succ]
                    have hBn : (w4.alloc (.cells #[.int .i64 p.1.k, .int .i64 p.1.n, .slice pad PN pc] 55)).heap[w4.heap.size]? = some (.cells #[.int .i64 p.1.k, .int .i64 p.1.n, .slice pad PN pc] 55 (0, 0)) := heap_alloc_new _ _
                    have HO1n := hide (World.ownsRow.alloc HO1.out (.cells #[.int .i64 p.1.k, .int .i64 p.1.n, .slice pad PN pc] 55))
                    obtain ⟨w5, hw5e⟩ : ∃ w5, w5 = w4.alloc (.cells #[.int .i64 p.1.k, .int .i64 p.1.n, .slice pad PN pc] 55) := ⟨_, rfl⟩
                    have hszw5 : w5.heap.size = w4.heap.size + 1 := by rw [hw5e]; simp
                    rw [← hw5e] at hBn HO1n HBw5x ⊢
                    have HBw5 := HBw5x
                    have HB := hide hBn
                    have hltB : w4.heap.size < w5.heap.size := by omega
                    have HO1 := HO1n
                    have hslw5 : w4.heap.size < w5.heap.size := by omega
                    have hsWw5 : Wb.heap.size ≤ w5.heap.size := by omega
                    have Hszw5 := hide hszw5
                    clear hw5 hw5e hszw5
                    refine wpAnyH_ready (rs := [11]) (by kernel_rfl) (by simp) ?_
                    refine AllReadyH.cons (o := _) rfl (fun K hK => ?_) AllReadyH.nil
                    refine step_app3 rfl _ _ rfl Wb.heap.size (.slice v1a UL v1c) UL ck rfl HO1.out _ 1 (tC ⟨p.1.k, p.1.n⟩ (.slice pad PN pc)) rfl (sc3_box (x := ⟨p.1.k, p.1.n⟩) rfl HB.out) ?_ ?_ ?_
                    · omega
                    · exact HBw5.out.size
                    intro v2 w2 hown2 hgrow2 hap2
                    have HL1 := hide (fun k hk => (HO1.out.lt k hk).1)
                    have HB2 : Hid (Below Wb.heap.size Wb w2) := hide (HBw5.out.grown hgrow2 HBw5.out.size (fun k hk => HL1.out k hk))
                    obtain ⟨v2a, v2c, rfl⟩ := iOwn_form hown2
                    have HO2 : Hid (w2.ownsRow Wb.heap.size 55 3 (.slice v2a (UL + 1) v2c) (UL + 1) (ck ++ tC ⟨p.1.k, p.1.n⟩ (.slice pad PN pc))) := hide (by simpa using hown2)
                    have hs2 : Wb.heap.size ≤ w2.heap.size := HB2.out.size
                    have g0 := (HB2.out.cell (p := ⟨T1, 0, none⟩) ltT1).trans f0
                    have g1 := (HB2.out.cell (p := ⟨T1, 1, none⟩) ltT1).trans f1
                    have g2 := (HB2.out.cell (p := ⟨T1, 2, none⟩) ltT1).trans f2
                    have g3 := (HB2.out.cell (p := ⟨T3, 0, none⟩) ltT3).trans f3
                    have g4 := (HB2.out.cell (p := ⟨T3, 1, none⟩) ltT3).trans f4
                    have g5 := (HB2.out.cell (p := ⟨T3, 2, none⟩) ltT3).trans f5
                    clear hown2 hgrow2 hap2 HL1
                    refine hK.out _ _ ⟨g0, g1, g2, g3, g4, g5⟩ (fun hHeld => ?_)
                    clear hK K
                    try simp only [Act.put, List.getElem_toArray, List.getElem_cons_zero, List.getElem_cons_succ, List.setIfInBounds_toArray, List.set_cons_zero, List.set_cons_succ]
                    refine wpAnyH_take (i := 12) (oi := _) (v := ?_) rfl (by kernel_rfl) (by kernel_rfl) (by kernel_rfl) (fun _ _ _ h => h) (Or.inl ⟨by rfl, ?_⟩) (by assumption) ?_
                    rotate_left 1
                    · (intro w hSw; (try dsimp only at hSw); (first | (go_simp; done) | (go_simp; with_reducible rfl)))
                    try simp only [Act.put, List.getElem_toArray, List.getElem_cons_zero, List.getElem_cons_succ, List.setIfInBounds_toArray, List.set_cons_zero, List.set_cons_succ]
                    have HKt : Hid (KidT w2 (fun g => g < b0 ∨ Wb.heap.size ≤ g) (u.app (.cons p.1 p.2 .nil)) (.slice v2a (UL + 1) v2c)) := hide (by
                      refine kid_copied (p := p) HO2.out HUL.out ((HSc.out w2 HB2.out).1.keep (Nat.le_refl _) (fun g h1 _ => ⟨rfl, .inl h1⟩)) ?_ (fun g _ h => .inr h)
                      exact ((HSp.out.keep HBk.out.size (fun g h1 h2 => ⟨HBk.out.block g (by omega), h1⟩)).below (HBb.out.trans (HB2.out.mono HBb.out.size))).weak (fun g h _ => .inl h))
                    have HBr2 : Hid (Below wr.heap.size wr w2) := hide (HBb.out.trans (HB2.out.mono HBb.out.size))
                    have HOt2 : Hid (w2.ownsRow b0 55 3 (.slice oa ON oc) ON cs3) := hide (by have h := (HOT.out.below HBr2.out).own; rw [← HON.out] at h; exact h)
                    have hsb2 : Wb.heap.size ≤ w2.heap.size := HB2.out.size
                    have HBx : Hid (Below Wb.heap.size Wb (w2.alloc (.cells #[.int .i64 x.k, .int .i64 x.n, .slice v2a (UL + 1) v2c] 55))) := hide (HB2.out.alloc HB2.out.size _)
                    have m0 := (HBx.out.cell (p := ⟨T1, 0, none⟩) ltT1).trans f0
                    have m1 := (HBx.out.cell (p := ⟨T1, 1, none⟩) ltT1).trans f1
                    have m2 := (HBx.out.cell (p := ⟨T1, 2, none⟩) ltT1).trans f2
                    have m3 := (HBx.out.cell (p := ⟨T3, 0, none⟩) ltT3).trans f3
                    have m4 := (HBx.out.cell (p := ⟨T3, 1, none⟩) ltT3).trans f4
                    have m5 := (HBx.out.cell (p := ⟨T3, 2, none⟩) ltT3).trans f5
                    refine wpAnyH_ready (rs := [13]) (by kernel_rfl) (by simp) ?_
                    refine AllReadyH.cons (o := _) rfl (fun K hK => ?_) AllReadyH.nil
                    go_simp
                    refine hK.out _ _ ⟨m0, m1, m2, m3, m4, m5⟩ (fun hHeld => ?_)
                    clear hK K
                    try simp only [Act.put, List.getElem_toArray, List.getElem_cons_zero, List.getElem_cons_succ, List.setIfInBounds_toArray, List.set_cons_zero, List.set_cons_succ]
                    refine wpAnyH_ready (rs := [14]) (by kernel_rfl) (by simp) ?_
                    refine AllReadyH.cons (o := _) rfl (fun K hK => ?_) AllReadyH.nil
                    refine step_app3 rfl _ _ rfl b0 (.slice oa ON oc) ON cs3 rfl (World.ownsRow.alloc HOt2.out _) _ 1 (tC x (.slice v2a (UL + 1) v2c)) rfl (sc3_box rfl (heap_alloc_new _ _)) ?_ ?_ ?_
                    · omega
                    · (have := hb0r; simp; omega)
                    intro v7 w7 hown7 hgrow7 hap7
                    have hom := HOT.out.more (p := (x, u.app (.cons p.1 p.2 .nil))) (v' := v7) hb0r HBr2.out HKt.out (fun g h1 h2 => by
                      rcases h1 with h1 | h1
                      · exact .inl ⟨trivial, h1⟩
                      · refine .inr ⟨by omega, fun e => ?_⟩
                        have := (HOwl.out g e).2
                        omega) (by rw [← HON.out]; exact hown7) hgrow7 (fun g hg => by
                      rcases hap7 g hg with h | h
                      · exact .inl h
                      · exact .inr (by omega))
                    obtain ⟨hot7, hb7, hk7⟩ := hom
                    have HOT7 := hide hot7
                    have hs7 : w2.heap.size < w7.heap.size := by have := hgrow7.size; simp at this; omega
                    have HAp7 : Hid (v7.ownBlock ≠ some T1) := hide (fun e => by
                      rcases hap7 T1 e with h | h
                      · exact HAp.out h
                      · simp at h; omega)
                    have HBx7 : Hid (w7.heap[T1]? = some (.cells #[.int .i64 x.k, .int .i64 x.n, .slice uad UL uc] 55 (0, 0))) := hide (by
                      rw [hk7 T1 (by omega) HAp.out, HBr2.out.block T1 (by omega)]
                      exact HX1.out)
                    have HBk7 : Hid (Below b0 wk w7) := hide (HBk.out.trans hb7)
                    have hv7 : ∀ g, g < w2.heap.size → (Value.slice oa ON oc).ownBlock ≠ some g → (∀ i v, w2.cell? ⟨g, i, none⟩ = some v → w7.cell? ⟨g, i, none⟩ = some v) := fun g h1 h2 i v h3 => (World.cell?_of_block (a := ⟨g, i, none⟩) (hk7 g h1 h2)).trans h3
                    have n0 := hv7 T1 (by omega) HAp.out 0 _ g0
                    have n1 := hv7 T1 (by omega) HAp.out 1 _ g1
                    have n2 := hv7 T1 (by omega) HAp.out 2 _ g2
                    have n3 := hv7 T3 (by omega) (fun e => by have := (HOwl.out _ e).2; omega) 0 _ g3
                    have n4 := hv7 T3 (by omega) (fun e => by have := (HOwl.out _ e).2; omega) 1 _ g4
                    have n5 := hv7 T3 (by omega) (fun e => by have := (HOwl.out _ e).2; omega) 2 _ g5
                    obtain ⟨va7, vc7, rfl⟩ := iOwn_form hown7
                    clear hot7 hb7 hk7 hv7 hown7 hgrow7 hap7
                    refine hK.out _ _ ⟨n0, n1, n2, n3, n4, n5⟩ (fun hHeld => ?_)
                    clear hK K
                    try simp only [Act.put, List.getElem_toArray, List.getElem_cons_zero, List.getElem_cons_succ, List.setIfInBounds_toArray, List.set_cons_zero, List.set_cons_succ]
                    refine wpAnyH_take (i := 15) (oi := _) (v := ?_) rfl (by kernel_rfl) (by kernel_rfl) (by kernel_rfl) (fun _ _ _ h => h) (Or.inl ⟨by rfl, ?_⟩) (by assumption) ?_
                    rotate_left 1
                    · (intro w hSw; (try dsimp only at hSw); (first | (go_simp; done) | (go_simp; with_reducible rfl)))
                    try simp only [Act.put, List.getElem_toArray, List.getElem_cons_zero, List.getElem_cons_succ, List.setIfInBounds_toArray, List.set_cons_zero, List.set_cons_succ]
                    refine wpAnyH_done (by kernel_rfl) ?_ _
                    refine NoPanic.normal ?_
                    have HOTf : Hid (OT w7 b0 TT (.slice va7 (ON + 1) vc7) (rowsL x (ldW A l ++ (C ++ [p]).map fun y => u.app (.cons y.1 y.2 .nil))) (cs3 ++ tC x (.slice v2a (UL + 1) v2c))) := hide (by rw [List.map_append, List.map_singleton, rowsL_app]; exact HOT7.out)
                    have hT17 : T1 < w7.heap.size := by omega
                    clear m0 m1 m2 m3 m4 m5 n0 n1 n2 n3 n4 n5 g0 g1 g2 g3 g4 g5 HKt HO2 HB2 HBr2 HOt2 HOT7 HBx
                    go_wp2_with fail
                    refine ⟨⟨C ++ [p], Dd, _, HLs.out, by rw [List.length_append, List.length_singleton, ← HCN.out]; go_num, HOTf.out, HAp7.out, HBx7.out, hT17, HBk7.out⟩, by simp [intOf]; omega⟩
                  · have hw4 : Below Wb.heap.size Wb (w3.alloc (.cells #[.int .i64 p.1.k, .int .i64 p.1.n, .slice pad PN pc] 55)) := HBw3.out.alloc HBw3.out.size _
                    have HBw4x := hide hw4
                    have k0 := (HBw4x.out.cell (p := ⟨T1, 0, none⟩) ltT1).trans f0
                    have k1 := (HBw4x.out.cell (p := ⟨T1, 1, none⟩) ltT1).trans f1
                    have k2 := (HBw4x.out.cell (p := ⟨T1, 2, none⟩) ltT1).trans f2
                    have k3 := (HBw4x.out.cell (p := ⟨T3, 0, none⟩) ltT3).trans f3
                    have k4 := (HBw4x.out.cell (p := ⟨T3, 1, none⟩) ltT3).trans f4
                    have k5 := (HBw4x.out.cell (p := ⟨T3, 2, none⟩) ltT3).trans f5
                    go_simp
                    refine hK.out _ _ ⟨k0, k1, k2, k3, k4, k5⟩ (fun hHeld => ?_)
                    clear hK K
                    try simp only [Act.put, List.getElem_toArray, List.getElem_cons_zero, List.getElem_cons_succ, List.setIfInBounds_toArray, List.set_cons_zero, List.set_cons_succ]
                    have hBn : (w3.alloc (.cells #[.int .i64 p.1.k, .int .i64 p.1.n, .slice pad PN pc] 55)).heap[w3.heap.size]? = some (.cells #[.int .i64 p.1.k, .int .i64 p.1.n, .slice pad PN pc] 55 (0, 0)) := heap_alloc_new _ _
                    have hEo : (w3.alloc (.cells #[.int .i64 p.1.k, .int .i64 p.1.n, .slice pad PN pc] 55)).heap[Wd.heap.size]? = some (.cells #[] 55 (0, 0)) := (heap_alloc_old _ _ hltE).trans HE.out
                    obtain ⟨w4, hw4e⟩ : ∃ w4, w4 = w3.alloc (.cells #[.int .i64 p.1.k, .int .i64 p.1.n, .slice pad PN pc] 55) := ⟨_, rfl⟩
                    have hszw4 : w4.heap.size = w3.heap.size + 1 := by rw [hw4e]; simp
                    rw [← hw4e] at hBn hEo HBw4x ⊢
                    have HBw4 := HBw4x
                    have HB := hide hBn
                    have hltB : w3.heap.size < w4.heap.size := by omega
                    have HE := hide hEo
                    have hltE : Wd.heap.size < w4.heap.size := by omega
                    have hslw4 : w3.heap.size < w4.heap.size := by omega
                    have hsWw4 : Wb.heap.size ≤ w4.heap.size := by omega
                    have Hszw4 := hide hszw4
                    clear hw4 hw4e hszw4
                    refine wpAnyH_ready (rs := [8]) (by kernel_rfl) (by simp) ?_
                    refine AllReadyH.cons (o := _) rfl (fun K hK => ?_) AllReadyH.nil
                    refine step_app3 rfl _ _ rfl Wb.heap.size (.slice (some ⟨Wd.heap.size, 0, none⟩) 0 0) 0 [] rfl (own0 HE.out (by omega)) _ UL ck rfl (HScS.out w4 HBw4.out) ?_ ?_ ?_
                    · omega
                    · exact HBw4.out.size
                    intro v1 w1 hown1 hgrow1 hap1
                    have HBw5 : Hid (Below Wb.heap.size Wb w1) := hide (HBw4.out.grown hgrow1 HBw4.out.size (fun k hk => by have h0 : Wd.heap.size = k := (by simpa [Value.ownBlock] using hk); omega))
                    have hBo : w1.heap[w3.heap.size]? = some (.cells #[.int .i64 p.1.k, .int .i64 p.1.n, .slice pad PN pc] 55 (0, 0)) := (hgrow1.block w3.heap.size hltB (fun e => by simp [Value.ownBlock] at e; omega)).trans HB.out
                    have HB := hide hBo
                    have hltB : w3.heap.size < w1.heap.size := by have := hgrow1.size; omega
                    have hown1' : w1.ownsRow Wb.heap.size 55 3 v1 UL ck := by simpa using hown1
                    obtain ⟨v1a, v1c, rfl⟩ := iOwn_form hown1'
                    have HO1 := hide hown1'
                    have hs1 : Wb.heap.size ≤ w1.heap.size := HBw5.out.size
                    have k0 := (HBw5.out.cell (p := ⟨T1, 0, none⟩) ltT1).trans f0
                    have k1 := (HBw5.out.cell (p := ⟨T1, 1, none⟩) ltT1).trans f1
                    have k2 := (HBw5.out.cell (p := ⟨T1, 2, none⟩) ltT1).trans f2
                    have k3 := (HBw5.out.cell (p := ⟨T3, 0, none⟩) ltT3).trans f3
                    have k4 := (HBw5.out.cell (p := ⟨T3, 1, none⟩) ltT3).trans f4
                    have k5 := (HBw5.out.cell (p := ⟨T3, 2, none⟩) ltT3).trans f5
                    clear hown1 hgrow1 hap1 hown1'
                    refine hK.out _ _ ⟨k0, k1, k2, k3, k4, k5⟩ (fun hHeld => ?_)
                    clear hK K
                    try simp only [Act.put, List.getElem_toArray, List.getElem_cons_zero, List.getElem_cons_succ, List.setIfInBounds_toArray, List.set_cons_zero, List.set_cons_succ]
                    obtain ⟨w5, hw5e⟩ : ∃ w5, w5 = w1 := ⟨_, rfl⟩
                    subst hw5e
                    refine wpAnyH_ready (rs := [11]) (by kernel_rfl) (by simp) ?_
                    refine AllReadyH.cons (o := _) rfl (fun K hK => ?_) AllReadyH.nil
                    refine step_app3 rfl _ _ rfl Wb.heap.size (.slice v1a UL v1c) UL ck rfl HO1.out _ 1 (tC ⟨p.1.k, p.1.n⟩ (.slice pad PN pc)) rfl (sc3_box (x := ⟨p.1.k, p.1.n⟩) rfl HB.out) ?_ ?_ ?_
                    · omega
                    · exact HBw5.out.size
                    intro v2 w2 hown2 hgrow2 hap2
                    have HL1 := hide (fun k hk => (HO1.out.lt k hk).1)
                    have HB2 : Hid (Below Wb.heap.size Wb w2) := hide (HBw5.out.grown hgrow2 HBw5.out.size (fun k hk => HL1.out k hk))
                    obtain ⟨v2a, v2c, rfl⟩ := iOwn_form hown2
                    have HO2 : Hid (w2.ownsRow Wb.heap.size 55 3 (.slice v2a (UL + 1) v2c) (UL + 1) (ck ++ tC ⟨p.1.k, p.1.n⟩ (.slice pad PN pc))) := hide (by simpa using hown2)
                    have hs2 : Wb.heap.size ≤ w2.heap.size := HB2.out.size
                    have g0 := (HB2.out.cell (p := ⟨T1, 0, none⟩) ltT1).trans f0
                    have g1 := (HB2.out.cell (p := ⟨T1, 1, none⟩) ltT1).trans f1
                    have g2 := (HB2.out.cell (p := ⟨T1, 2, none⟩) ltT1).trans f2
                    have g3 := (HB2.out.cell (p := ⟨T3, 0, none⟩) ltT3).trans f3
                    have g4 := (HB2.out.cell (p := ⟨T3, 1, none⟩) ltT3).trans f4
                    have g5 := (HB2.out.cell (p := ⟨T3, 2, none⟩) ltT3).trans f5
                    clear hown2 hgrow2 hap2 HL1
                    refine hK.out _ _ ⟨g0, g1, g2, g3, g4, g5⟩ (fun hHeld => ?_)
                    clear hK K
                    try simp only [Act.put, List.getElem_toArray, List.getElem_cons_zero, List.getElem_cons_succ, List.setIfInBounds_toArray, List.set_cons_zero, List.set_cons_succ]
                    refine wpAnyH_take (i := 12) (oi := _) (v := ?_) rfl (by kernel_rfl) (by kernel_rfl) (by kernel_rfl) (fun _ _ _ h => h) (Or.inl ⟨by rfl, ?_⟩) (by assumption) ?_
                    rotate_left 1
                    · (intro w hSw; (try dsimp only at hSw); (first | (go_simp; done) | (go_simp; with_reducible rfl)))
                    try simp only [Act.put, List.getElem_toArray, List.getElem_cons_zero, List.getElem_cons_succ, List.setIfInBounds_toArray, List.set_cons_zero, List.set_cons_succ]
                    have HKt : Hid (KidT w2 (fun g => g < b0 ∨ Wb.heap.size ≤ g) (u.app (.cons p.1 p.2 .nil)) (.slice v2a (UL + 1) v2c)) := hide (by
                      refine kid_copied (p := p) HO2.out HUL.out ((HSc.out w2 HB2.out).1.keep (Nat.le_refl _) (fun g h1 _ => ⟨rfl, .inl h1⟩)) ?_ (fun g _ h => .inr h)
                      exact ((HSp.out.keep HBk.out.size (fun g h1 h2 => ⟨HBk.out.block g (by omega), h1⟩)).below (HBb.out.trans (HB2.out.mono HBb.out.size))).weak (fun g h _ => .inl h))
                    have HBr2 : Hid (Below wr.heap.size wr w2) := hide (HBb.out.trans (HB2.out.mono HBb.out.size))
                    have HOt2 : Hid (w2.ownsRow b0 55 3 (.slice oa ON oc) ON cs3) := hide (by have h := (HOT.out.below HBr2.out).own; rw [← HON.out] at h; exact h)
                    have hsb2 : Wb.heap.size ≤ w2.heap.size := HB2.out.size
                    have HBx : Hid (Below Wb.heap.size Wb (w2.alloc (.cells #[.int .i64 x.k, .int .i64 x.n, .slice v2a (UL + 1) v2c] 55))) := hide (HB2.out.alloc HB2.out.size _)
                    have m0 := (HBx.out.cell (p := ⟨T1, 0, none⟩) ltT1).trans f0
                    have m1 := (HBx.out.cell (p := ⟨T1, 1, none⟩) ltT1).trans f1
                    have m2 := (HBx.out.cell (p := ⟨T1, 2, none⟩) ltT1).trans f2
                    have m3 := (HBx.out.cell (p := ⟨T3, 0, none⟩) ltT3).trans f3
                    have m4 := (HBx.out.cell (p := ⟨T3, 1, none⟩) ltT3).trans f4
                    have m5 := (HBx.out.cell (p := ⟨T3, 2, none⟩) ltT3).trans f5
                    refine wpAnyH_ready (rs := [13]) (by kernel_rfl) (by simp) ?_
                    refine AllReadyH.cons (o := _) rfl (fun K hK => ?_) AllReadyH.nil
                    go_simp
                    refine hK.out _ _ ⟨m0, m1, m2, m3, m4, m5⟩ (fun hHeld => ?_)
                    clear hK K
                    try simp only [Act.put, List.getElem_toArray, List.getElem_cons_zero, List.getElem_cons_succ, List.setIfInBounds_toArray, List.set_cons_zero, List.set_cons_succ]
                    refine wpAnyH_ready (rs := [14]) (by kernel_rfl) (by simp) ?_
                    refine AllReadyH.cons (o := _) rfl (fun K hK => ?_) AllReadyH.nil
                    refine step_app3 rfl _ _ rfl b0 (.slice oa ON oc) ON cs3 rfl (World.ownsRow.alloc HOt2.out _) _ 1 (tC x (.slice v2a (UL + 1) v2c)) rfl (sc3_box rfl (heap_alloc_new _ _)) ?_ ?_ ?_
                    · omega
                    · (have := hb0r; simp; omega)
                    intro v7 w7 hown7 hgrow7 hap7
                    have hom := HOT.out.more (p := (x, u.app (.cons p.1 p.2 .nil))) (v' := v7) hb0r HBr2.out HKt.out (fun g h1 h2 => by
                      rcases h1 with h1 | h1
                      · exact .inl ⟨trivial, h1⟩
                      · refine .inr ⟨by omega, fun e => ?_⟩
                        have := (HOwl.out g e).2
                        omega) (by rw [← HON.out]; exact hown7) hgrow7 (fun g hg => by
                      rcases hap7 g hg with h | h
                      · exact .inl h
                      · exact .inr (by omega))
                    obtain ⟨hot7, hb7, hk7⟩ := hom
                    have HOT7 := hide hot7
                    have hs7 : w2.heap.size < w7.heap.size := by have := hgrow7.size; simp at this; omega
                    have HAp7 : Hid (v7.ownBlock ≠ some T1) := hide (fun e => by
                      rcases hap7 T1 e with h | h
                      · exact HAp.out h
                      · simp at h; omega)
                    have HBx7 : Hid (w7.heap[T1]? = some (.cells #[.int .i64 x.k, .int .i64 x.n, .slice uad UL uc] 55 (0, 0))) := hide (by
                      rw [hk7 T1 (by omega) HAp.out, HBr2.out.block T1 (by omega)]
                      exact HX1.out)
                    have HBk7 : Hid (Below b0 wk w7) := hide (HBk.out.trans hb7)
                    have hv7 : ∀ g, g < w2.heap.size → (Value.slice oa ON oc).ownBlock ≠ some g → (∀ i v, w2.cell? ⟨g, i, none⟩ = some v → w7.cell? ⟨g, i, none⟩ = some v) := fun g h1 h2 i v h3 => (World.cell?_of_block (a := ⟨g, i, none⟩) (hk7 g h1 h2)).trans h3
                    have n0 := hv7 T1 (by omega) HAp.out 0 _ g0
                    have n1 := hv7 T1 (by omega) HAp.out 1 _ g1
                    have n2 := hv7 T1 (by omega) HAp.out 2 _ g2
                    have n3 := hv7 T3 (by omega) (fun e => by have := (HOwl.out _ e).2; omega) 0 _ g3
                    have n4 := hv7 T3 (by omega) (fun e => by have := (HOwl.out _ e).2; omega) 1 _ g4
                    have n5 := hv7 T3 (by omega) (fun e => by have := (HOwl.out _ e).2; omega) 2 _ g5
                    obtain ⟨va7, vc7, rfl⟩ := iOwn_form hown7
                    clear hot7 hb7 hk7 hv7 hown7 hgrow7 hap7
                    refine hK.out _ _ ⟨n0, n1, n2, n3, n4, n5⟩ (fun hHeld => ?_)
                    clear hK K
                    try simp only [Act.put, List.getElem_toArray, List.getElem_cons_zero, List.getElem_cons_succ, List.setIfInBounds_toArray, List.set_cons_zero, List.set_cons_succ]
                    refine wpAnyH_take (i := 15) (oi := _) (v := ?_) rfl (by kernel_rfl) (by kernel_rfl) (by kernel_rfl) (fun _ _ _ h => h) (Or.inl ⟨by rfl, ?_⟩) (by assumption) ?_
                    rotate_left 1
                    · (intro w hSw; (try dsimp only at hSw); (first | (go_simp; done) | (go_simp; with_reducible rfl)))
                    try simp only [Act.put, List.getElem_toArray, List.getElem_cons_zero, List.getElem_cons_succ, List.setIfInBounds_toArray, List.set_cons_zero, List.set_cons_succ]
                    refine wpAnyH_done (by kernel_rfl) ?_ _
                    refine NoPanic.normal ?_
                    have HOTf : Hid (OT w7 b0 TT (.slice va7 (ON + 1) vc7) (rowsL x (ldW A l ++ (C ++ [p]).map fun y => u.app (.cons y.1 y.2 .nil))) (cs3 ++ tC x (.slice v2a (UL + 1) v2c))) := hide (by rw [List.map_append, List.map_singleton, rowsL_app]; exact HOT7.out)
                    have hT17 : T1 < w7.heap.size := by omega
                    clear m0 m1 m2 m3 m4 m5 n0 n1 n2 n3 n4 n5 g0 g1 g2 g3 g4 g5 HKt HO2 HB2 HBr2 HOt2 HOT7 HBx
                    go_wp2_with fail
                    refine ⟨⟨C ++ [p], Dd, _, HLs.out, by rw [List.length_append, List.length_singleton, ← HCN.out]; go_num, HOTf.out, HAp7.out, HBx7.out, hT17, HBk7.out⟩, by simp [intOf]; omega⟩
                · have hw3 : Below Wb.heap.size Wb (Wd.alloc (.cells #[.int .i64 p.1.k, .int .i64 p.1.n, .slice pad PN pc] 55)) := HBWd.out.alloc HBWd.out.size _
                  have HBw3x := hide hw3
                  have k0 := (HBw3x.out.cell (p := ⟨T1, 0, none⟩) ltT1).trans f0
                  have k1 := (HBw3x.out.cell (p := ⟨T1, 1, none⟩) ltT1).trans f1
                  have k2 := (HBw3x.out.cell (p := ⟨T1, 2, none⟩) ltT1).trans f2
                  have k3 := (HBw3x.out.cell (p := ⟨T3, 0, none⟩) ltT3).trans f3
                  have k4 := (HBw3x.out.cell (p := ⟨T3, 1, none⟩) ltT3).trans f4
                  have k5 := (HBw3x.out.cell (p := ⟨T3, 2, none⟩) ltT3).trans f5
                  go_simp
                  refine hK.out _ _ ⟨k0, k1, k2, k3, k4, k5⟩ (fun hHeld => ?_)
                  clear hK K
                  try simp only [Act.put, List.getElem_toArray, List.getElem_cons_zero, List.getElem_cons_succ, List.setIfInBounds_toArray, List.set_cons_zero, List.set_cons_succ]
                  have hBn : (Wd.alloc (.cells #[.int .i64 p.1.k, .int .i64 p.1.n, .slice pad PN pc] 55)).heap[Wd.heap.size]? = some (.cells #[.int .i64 p.1.k, .int .i64 p.1.n, .slice pad PN pc] 55 (0, 0)) := heap_alloc_new _ _
                  obtain ⟨w3, hw3e⟩ : ∃ w3, w3 = Wd.alloc (.cells #[.int .i64 p.1.k, .int .i64 p.1.n, .slice pad PN pc] 55) := ⟨_, rfl⟩
                  have hszw3 : w3.heap.size = Wd.heap.size + 1 := by rw [hw3e]; simp
                  rw [← hw3e] at hBn HBw3x ⊢
                  have HBw3 := HBw3x
                  have HB := hide hBn
                  have hltB : Wd.heap.size < w3.heap.size := by omega
                  have hslw3 : Wd.heap.size < w3.heap.size := by omega
                  have hsWw3 : Wb.heap.size ≤ w3.heap.size := by omega
                  have Hszw3 := hide hszw3
                  clear hw3 hw3e hszw3
                  refine wpAnyH_ready (rs := [5]) (by kernel_rfl) (by simp) ?_
                  refine AllReadyH.cons (o := _) rfl (fun K hK => ?_) AllReadyH.nil
                  have hw4 : Below Wb.heap.size Wb (w3.alloc (.cells #[] 55)) := HBw3.out.alloc HBw3.out.size _
                  have HBw4x := hide hw4
                  have k0 := (HBw4x.out.cell (p := ⟨T1, 0, none⟩) ltT1).trans f0
                  have k1 := (HBw4x.out.cell (p := ⟨T1, 1, none⟩) ltT1).trans f1
                  have k2 := (HBw4x.out.cell (p := ⟨T1, 2, none⟩) ltT1).trans f2
                  have k3 := (HBw4x.out.cell (p := ⟨T3, 0, none⟩) ltT3).trans f3
                  have k4 := (HBw4x.out.cell (p := ⟨T3, 1, none⟩) ltT3).trans f4
                  have k5 := (HBw4x.out.cell (p := ⟨T3, 2, none⟩) ltT3).trans f5
                  go_simp
                  refine hK.out _ _ ⟨k0, k1, k2, k3, k4, k5⟩ (fun hHeld => ?_)
                  clear hK K
                  try simp only [Act.put, List.getElem_toArray, List.getElem_cons_zero, List.getElem_cons_succ, List.setIfInBounds_toArray, List.set_cons_zero, List.set_cons_succ]
                  have hEn : (w3.alloc (.cells #[] 55)).heap[w3.heap.size]? = some (.cells #[] 55 (0, 0)) := heap_alloc_new _ _
                  have hBo : (w3.alloc (.cells #[] 55)).heap[Wd.heap.size]? = some (.cells #[.int .i64 p.1.k, .int .i64 p.1.n, .slice pad PN pc] 55 (0, 0)) := (heap_alloc_old _ _ hltB).trans HB.out
                  obtain ⟨w4, hw4e⟩ : ∃ w4, w4 = w3.alloc (.cells #[] 55) := ⟨_, rfl⟩
                  have hszw4 : w4.heap.size = w3.heap.size + 1 := by rw [hw4e]; simp
                  rw [← hw4e] at hEn hBo HBw4x ⊢
                  have HBw4 := HBw4x
                  have HE := hide hEn
                  have hltE : w3.heap.size < w4.heap.size := by omega
                  have HB := hide hBo
                  have hltB : Wd.heap.size < w4.heap.size := by omega
                  have hslw4 : w3.heap.size < w4.heap.size := by omega
                  have hsWw4 : Wb.heap.size ≤ w4.heap.size := by omega
                  have Hszw4 := hide hszw4
                  clear hw4 hw4e hszw4
                  refine wpAnyH_ready (rs := [8]) (by kernel_rfl) (by simp) ?_
                  refine AllReadyH.cons (o := _) rfl (fun K hK => ?_) AllReadyH.nil
                  refine step_app3 rfl _ _ rfl Wb.heap.size (.slice (some ⟨w3.heap.size, 0, none⟩) 0 0) 0 [] rfl (own0 HE.out (by omega)) _ UL ck rfl (HScS.out w4 HBw4.out) ?_ ?_ ?_
                  · omega
                  · exact HBw4.out.size
                  intro v1 w1 hown1 hgrow1 hap1
                  have HBw5 : Hid (Below Wb.heap.size Wb w1) := hide (HBw4.out.grown hgrow1 HBw4.out.size (fun k hk => by have h0 : w3.heap.size = k := (by simpa [Value.ownBlock] using hk); omega))
                  have hBo : w1.heap[Wd.heap.size]? = some (.cells #[.int .i64 p.1.k, .int .i64 p.1.n, .slice pad PN pc] 55 (0, 0)) := (hgrow1.block Wd.heap.size hltB (fun e => by simp [Value.ownBlock] at e; omega)).trans HB.out
                  have HB := hide hBo
                  have hltB : Wd.heap.size < w1.heap.size := by have := hgrow1.size; omega
                  have hown1' : w1.ownsRow Wb.heap.size 55 3 v1 UL ck := by simpa using hown1
                  obtain ⟨v1a, v1c, rfl⟩ := iOwn_form hown1'
                  have HO1 := hide hown1'
                  have hs1 : Wb.heap.size ≤ w1.heap.size := HBw5.out.size
                  have k0 := (HBw5.out.cell (p := ⟨T1, 0, none⟩) ltT1).trans f0
                  have k1 := (HBw5.out.cell (p := ⟨T1, 1, none⟩) ltT1).trans f1
                  have k2 := (HBw5.out.cell (p := ⟨T1, 2, none⟩) ltT1).trans f2
                  have k3 := (HBw5.out.cell (p := ⟨T3, 0, none⟩) ltT3).trans f3
                  have k4 := (HBw5.out.cell (p := ⟨T3, 1, none⟩) ltT3).trans f4
                  have k5 := (HBw5.out.cell (p := ⟨T3, 2, none⟩) ltT3).trans f5
                  clear hown1 hgrow1 hap1 hown1'
                  refine hK.out _ _ ⟨k0, k1, k2, k3, k4, k5⟩ (fun hHeld => ?_)
                  clear hK K
                  try simp only [Act.put, List.getElem_toArray, List.getElem_cons_zero, List.getElem_cons_succ, List.setIfInBounds_toArray, List.set_cons_zero, List.set_cons_succ]
                  obtain ⟨w5, hw5e⟩ : ∃ w5, w5 = w1 := ⟨_, rfl⟩
                  subst hw5e
                  refine wpAnyH_ready (rs := [11]) (by kernel_rfl) (by simp) ?_
                  refine AllReadyH.cons (o := _) rfl (fun K hK => ?_) AllReadyH.nil
                  refine step_app3 rfl _ _ rfl Wb.heap.size (.slice v1a UL v1c) UL ck rfl HO1.out _ 1 (tC ⟨p.1.k, p.1.n⟩ (.slice pad PN pc)) rfl (sc3_box (x := ⟨p.1.k, p.1.n⟩) rfl HB.out) ?_ ?_ ?_
                  · omega
                  · exact HBw5.out.size
                  intro v2 w2 hown2 hgrow2 hap2
                  have HL1 := hide (fun k hk => (HO1.out.lt k hk).1)
                  have HB2 : Hid (Below Wb.heap.size Wb w2) := hide (HBw5.out.grown hgrow2 HBw5.out.size (fun k hk => HL1.out k hk))
                  obtain ⟨v2a, v2c, rfl⟩ := iOwn_form hown2
                  have HO2 : Hid (w2.ownsRow Wb.heap.size 55 3 (.slice v2a (UL + 1) v2c) (UL + 1) (ck ++ tC ⟨p.1.k, p.1.n⟩ (.slice pad PN pc))) := hide (by simpa using hown2)
                  have hs2 : Wb.heap.size ≤ w2.heap.size := HB2.out.size
                  have g0 := (HB2.out.cell (p := ⟨T1, 0, none⟩) ltT1).trans f0
                  have g1 := (HB2.out.cell (p := ⟨T1, 1, none⟩) ltT1).trans f1
                  have g2 := (HB2.out.cell (p := ⟨T1, 2, none⟩) ltT1).trans f2
                  have g3 := (HB2.out.cell (p := ⟨T3, 0, none⟩) ltT3).trans f3
                  have g4 := (HB2.out.cell (p := ⟨T3, 1, none⟩) ltT3).trans f4
                  have g5 := (HB2.out.cell (p := ⟨T3, 2, none⟩) ltT3).trans f5
                  clear hown2 hgrow2 hap2 HL1
                  refine hK.out _ _ ⟨g0, g1, g2, g3, g4, g5⟩ (fun hHeld => ?_)
                  clear hK K
                  try simp only [Act.put, List.getElem_toArray, List.getElem_cons_zero, List.getElem_cons_succ, List.setIfInBounds_toArray, List.set_cons_zero, List.set_cons_succ]
                  refine wpAnyH_take (i := 12) (oi := _) (v := ?_) rfl (by kernel_rfl) (by kernel_rfl) (by kernel_rfl) (fun _ _ _ h => h) (Or.inl ⟨by rfl, ?_⟩) (by assumption) ?_
                  rotate_left 1
                  · (intro w hSw; (try dsimp only at hSw); (first | (go_simp; done) | (go_simp; with_reducible rfl)))
                  try simp only [Act.put, List.getElem_toArray, List.getElem_cons_zero, List.getElem_cons_succ, List.setIfInBounds_toArray, List.set_cons_zero, List.set_cons_succ]
                  have HKt : Hid (KidT w2 (fun g => g < b0 ∨ Wb.heap.size ≤ g) (u.app (.cons p.1 p.2 .nil)) (.slice v2a (UL + 1) v2c)) := hide (by
                    refine kid_copied (p := p) HO2.out HUL.out ((HSc.out w2 HB2.out).1.keep (Nat.le_refl _) (fun g h1 _ => ⟨rfl, .inl h1⟩)) ?_ (fun g _ h => .inr h)
                    exact ((HSp.out.keep HBk.out.size (fun g h1 h2 => ⟨HBk.out.block g (by omega), h1⟩)).below (HBb.out.trans (HB2.out.mono HBb.out.size))).weak (fun g h _ => .inl h))
                  have HBr2 : Hid (Below wr.heap.size wr w2) := hide (HBb.out.trans (HB2.out.mono HBb.out.size))
                  have HOt2 : Hid (w2.ownsRow b0 55 3 (.slice oa ON oc) ON cs3) := hide (by have h := (HOT.out.below HBr2.out).own; rw [← HON.out] at h; exact h)
                  have hsb2 : Wb.heap.size ≤ w2.heap.size := HB2.out.size
                  have HBx : Hid (Below Wb.heap.size Wb (w2.alloc (.cells #[.int .i64 x.k, .int .i64 x.n, .slice v2a (UL + 1) v2c] 55))) := hide (HB2.out.alloc HB2.out.size _)
                  have m0 := (HBx.out.cell (p := ⟨T1, 0, none⟩) ltT1).trans f0
                  have m1 := (HBx.out.cell (p := ⟨T1, 1, none⟩) ltT1).trans f1
                  have m2 := (HBx.out.cell (p := ⟨T1, 2, none⟩) ltT1).trans f2
                  have m3 := (HBx.out.cell (p := ⟨T3, 0, none⟩) ltT3).trans f3
                  have m4 := (HBx.out.cell (p := ⟨T3, 1, none⟩) ltT3).trans f4
                  have m5 := (HBx.out.cell (p := ⟨T3, 2, none⟩) ltT3).trans f5
                  refine wpAnyH_ready (rs := [13]) (by kernel_rfl) (by simp) ?_
                  refine AllReadyH.cons (o := _) rfl (fun K hK => ?_) AllReadyH.nil
                  go_simp
                  refine hK.out _ _ ⟨m0, m1, m2, m3, m4, m5⟩ (fun hHeld => ?_)
                  clear hK K
                  try simp only [Act.put, List.getElem_toArray, List.getElem_cons_zero, List.getElem_cons_succ, List.setIfInBounds_toArray, List.set_cons_zero, List.set_cons_succ]
                  refine wpAnyH_ready (rs := [14]) (by kernel_rfl) (by simp) ?_
                  refine AllReadyH.cons (o := _) rfl (fun K hK => ?_) AllReadyH.nil
                  refine step_app3 rfl _ _ rfl b0 (.slice oa ON oc) ON cs3 rfl (World.ownsRow.alloc HOt2.out _) _ 1 (tC x (.slice v2a (UL + 1) v2c)) rfl (sc3_box rfl (heap_alloc_new _ _)) ?_ ?_ ?_
                  · omega
                  · (have := hb0r; simp; omega)
                  intro v7 w7 hown7 hgrow7 hap7
                  have hom := HOT.out.more (p := (x, u.app (.cons p.1 p.2 .nil))) (v' := v7) hb0r HBr2.out HKt.out (fun g h1 h2 => by
                    rcases h1 with h1 | h1
                    · exact .inl ⟨trivial, h1⟩
                    · refine .inr ⟨by omega, fun e => ?_⟩
                      have := (HOwl.out g e).2
                      omega) (by rw [← HON.out]; exact hown7) hgrow7 (fun g hg => by
                    rcases hap7 g hg with h | h
                    · exact .inl h
                    · exact .inr (by omega))
                  obtain ⟨hot7, hb7, hk7⟩ := hom
                  have HOT7 := hide hot7
                  have hs7 : w2.heap.size < w7.heap.size := by have := hgrow7.size; simp at this; omega
                  have HAp7 : Hid (v7.ownBlock ≠ some T1) := hide (fun e => by
                    rcases hap7 T1 e with h | h
                    · exact HAp.out h
                    · simp at h; omega)
                  have HBx7 : Hid (w7.heap[T1]? = some (.cells #[.int .i64 x.k, .int .i64 x.n, .slice uad UL uc] 55 (0, 0))) := hide (by
                    rw [hk7 T1 (by omega) HAp.out, HBr2.out.block T1 (by omega)]
                    exact HX1.out)
                  have HBk7 : Hid (Below b0 wk w7) := hide (HBk.out.trans hb7)
                  have hv7 : ∀ g, g < w2.heap.size → (Value.slice oa ON oc).ownBlock ≠ some g → (∀ i v, w2.cell? ⟨g, i, none⟩ = some v → w7.cell? ⟨g, i, none⟩ = some v) := fun g h1 h2 i v h3 => (World.cell?_of_block (a := ⟨g, i, none⟩) (hk7 g h1 h2)).trans h3
                  have n0 := hv7 T1 (by omega) HAp.out 0 _ g0
                  have n1 := hv7 T1 (by omega) HAp.out 1 _ g1
                  have n2 := hv7 T1 (by omega) HAp.out 2 _ g2
                  have n3 := hv7 T3 (by omega) (fun e => by have := (HOwl.out _ e).2; omega) 0 _ g3
                  have n4 := hv7 T3 (by omega) (fun e => by have := (HOwl.out _ e).2; omega) 1 _ g4
                  have n5 := hv7 T3 (by omega) (fun e => by have := (HOwl.out _ e).2; omega) 2 _ g5
                  obtain ⟨va7, vc7, rfl⟩ := iOwn_form hown7
                  clear hot7 hb7 hk7 hv7 hown7 hgrow7 hap7
                  refine hK.out _ _ ⟨n0, n1, n2, n3, n4, n5⟩ (fun hHeld => ?_)
                  clear hK K
                  try simp only [Act.put, List.getElem_toArray, List.getElem_cons_zero, List.getElem_cons_succ, List.setIfInBounds_toArray, List.set_cons_zero, List.set_cons_succ]
                  refine wpAnyH_take (i := 15) (oi := _) (v := ?_) rfl (by kernel_rfl) (by kernel_rfl) (by kernel_rfl) (fun _ _ _ h => h) (Or.inl ⟨by rfl, ?_⟩) (by assumption) ?_
                  rotate_left 1
                  · (intro w hSw; (try dsimp only at hSw); (first | (go_simp; done) | (go_simp; with_reducible rfl)))
                  try simp only [Act.put, List.getElem_toArray, List.getElem_cons_zero, List.getElem_cons_succ, List.setIfInBounds_toArray, List.set_cons_zero, List.set_cons_succ]
                  refine wpAnyH_done (by kernel_rfl) ?_ _
                  refine NoPanic.normal ?_
                  have HOTf : Hid (OT w7 b0 TT (.slice va7 (ON + 1) vc7) (rowsL x (ldW A l ++ (C ++ [p]).map fun y => u.app (.cons y.1 y.2 .nil))) (cs3 ++ tC x (.slice v2a (UL + 1) v2c))) := hide (by rw [List.map_append, List.map_singleton, rowsL_app]; exact HOT7.out)
                  have hT17 : T1 < w7.heap.size := by omega
                  clear m0 m1 m2 m3 m4 m5 n0 n1 n2 n3 n4 n5 g0 g1 g2 g3 g4 g5 HKt HO2 HB2 HBr2 HOt2 HOT7 HBx
                  go_wp2_with fail
                  refine ⟨⟨C ++ [p], Dd, _, HLs.out, by rw [List.length_append, List.length_singleton, ← HCN.out]; go_num, HOTf.out, HAp7.out, HBx7.out, hT17, HBk7.out⟩, by simp [intOf]; omega⟩
end Go.Proofs.Ytjmgnljjeogdlaa.W

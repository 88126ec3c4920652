/-
  The contract of boundAround. Conditions: closed terms. Written by wip/build/mk_around.py.
-/
import Derived.Test.YtdajalchdbgooaaJ16
import Derived.Test.YtdajalchdbgooaaJ01
import Derived.Test.YtdajalchdbgooaaJ04
import Derived.Deep.RegionHeld3
import Derived.Deep.RegionLaw
import Derived.Deep.AppendLies
import Derived.Deep.CutRange
namespace Go.Proofs.Ytdajalchdbgooaa.W
open Go.ChangeShapes Go.WideShapes Go.ChangeAt Go.RowKit
set_option linter.unusedVariables false
set_option linter.unusedSimpArgs false

theorem newsL {W : World} {g : Nat} {xs : List Value} {T : TypeId} (h : W.heap[g]? = some (.cells xs.toArray T (0, 0))) : ∀ j u, xs[j]? = some u → W.cell? ((⟨g, 0, none⟩ : Addr).add j) = some u := fun j u hu => by
  rw [iAdd, Nat.zero_add, cell_of_blk h, ← hu]; simp
theorem pend_cons {x : Cc} {l : List Cc} {rs s : List Nat} (h : pend (x :: l) rs = some s) : ∃ b rs' s', rs = b :: rs' ∧ s = b :: s' ∧ pend l (psh x.k b ++ rs') = some s' := by
  cases rs with
  | nil => cases h
  | cons b rs' =>
    rw [pend] at h
    obtain ⟨s', h1, h2⟩ := Option.map_eq_some_iff.1 h
    exact ⟨b, rs', s', rfl, h2.symm, h1⟩

set_option maxRecDepth 20000 in
set_option maxHeartbeats 4000000 in
theorem boundAround_any (ad : Option Addr) (c : Nat) (l : List Cc) (a : F) (w : World) (hCl : Cl l a) (h : CRow w ad l) :
    Calls Try.prog 55 #[.slice ad l.length c] w fun r w' => ∃ v, r = .returned v ∧ w'.ownsRow w.heap.size 3 1 v l.length (rcells 1 Ic ((ndT a).map (·.2.1))) ∧ Below w.heap.size w w' := by
  have HR := hide h
  have hll := hCl.le
  have HFl := hide hCl.len
  obtain ⟨FU, hFU⟩ : ∃ FU, FU = (ndT a).map (·.2.1) := ⟨_, rfl⟩
  have hPe := hCl.pend
  rw [← hFU] at hPe ⊢
  have HPe0 := hide hPe
  have HFUl : Hid (FU.length = l.length) := hide (by rw [hFU, List.length_map, hCl.len])
  obtain ⟨i0, hi0, z0, z1, z2⟩ := infoPartsT infoInt
  have HI0 := hide hi0
  clear h hCl hFU hPe hi0
  go_enter Try.func55, Try.ntmps55
  go_upto_region 4 with fail
  have hN0 := heap_alloc_new w (.cells #[.int .i64 0] 3)
  have HT0 : Hid (TwoR (w.alloc (.cells #[.int .i64 0] 3)) w.heap.size (.slice none 0 0) (.slice (some ⟨w.heap.size, 0, none⟩) 1 1) [] [0]) := hide ⟨World.ownsRow_nil _ _ _ _, ⟨rfl, .inr ⟨_, 1, _, rfl, Nat.le_refl _, hN0, Nat.le_refl _, by unfold maxLen; omega, rfl, rfl⟩⟩, fun g hg => by cases hg⟩
  have hB0 : Below w.heap.size w (w.alloc (.cells #[.int .i64 0] 3)) := (Below.refl _ _).alloc (Nat.le_refl _) _
  obtain ⟨w0, hw0⟩ : ∃ w0, w0 = w.alloc (.cells #[.int .i64 0] 3) := ⟨_, rfl⟩
  rw [← hw0] at HT0 hB0 ⊢
  clear hw0 hN0
  go_loopw [3, 4, 12] (fun so st i w' => ∃ (j : Nat) (out rs s : List Nat), j ≤ l.length ∧ i = .int .i64 (j : Int) ∧ out.length = j ∧ pend (l.drop j) rs = some s ∧ out ++ s = FU ∧ (∀ y ∈ rs, y ≤ j) ∧ rs.length ≤ 1 + 3 * j ∧ TwoR w' w.heap.size so st out rs ∧ Below w.heap.size w w') (fun _ _ i _ => l.length - (intOf i).toNat)
  case atStart => exact ⟨0, [], [0], FU, Nat.zero_le _, rfl, rfl, HPe0.out, rfl, fun y hy => by simp at hy; omega, by simp, HT0.out, hB0⟩
  case round =>
    obtain ⟨j, out, rs0, s, hj, rfl, hoj, hpe, hfu, hrl, hrn, hT, hB⟩ := hrel
    clear HT0 hB0 HPe0
    obtain ⟨oa, oc, hso⟩ := own_form hT.o
    subst hso
    by_cases hlt : j < l.length
    · have hlt' : (j : Int) < (l.length : Int) := by omega
      have hj0 : (0 : Int) ≤ (j : Int) := by omega
      have HOJ := hide hoj
      have hol6 : out.length ≤ 600 := by omega
      clear hoj
      obtain ⟨cb, co, rfl, hcl, y0, y1⟩ := CRow.tok HR.out hB hlt
      rw [List.drop_eq_getElem_cons hlt] at hpe
      obtain ⟨b, rs, s', rfl, rfl, hpe'⟩ := pend_cons hpe
      obtain ⟨x, hx⟩ : ∃ x, x = l[j] := ⟨_, rfl⟩
      rw [← hx] at y0 y1 hpe'
      obtain ⟨xk, xn⟩ := x
      simp only at y0 y1 hpe'
      have hbj : b ≤ j := hrl b (List.mem_cons_self ..)
      have HRl := hide hrl
      have HPe := hide hpe'
      have HFu : Hid (out ++ [b] ++ s' = FU) := hide (by rw [List.append_assoc]; exact hfu)
      have HPl : Hid (∀ y ∈ psh xk b ++ rs, y ≤ j + 1) := hide (fun y hy => by
        rcases List.mem_append.1 hy with h1 | h1
        · exact psh_le hbj y h1
        · have := hrl y (List.mem_cons_of_mem _ h1); omega)
      obtain ⟨sa, sc, hst⟩ := own_form hT.s
      subst hst
      obtain ⟨g, hga⟩ : ∃ g, sa = some ⟨g, 0, none⟩ := by
        rcases hT.s.2 with ⟨e, e2⟩ | ⟨g, cap, cur, e, _⟩
        · simp at e2
        · simp only [Value.slice.injEq] at e; exact ⟨g, e.1⟩
      subst hga
      have hcap := own_cap hT.s
      have hsm : sc ≤ maxLen := by
        rcases hT.s.2 with ⟨e, e2⟩ | ⟨g, cap, cur, e, -, -, -, e2, -⟩
        · simp at e2
        · simp only [Value.slice.injEq] at e; omega
      have hcell : wr.cell? ⟨g, rs.length, none⟩ = some (.int .i64 (b : Int)) := by
        obtain ⟨g', o', hgo, -, hc⟩ := RRow.at (RRow.ofOwn hT.s (by simp)) (Below.refl _ _) (i := rs.length) (by simp)
        simp only [Option.some.injEq, Addr.mk.injEq] at hgo
        obtain ⟨rfl, rfl, -⟩ := hgo
        have := hc 0 (by omega)
        simpa [Ic] using this
      have hcut : TwoR wr w.heap.size (.slice oa out.length oc) (.slice (some ⟨g, 0, none⟩) rs.length sc) out rs := TwoR.cut hT
      simp only [List.length_cons] at hcap hrn hT ⊢
      obtain ⟨n, hn⟩ : ∃ n, n = rs.length := ⟨_, rfl⟩
      obtain ⟨LS, hLS⟩ : ∃ LS, LS = rs.length + 1 := ⟨_, rfl⟩
      have hnL : n = LS - 1 := by omega
      rw [← hLS] at hcap hrn ⊢
      have hrsn : rs.length = LS - 1 := by omega
      rw [hrsn] at hcell hcut
      have b3 : (0 : Int) < (LS : Int) := by omega
      have b1 : (LS : Int) ≤ (sc : Int) := by omega
      have b2 : (sc : Int) ≤ 9223372036854775807 := by unfold maxLen at hsm; omega
      have e1 : IntKind.i64.wrap ((LS : Int) - 1) = (LS : Int) - 1 := IntWalk.i64_in _ ⟨by omega, by omega⟩
      have e2 : ((LS : Int) - 1).toNat = LS - 1 := by omega
      have b4 : (0 : Int) ≤ (LS : Int) - 1 := by omega
      have b5 : (LS : Int) - 1 ≤ (sc : Int) := by omega
      have b6 : (LS : Int) - 1 < (LS : Int) := by omega
      have hbw : IntKind.i64.wrap ((b : Int) + 1) = (b : Int) + 1 := IntWalk.i64_in _ ⟨by omega, by omega⟩
      have hsw : w.heap.size ≤ wr.heap.size := hB.size
      have HLn := hide hnL
      have HRn := hide hrsn
      have HC := hide hcut
      have hN1 := heap_alloc_new (wr.alloc (.cells #[.int .i64 xk, .int .i64 xn] 59)) (.cells #[.int .i64 (b : Int)] 3)
      simp only [World.size_alloc] at hN1
      have HN1 := hide hN1
      have HQ1 := hide ((Bx.new wr #[.int .i64 xk, .int .i64 xn] 59).alloc (.cells #[.int .i64 (b : Int)] 3))
      have M1 : Hid (out.length + 1 ≤ maxLen) := hide (by unfold maxLen; omega)
      have HO1 : Hid (∀ u ∈ [Value.int .i64 (b : Int)], u.oneCell' = true) := hide (by intro u hu; simp only [List.mem_cons, List.not_mem_nil, or_false] at hu; subst hu; rfl)
      have hce : (wr.alloc (.cells #[.int .i64 xk, .int .i64 xn] 59)).cell? ⟨g, LS - 1, none⟩ = some (.int .i64 (b : Int)) := by rw [World.cell?_alloc_some _ _ _ (by rw [hcell]; rfl)]; exact hcell
      clear hrl hpe hpe' hfu hT hcut hx hn hLS hnL hrsn hN1 hcap hsm hcell
      go_wp2_with (at_builtin; refine wpList_append_sep rfl _ _ 90 rfl w.heap.size 3 i0 _ 1 8 Try.underlying90 HI0.out z0 z1 z2 rfl (by decide) _ out.length _ rfl ((HC.out.o.alloc _).alloc _) ⟨wr.heap.size + 1, 0, none⟩ 1 1 [.int .i64 (b : Int)] rfl rfl (newsL HN1.out) HO1.out M1.out (by omega) (by simp; omega) ?_)
      intro s3 w3 ho3 hg3 hap3
      have hB3 : Below w.heap.size w w3 := Below.grown ((hB.alloc hB.size _).alloc (by simp; have := hB.size; omega) _) hg3 (by simp; have := hB.size; omega) (fun k hk => (HC.out.o.lt k hk).1)
      have HS3' : Hid (TwoR w3 w.heap.size s3 (.slice (some ⟨g, 0, none⟩) (LS - 1) sc) (out ++ [b]) rs) := hide (((HC.out.alloc _).alloc _).out' (by
        have e9 : (out ++ [b]).length = out.length + 1 := by simp
        rw [e9, rcells_app]
        exact ho3) hg3 hap3)
      have hcc : Bx w3 wr.heap.size #[.int .i64 xk, .int .i64 xn] 59 := (hg3.block _ (by simp; omega) (fun e' => own_bx HQ1.out ((HC.out.o.alloc _).alloc _) (by decide) e'.symm)).trans HQ1.out
      have cc := hcc.c
      have hsw3 : w.heap.size ≤ w3.heap.size := hB3.size
      obtain ⟨a3, c3, hs3⟩ := own_form ho3
      have HS3 : Hid (TwoR w3 w.heap.size s3 (.slice (some ⟨g, 0, none⟩) (LS - 1) sc) (out ++ [b]) rs) := HS3'
      subst hs3
      clear ho3 hg3 hap3 hce HC HQ1 HN1 hcc HS3' y0 y1
      by_cases h3 : xk = 3
      · subst h3
        have HPs : Hid (psh 3 b = [b + 1]) := hide (by simp [psh, ar, binds, List.range_succ])
        have hN5 := heap_alloc_new w3 (.cells #[.int .i64 ((b : Int) + 1)] 3)
        have HN5 := hide hN5
        have M5 : Hid (rs.length + 1 ≤ maxLen) := hide (by have := HRn.out; unfold maxLen; omega)
        have M6 : Hid ((rs.length + 1) * 8 ≤ 140737488355328) := hide (by have := HRn.out; omega)
        have HO5 : Hid (∀ u ∈ ([.int .i64 ((b : Int) + 1)] : List Value), u.oneCell' = true) := hide (by intro u hu; simp only [List.mem_cons, List.not_mem_nil, or_false] at hu; subst hu; rfl)
        clear hN5
        go_wp2_with (at_builtin; refine wpList_append_sep rfl _ _ 90 rfl w.heap.size 3 i0 _ 1 8 Try.underlying90 HI0.out z0 z1 z2 rfl (by decide) _ rs.length _ rfl (HS3.out.s.alloc _) ⟨w3.heap.size, 0, none⟩ 1 1 [.int .i64 ((b : Int) + 1)] rfl rfl (newsL HN5.out) HO5.out M5.out M6.out (by simp; omega) ?_)
        intro s5 w5 ho5 hg5 hap5
        have hB5 : Below w.heap.size w w5 := Below.grown (hB3.alloc hB3.size _) hg5 (by simp; have := hB3.size; omega) (fun k hk => (HS3.out.s.lt k hk).1)
        have HT5 : Hid (TwoR w5 w.heap.size (.slice a3 (out.length + 1) c3) s5 (out ++ [b]) ([b + 1] ++ rs)) := hide ((HS3.out.alloc _).stk (by
          have e9 : ([b + 1] ++ rs).length = rs.length + 1 := by simp only [List.length_append, List.length_cons, List.length_nil]; omega
          rw [e9]
          have e8 : rcells 1 Ic ([b + 1] ++ rs).reverse = rcells 1 Ic rs.reverse ++ [.int .i64 ((b : Int) + 1)] := by rw [List.reverse_append, rcells_app]; simp [rcells, Ic]
          rw [e8]
          exact ho5) hg5 hap5)
        obtain ⟨a5, c5, hs5⟩ := own_form ho5
        subst hs5
        clear ho5 hg5 hap5 cc
        go_wp2_with fail
        refine ⟨⟨j + 1, out ++ [b], [b + 1] ++ rs, s', by omega, by go_num, by simp [HOJ.out], ?_, HFu.out, ?_, ?_, HT5.out, hB5⟩, by simp [intOf]; omega⟩
        · have := HPe.out; rw [HPs.out] at this; exact this
        · have := HPl.out; rw [HPs.out] at this; exact this
        · have := HRn.out; simp only [List.length_append, List.length_cons, List.length_nil]; omega
      · by_cases h45 : xk = 4 ∨ xk = 5
        · rcases h45 with h4 | h5
          · subst h4
            have HPs : Hid (psh 4 b = [b, b]) := hide (by simp [psh, ar, binds, List.range_succ])
            have hN5 := heap_alloc_new w3 (.cells #[.int .i64 (b : Int), .int .i64 (b : Int)] 3)
            have HN5 := hide hN5
            have M5 : Hid (rs.length + 2 ≤ maxLen) := hide (by have := HRn.out; unfold maxLen; omega)
            have M6 : Hid ((rs.length + 2) * 8 ≤ 140737488355328) := hide (by have := HRn.out; omega)
            have HO5 : Hid (∀ u ∈ ([.int .i64 (b : Int), .int .i64 (b : Int)] : List Value), u.oneCell' = true) := hide (by intro u hu; simp only [List.mem_cons, List.not_mem_nil, or_false] at hu; rcases hu with rfl | rfl <;> rfl)
            clear hN5
            go_wp2_with (at_builtin; refine wpList_append_sep rfl _ _ 90 rfl w.heap.size 3 i0 _ 1 8 Try.underlying90 HI0.out z0 z1 z2 rfl (by decide) _ rs.length _ rfl (HS3.out.s.alloc _) ⟨w3.heap.size, 0, none⟩ 2 2 [.int .i64 (b : Int), .int .i64 (b : Int)] rfl rfl (newsL HN5.out) HO5.out M5.out M6.out (by simp; omega) ?_)
            intro s5 w5 ho5 hg5 hap5
            have hB5 : Below w.heap.size w w5 := Below.grown (hB3.alloc hB3.size _) hg5 (by simp; have := hB3.size; omega) (fun k hk => (HS3.out.s.lt k hk).1)
            have HT5 : Hid (TwoR w5 w.heap.size (.slice a3 (out.length + 1) c3) s5 (out ++ [b]) ([b, b] ++ rs)) := hide ((HS3.out.alloc _).stk (by
              have e9 : ([b, b] ++ rs).length = rs.length + 2 := by simp only [List.length_append, List.length_cons, List.length_nil]; omega
              rw [e9]
              have e8 : rcells 1 Ic ([b, b] ++ rs).reverse = rcells 1 Ic rs.reverse ++ [.int .i64 (b : Int), .int .i64 (b : Int)] := by rw [List.reverse_append, rcells_app]; simp [rcells, Ic]
              rw [e8]
              exact ho5) hg5 hap5)
            obtain ⟨a5, c5, hs5⟩ := own_form ho5
            subst hs5
            clear ho5 hg5 hap5 cc
            go_wp2_with fail
            refine ⟨⟨j + 1, out ++ [b], [b, b] ++ rs, s', by omega, by go_num, by simp [HOJ.out], ?_, HFu.out, ?_, ?_, HT5.out, hB5⟩, by simp [intOf]; omega⟩
            · have := HPe.out; rw [HPs.out] at this; exact this
            · have := HPl.out; rw [HPs.out] at this; exact this
            · have := HRn.out; simp only [List.length_append, List.length_cons, List.length_nil]; omega
          · subst h5
            have HPs : Hid (psh 5 b = [b, b]) := hide (by simp [psh, ar, binds, List.range_succ])
            have hN5 := heap_alloc_new w3 (.cells #[.int .i64 (b : Int), .int .i64 (b : Int)] 3)
            have HN5 := hide hN5
            have M5 : Hid (rs.length + 2 ≤ maxLen) := hide (by have := HRn.out; unfold maxLen; omega)
            have M6 : Hid ((rs.length + 2) * 8 ≤ 140737488355328) := hide (by have := HRn.out; omega)
            have HO5 : Hid (∀ u ∈ ([.int .i64 (b : Int), .int .i64 (b : Int)] : List Value), u.oneCell' = true) := hide (by intro u hu; simp only [List.mem_cons, List.not_mem_nil, or_false] at hu; rcases hu with rfl | rfl <;> rfl)
            clear hN5
            go_wp2_with (at_builtin; refine wpList_append_sep rfl _ _ 90 rfl w.heap.size 3 i0 _ 1 8 Try.underlying90 HI0.out z0 z1 z2 rfl (by decide) _ rs.length _ rfl (HS3.out.s.alloc _) ⟨w3.heap.size, 0, none⟩ 2 2 [.int .i64 (b : Int), .int .i64 (b : Int)] rfl rfl (newsL HN5.out) HO5.out M5.out M6.out (by simp; omega) ?_)
            intro s5 w5 ho5 hg5 hap5
            have hB5 : Below w.heap.size w w5 := Below.grown (hB3.alloc hB3.size _) hg5 (by simp; have := hB3.size; omega) (fun k hk => (HS3.out.s.lt k hk).1)
            have HT5 : Hid (TwoR w5 w.heap.size (.slice a3 (out.length + 1) c3) s5 (out ++ [b]) ([b, b] ++ rs)) := hide ((HS3.out.alloc _).stk (by
              have e9 : ([b, b] ++ rs).length = rs.length + 2 := by simp only [List.length_append, List.length_cons, List.length_nil]; omega
              rw [e9]
              have e8 : rcells 1 Ic ([b, b] ++ rs).reverse = rcells 1 Ic rs.reverse ++ [.int .i64 (b : Int), .int .i64 (b : Int)] := by rw [List.reverse_append, rcells_app]; simp [rcells, Ic]
              rw [e8]
              exact ho5) hg5 hap5)
            obtain ⟨a5, c5, hs5⟩ := own_form ho5
            subst hs5
            clear ho5 hg5 hap5 cc
            go_wp2_with fail
            refine ⟨⟨j + 1, out ++ [b], [b, b] ++ rs, s', by omega, by go_num, by simp [HOJ.out], ?_, HFu.out, ?_, ?_, HT5.out, hB5⟩, by simp [intOf]; omega⟩
            · have := HPe.out; rw [HPs.out] at this; exact this
            · have := HPl.out; rw [HPs.out] at this; exact this
            · have := HRn.out; simp only [List.length_append, List.length_cons, List.length_nil]; omega
        · by_cases h7 : xk = 7
          · subst h7
            have HPs : Hid (psh 7 b = [b, b + 1]) := hide (by simp [psh, ar, binds, List.range_succ])
            have hN5 := heap_alloc_new w3 (.cells #[.int .i64 ((b : Int) + 1), .int .i64 (b : Int)] 3)
            have HN5 := hide hN5
            have M5 : Hid (rs.length + 2 ≤ maxLen) := hide (by have := HRn.out; unfold maxLen; omega)
            have M6 : Hid ((rs.length + 2) * 8 ≤ 140737488355328) := hide (by have := HRn.out; omega)
            have HO5 : Hid (∀ u ∈ ([.int .i64 ((b : Int) + 1), .int .i64 (b : Int)] : List Value), u.oneCell' = true) := hide (by intro u hu; simp only [List.mem_cons, List.not_mem_nil, or_false] at hu; rcases hu with rfl | rfl <;> rfl)
            clear hN5
            go_wp2_with (at_builtin; refine wpList_append_sep rfl _ _ 90 rfl w.heap.size 3 i0 _ 1 8 Try.underlying90 HI0.out z0 z1 z2 rfl (by decide) _ rs.length _ rfl (HS3.out.s.alloc _) ⟨w3.heap.size, 0, none⟩ 2 2 [.int .i64 ((b : Int) + 1), .int .i64 (b : Int)] rfl rfl (newsL HN5.out) HO5.out M5.out M6.out (by simp; omega) ?_)
            intro s5 w5 ho5 hg5 hap5
            have hB5 : Below w.heap.size w w5 := Below.grown (hB3.alloc hB3.size _) hg5 (by simp; have := hB3.size; omega) (fun k hk => (HS3.out.s.lt k hk).1)
            have HT5 : Hid (TwoR w5 w.heap.size (.slice a3 (out.length + 1) c3) s5 (out ++ [b]) ([b, b + 1] ++ rs)) := hide ((HS3.out.alloc _).stk (by
              have e9 : ([b, b + 1] ++ rs).length = rs.length + 2 := by simp only [List.length_append, List.length_cons, List.length_nil]; omega
              rw [e9]
              have e8 : rcells 1 Ic ([b, b + 1] ++ rs).reverse = rcells 1 Ic rs.reverse ++ [.int .i64 ((b : Int) + 1), .int .i64 (b : Int)] := by rw [List.reverse_append, rcells_app]; simp [rcells, Ic]
              rw [e8]
              exact ho5) hg5 hap5)
            obtain ⟨a5, c5, hs5⟩ := own_form ho5
            subst hs5
            clear ho5 hg5 hap5 cc
            go_wp2_with fail
            refine ⟨⟨j + 1, out ++ [b], [b, b + 1] ++ rs, s', by omega, by go_num, by simp [HOJ.out], ?_, HFu.out, ?_, ?_, HT5.out, hB5⟩, by simp [intOf]; omega⟩
            · have := HPe.out; rw [HPs.out] at this; exact this
            · have := HPl.out; rw [HPs.out] at this; exact this
            · have := HRn.out; simp only [List.length_append, List.length_cons, List.length_nil]; omega
          · by_cases h6 : xk = 6
            · subst h6
              have HPs : Hid (psh 6 b = [b, b, b]) := hide (by simp [psh, ar, binds, List.range_succ])
              have hN5 := heap_alloc_new w3 (.cells #[.int .i64 (b : Int), .int .i64 (b : Int), .int .i64 (b : Int)] 3)
              have HN5 := hide hN5
              have M5 : Hid (rs.length + 3 ≤ maxLen) := hide (by have := HRn.out; unfold maxLen; omega)
              have M6 : Hid ((rs.length + 3) * 8 ≤ 140737488355328) := hide (by have := HRn.out; omega)
              have HO5 : Hid (∀ u ∈ ([.int .i64 (b : Int), .int .i64 (b : Int), .int .i64 (b : Int)] : List Value), u.oneCell' = true) := hide (by intro u hu; simp only [List.mem_cons, List.not_mem_nil, or_false] at hu; rcases hu with rfl | rfl | rfl <;> rfl)
              clear hN5
              go_wp2_with (at_builtin; refine wpList_append_sep rfl _ _ 90 rfl w.heap.size 3 i0 _ 1 8 Try.underlying90 HI0.out z0 z1 z2 rfl (by decide) _ rs.length _ rfl (HS3.out.s.alloc _) ⟨w3.heap.size, 0, none⟩ 3 3 [.int .i64 (b : Int), .int .i64 (b : Int), .int .i64 (b : Int)] rfl rfl (newsL HN5.out) HO5.out M5.out M6.out (by simp; omega) ?_)
              intro s5 w5 ho5 hg5 hap5
              have hB5 : Below w.heap.size w w5 := Below.grown (hB3.alloc hB3.size _) hg5 (by simp; have := hB3.size; omega) (fun k hk => (HS3.out.s.lt k hk).1)
              have HT5 : Hid (TwoR w5 w.heap.size (.slice a3 (out.length + 1) c3) s5 (out ++ [b]) ([b, b, b] ++ rs)) := hide ((HS3.out.alloc _).stk (by
                have e9 : ([b, b, b] ++ rs).length = rs.length + 3 := by simp only [List.length_append, List.length_cons, List.length_nil]; omega
                rw [e9]
                have e8 : rcells 1 Ic ([b, b, b] ++ rs).reverse = rcells 1 Ic rs.reverse ++ [.int .i64 (b : Int), .int .i64 (b : Int), .int .i64 (b : Int)] := by rw [List.reverse_append, rcells_app]; simp [rcells, Ic]
                rw [e8]
                exact ho5) hg5 hap5)
              obtain ⟨a5, c5, hs5⟩ := own_form ho5
              subst hs5
              clear ho5 hg5 hap5 cc
              go_wp2_with fail
              refine ⟨⟨j + 1, out ++ [b], [b, b, b] ++ rs, s', by omega, by go_num, by simp [HOJ.out], ?_, HFu.out, ?_, ?_, HT5.out, hB5⟩, by simp [intOf]; omega⟩
              · have := HPe.out; rw [HPs.out] at this; exact this
              · have := HPl.out; rw [HPs.out] at this; exact this
              · have := HRn.out; simp only [List.length_append, List.length_cons, List.length_nil]; omega
            · have h4 : ¬ xk = 4 := fun e => h45 (.inl e)
              have h5 : ¬ xk = 5 := fun e => h45 (.inr e)
              have HPs : Hid (psh xk b = []) := hide (by unfold psh ar; rw [if_neg h3, if_neg (by omega), if_neg h6]; rfl)
              go_wp2_with fail
              refine ⟨⟨j + 1, out ++ [b], rs, s', by omega, by go_num, by simp [HOJ.out], ?_, HFu.out, ?_, by have := HRn.out; omega, ?_, hB3⟩, by simp [intOf]; omega⟩
              · have := HPe.out; rw [HPs.out, List.nil_append] at this; exact this
              · intro y hy; have := HRl.out y (List.mem_cons_of_mem _ hy); omega
              · exact HS3.out
    · have hjl : j = l.length := by omega
      have hlt' : ¬ (j : Int) < (l.length : Int) := by omega
      have hs0 : s = [] := by
        have := congrArg List.length hfu
        rw [List.length_append, HFUl.out] at this
        exact List.eq_nil_of_length_eq_zero (by omega)
      subst hs0
      rw [List.append_nil] at hfu
      have HO := hide hT.o
      have HOJ := hide hoj
      have HJL := hide hjl
      have HFU := hide hfu
      clear hpe hrl hT hoj hjl hfu
      go_wp2_with fail
      go_ret
      refine ⟨_, rfl, ?_, hB⟩
      have hol : out.length = l.length := by rw [HOJ.out, HJL.out]
      have := HO.out
      rw [← hol, ← HFU.out]
      exact this
end Go.Proofs.Ytdajalchdbgooaa.W

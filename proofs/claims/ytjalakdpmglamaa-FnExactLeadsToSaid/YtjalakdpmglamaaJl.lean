/-
  Some texts of this proof in one: TeKb, TeI.
-/
import Derived.Test.YtjalakdpmglamaaJf
/-
  Rows of cells made anew out of others: contracts of slices.Grow, slices.Clone and slices.Concat at cells. Conditions: at most 1048576 cells.
-/
namespace Go.Proofs.Ytjalakdpmglamaa.W
open Go.ChangeShapes Go.WideShapes Go.ChangeAt Go.RowKit
set_option linter.unusedVariables false

theorem belowDrwK {B : Nat} {x y : World} (h : Below B x y) : Below B x y.drew := ⟨h.os, h.tape, h.output, h.size, h.block⟩
theorem mkAll (n : Nat) (hn : n ≤ 1048576) (w : World) :
    (Instr.makeSlice 26 (.int .i64 (n : Int)) (.int .i64 (n : Int))).run Try.prog w = .ok (.slice (some ⟨w.heap.size, 0, none⟩) n n) (w.alloc (.cells (madeCells #[.int .i64 0, .int .i64 0] (n * 2)) 39)) := mk_cells n hn w

set_option maxRecDepth 20000 in
set_option maxHeartbeats 2000000 in
theorem growC_any (n : Nat) (h0 : 0 < n) (hn : n ≤ 1048576) (w : World) :
    Calls Try.prog 42 #[.slice none 0 0, .int .i64 (n : Int)] w fun e w' => ∃ g cap, e = .returned (.slice (some ⟨g, 0, none⟩) 0 cap) ∧ w'.ownsRow w.heap.size 39 2 (.slice (some ⟨g, 0, none⟩) 0 cap) 0 [] ∧ Below w.heap.size w w' := by
  have hby : Try.t39.bytes = 16 := by kernel_rfl
  have h48 : ¬ 281474976710656 < Builtin.nextslicecap n 0 * Try.t39.bytes := by rw [nextslicecap_zero h0, hby]; omega
  have h49 : (n : Int) * (Try.t39.bytes : Int) ≤ 281474976710656 := by rw [hby]; omega
  have hni : (0 : Int) < (n : Int) := by omega
  have hn0 : ¬ n = 0 := by omega
  have hn63 : (n : Int) ≤ 9223372036854775807 := by omega
  have hge : n ≤ grownCap w n 0 39 := grownCap_ge _ _ _ _
  have hle : grownCap w n 0 39 ≤ maxLen := grownCap_le_maxLen w n 0 _ (by unfold maxLen; omega)
  have HGe := hide hge
  have HLe := hide hle
  clear hby hge hle
  go_enter Try.func42, Try.ntmps42
  go_wp2_with fail
  have hge := HGe.out
  have hle := HLe.out
  unfold grownCap at hge hle
  go_ret
  exact ⟨_, _, rfl, ⟨rfl, .inr ⟨w.heap.size, _, _, rfl, Nat.le_refl _, heap_alloc_new w _, by omega, hle, by simp [size_zeroCells]; omega, by simp⟩⟩, belowDrwK ((Below.refl _ _).alloc (Nat.le_refl _) _)⟩

theorem cv_at : ∀ (l : List Cc) (j : Nat) (u : Value), (cv l)[j]? = some u → ∃ i, ∃ h : i < l.length, (j = i * 2 ∧ u = .int .i64 l[i].k) ∨ (j = i * 2 + 1 ∧ u = .int .i64 l[i].n)
  | [], j, u, h => by simp [cv] at h
  | x :: l, 0, u, h => ⟨0, by simp, .inl ⟨rfl, by simpa [cv] using h.symm⟩⟩
  | x :: l, 1, u, h => ⟨0, by simp, .inr ⟨rfl, by simpa [cv] using h.symm⟩⟩
  | x :: l, j + 2, u, h => by
    obtain ⟨i, hi, h1 | h1⟩ := cv_at l j u (by simpa [cv] using h)
    · exact ⟨i + 1, by simp; omega, .inl ⟨by omega, by simpa using h1.2⟩⟩
    · exact ⟨i + 1, by simp; omega, .inr ⟨by omega, by simpa using h1.2⟩⟩
theorem cv_one : ∀ (l : List Cc), ∀ u ∈ cv l, u.oneCell' = true
  | [], u, h => by simp [cv] at h
  | x :: l, u, h => by
    simp only [cv, List.mem_cons] at h
    rcases h with rfl | rfl | h
    · rfl
    · rfl
    · exact cv_one l u h
theorem CRow.news {w : World} {b o : Nat} {l : List Cc} (h : CRow w (some ⟨b, o, none⟩) l) : ∀ j u, (cv l)[j]? = some u → w.cell? ((⟨b, o, none⟩ : Addr).add j) = some u := by
  intro j u hu
  obtain ⟨i, hi, hc⟩ := cv_at l j u hu
  obtain ⟨b', o', he, -, p0, p1⟩ := h.tok (Below.refl _ _) hi
  simp only [Option.some.injEq, Addr.mk.injEq] at he
  obtain ⟨rfl, rfl, -⟩ := he
  rw [iAdd]
  rcases hc with ⟨rfl, rfl⟩ | ⟨rfl, rfl⟩
  · exact p0
  · rw [← Nat.add_assoc]; exact p1

set_option maxRecDepth 20000 in
set_option maxHeartbeats 2000000 in
theorem cloneC_any (b o c : Nat) (l : List Cc) (w : World) (hl : l.length ≤ 1048576) (h : CRow w (some ⟨b, o, none⟩) l) :
    Calls Try.prog 45 #[.slice (some ⟨b, o, none⟩) l.length c] w fun e w' => ∃ v, e = .returned v ∧ w'.ownsRow w.heap.size 39 2 v l.length (cv l) ∧ Below w.heap.size w w' := by
  obtain ⟨i0, hi0, hz0, hz1, hz2⟩ := infoPartsT infoCe
  have Hi := hide hi0
  have HR := hide h
  clear hi0 h
  go_enter Try.func45, Try.ntmps45
  have hnil : ∀ w, (binOp .eql 26 (.slice (some ⟨b, o, none⟩) l.length c) (.slice none 0 0)).run Try.prog w = .ok (.bool false) w := fun w => by rw [Lib.run_eql_slice_nil w 26 39 _ _ _ _ _ Try.underlying26]; rfl
  have HO0 : Hid ((w.alloc (.cells #[] 39)).ownsRow w.heap.size 39 2 (.slice (some ⟨w.heap.size, 0, none⟩) 0 0) 0 []) := hide ⟨rfl, .inr ⟨w.heap.size, 0, #[], rfl, Nat.le_refl _, heap_alloc_new w _, Nat.le_refl _, by omega, rfl, rfl⟩⟩
  have HNw := hide (HR.out.below ((Below.refl _ _).alloc (Nat.le_refl _) (.cells #[] 39))).news
  have M1 : Hid (0 + l.length ≤ maxLen) := hide (by unfold maxLen; omega)
  have HCl := hide (cv_len l)
  have hbB : w.heap.size ≤ (w.alloc (.cells #[] 39)).heap.size := by simp
  go_wp2_with (at_builtin; refine wpList_append_own _ rfl _ _ 26 rfl w.heap.size 39 i0 (.agg #[.int .i64 0, .int .i64 0]) 2 16 Try.underlying26 Hi.out hz0 hz1 hz2 rfl (by decide) _ 0 [] rfl HO0.out ⟨b, o, none⟩ l.length c (cv l) rfl HCl.out HNw.out (cv_one l) M1.out (by omega) hbB ?_)
  intro v1 w1 hown1 hgrow1 _
  obtain ⟨ad1, c1', rfl⟩ := iOwn_form hown1
  have hB1 : Below w.heap.size w w1 := ((Below.refl _ _).alloc (Nat.le_refl _) _).grown hgrow1 hbB (fun k hk => by simp only [Value.ownBlock, Option.some.injEq] at hk; omega)
  have HO1 := hide hown1
  clear hown1 hgrow1
  go_wp2_with fail
  go_ret
  exact ⟨_, rfl, HO1.out, hB1⟩

set_option maxRecDepth 20000 in
set_option maxHeartbeats 2000000 in
theorem concatC_any (g b1 o1 c1 b2 o2 c2 b3 o3 c3 : Nat) (l1 l2 l3 : List Cc) (w : World) (h0 : 0 < l1.length + l2.length + l3.length) (hl : l1.length + l2.length + l3.length ≤ 1048576) (hg : g < w.heap.size)
    (q1 : w.cell? ⟨g, 0, none⟩ = some (.slice (some ⟨b1, o1, none⟩) l1.length c1)) (q2 : w.cell? ⟨g, 1, none⟩ = some (.slice (some ⟨b2, o2, none⟩) l2.length c2)) (q3 : w.cell? ⟨g, 2, none⟩ = some (.slice (some ⟨b3, o3, none⟩) l3.length c3))
    (h1 : CRow w (some ⟨b1, o1, none⟩) l1) (h2 : CRow w (some ⟨b2, o2, none⟩) l2) (h3 : CRow w (some ⟨b3, o3, none⟩) l3) :
    Calls Try.prog 35 #[.slice (some ⟨g, 0, none⟩) 3 3] w fun e w' => ∃ v, e = .returned v ∧ w'.ownsRow w.heap.size 39 2 v (l1.length + l2.length + l3.length) (cv (l1 ++ l2 ++ l3)) ∧ Below w.heap.size w w' := by
  obtain ⟨i0, hi0, hz0, hz1, hz2⟩ := infoPartsT infoCe
  have Hi := hide hi0
  have H1 := hide h1
  have H2 := hide h2
  have H3 := hide h3
  clear hi0 h1 h2 h3
  go_enter Try.func35, Try.ntmps35
  go_wp2_with fail
  obtain ⟨n1, hn1⟩ : ∃ n1, n1 = l1.length := ⟨_, rfl⟩
  obtain ⟨n2, hn2⟩ : ∃ n2, n2 = l2.length := ⟨_, rfl⟩
  obtain ⟨n3, hn3⟩ : ∃ n3, n3 = l3.length := ⟨_, rfl⟩
  rw [← hn1] at q1
  rw [← hn2] at q2
  rw [← hn3] at q3
  rw [← hn1, ← hn2, ← hn3] at h0 hl
  have HN1 := hide hn1
  have HN2 := hide hn2
  have HN3 := hide hn3
  clear hn1 hn2 hn3
  go_loopw [3, 11] (fun s i w' => w' = w ∧ ((i = .int .i64 0 ∧ s = .int .i64 0) ∨ (i = .int .i64 1 ∧ s = .int .i64 (n1 : Int)) ∨ (i = .int .i64 2 ∧ s = .int .i64 ((n1 : Int) + (n2 : Int))) ∨ (i = .int .i64 3 ∧ s = .int .i64 ((n1 : Int) + (n2 : Int) + (n3 : Int))))) (fun _ i _ => 3 - (intOf i).toNat)
  case atStart => exact ⟨rfl, .inl ⟨rfl, rfl⟩⟩
  case round =>
    obtain ⟨rfl, ⟨rfl, rfl⟩ | ⟨rfl, rfl⟩ | ⟨rfl, rfl⟩ | ⟨rfl, rfl⟩⟩ := hrel
    · go_wp2_with fail
      exact ⟨⟨trivial, .inr (.inl ⟨rfl, rfl⟩)⟩, by decide⟩
    · go_wp2_with fail
      exact ⟨⟨trivial, .inr (.inr (.inl ⟨rfl, rfl⟩))⟩, by decide⟩
    · go_wp2_with fail
      exact ⟨⟨trivial, .inr (.inr (.inr ⟨rfl, rfl⟩))⟩, by decide⟩
    · go_wp2_with fail
      obtain ⟨N, hN⟩ : ∃ N, N = n1 + n2 + n3 := ⟨_, rfl⟩
      have hsum : (n1 : Int) + (n2 : Int) + (n3 : Int) = (N : Int) := by omega
      rw [hsum]
      clear hsum
      refine (growC_any N (by omega) (by omega) _).mono ?_
      have HN := hide hN
      clear hN
      rintro e w1 ⟨g1, k1, rfl, ho1, hb1⟩
      have HO1 := hide ho1
      clear ho1
      obtain ⟨W0, hW0⟩ : ∃ W0, W0 = wr := ⟨_, rfl⟩
      subst hW0
      go_wp2_with fail
      go_loopw [6, 27] (fun v i w' => Below W0.heap.size W0 w' ∧ ((i = .int .i64 0 ∧ w'.ownsRow W0.heap.size 39 2 v 0 []) ∨ (i = .int .i64 1 ∧ w'.ownsRow W0.heap.size 39 2 v n1 (cv l1)) ∨ (i = .int .i64 2 ∧ w'.ownsRow W0.heap.size 39 2 v (n1 + n2) (cv l1 ++ cv l2)) ∨ (i = .int .i64 3 ∧ w'.ownsRow W0.heap.size 39 2 v (n1 + n2 + n3) (cv l1 ++ (cv l2 ++ cv l3))))) (fun _ i _ => 3 - (intOf i).toNat)
      case atStart => exact ⟨hb1, .inl ⟨rfl, HO1.out⟩⟩
      case round =>
        clear HO1 hb1
        obtain ⟨hBr, ⟨rfl, ho⟩ | ⟨rfl, ho⟩ | ⟨rfl, ho⟩ | ⟨rfl, ho⟩⟩ := hrel
        · obtain ⟨va, vc, rfl⟩ := iOwn_form ho
          have HO := hide ho
          have s1 := (hBr.cell (p := ⟨g, 0, none⟩) hg).trans q1
          have HNw := hide (H1.out.below hBr).news
          have HCl := hide (cv_len l1)
          have M1 : Hid (0 + n1 ≤ maxLen) := hide (by unfold maxLen; omega)
          have hlo : W0.heap.size ≤ wr.heap.size := hBr.size
          have hne := HN1.out
          rw [← hne] at HCl
          have hob : ∀ k, (Value.slice va (0) vc).ownBlock = some k → W0.heap.size ≤ k := fun k hk => (HO.out.lt k hk).1
          have HOb := hide hob
          clear ho hne hob
          go_wp2_with (at_builtin; refine wpList_append_own _ rfl _ _ 26 rfl W0.heap.size 39 i0 (.agg #[.int .i64 0, .int .i64 0]) 2 16 Try.underlying26 Hi.out hz0 hz1 hz2 rfl (by decide) _ (0) ([]) rfl HO.out ⟨b1, o1, none⟩ n1 c1 (cv l1) rfl HCl.out HNw.out (cv_one _) M1.out (by omega) hlo ?_)
          intro v2 w2 hown2 hgrow2 _
          have hB2 : Below W0.heap.size W0 w2 := hBr.grown hgrow2 hlo (fun k hk => HOb.out k hk)
          have HO2 := hide hown2
          obtain ⟨va2, vc2, rfl⟩ := iOwn_form hown2
          clear hown2 hgrow2 HOb
          go_wp2_with fail
          exact ⟨⟨hB2, .inr (.inl ⟨rfl, HO2.out⟩)⟩, by decide⟩
        · obtain ⟨va, vc, rfl⟩ := iOwn_form ho
          have HO := hide ho
          have s1 := (hBr.cell (p := ⟨g, 1, none⟩) hg).trans q2
          have HNw := hide (H2.out.below hBr).news
          have HCl := hide (cv_len l2)
          have M1 : Hid (n1 + n2 ≤ maxLen) := hide (by unfold maxLen; omega)
          have hlo : W0.heap.size ≤ wr.heap.size := hBr.size
          have hne := HN2.out
          rw [← hne] at HCl
          have hob : ∀ k, (Value.slice va (n1) vc).ownBlock = some k → W0.heap.size ≤ k := fun k hk => (HO.out.lt k hk).1
          have HOb := hide hob
          clear ho hne hob
          go_wp2_with (at_builtin; refine wpList_append_own _ rfl _ _ 26 rfl W0.heap.size 39 i0 (.agg #[.int .i64 0, .int .i64 0]) 2 16 Try.underlying26 Hi.out hz0 hz1 hz2 rfl (by decide) _ n1 (cv l1) rfl HO.out ⟨b2, o2, none⟩ n2 c2 (cv l2) rfl HCl.out HNw.out (cv_one _) M1.out (by omega) hlo ?_)
          intro v2 w2 hown2 hgrow2 _
          have hB2 : Below W0.heap.size W0 w2 := hBr.grown hgrow2 hlo (fun k hk => HOb.out k hk)
          have HO2 := hide hown2
          obtain ⟨va2, vc2, rfl⟩ := iOwn_form hown2
          clear hown2 hgrow2 HOb
          go_wp2_with fail
          exact ⟨⟨hB2, .inr (.inr (.inl ⟨rfl, HO2.out⟩))⟩, by decide⟩
        · obtain ⟨va, vc, rfl⟩ := iOwn_form ho
          have HO := hide ho
          have s1 := (hBr.cell (p := ⟨g, 2, none⟩) hg).trans q3
          have HNw := hide (H3.out.below hBr).news
          have HCl := hide (cv_len l3)
          have M1 : Hid (n1 + n2 + n3 ≤ maxLen) := hide (by unfold maxLen; omega)
          have hlo : W0.heap.size ≤ wr.heap.size := hBr.size
          have hne := HN3.out
          rw [← hne] at HCl
          have hob : ∀ k, (Value.slice va (n1 + n2) vc).ownBlock = some k → W0.heap.size ≤ k := fun k hk => (HO.out.lt k hk).1
          have HOb := hide hob
          clear ho hne hob
          go_wp2_with (at_builtin; refine wpList_append_own _ rfl _ _ 26 rfl W0.heap.size 39 i0 (.agg #[.int .i64 0, .int .i64 0]) 2 16 Try.underlying26 Hi.out hz0 hz1 hz2 rfl (by decide) _ (n1 + n2) (cv l1 ++ cv l2) rfl HO.out ⟨b3, o3, none⟩ n3 c3 (cv l3) rfl HCl.out HNw.out (cv_one _) M1.out (by omega) hlo ?_)
          intro v2 w2 hown2 hgrow2 _
          have hB2 : Below W0.heap.size W0 w2 := hBr.grown hgrow2 hlo (fun k hk => HOb.out k hk)
          have HO2 := hide hown2
          obtain ⟨va2, vc2, rfl⟩ := iOwn_form hown2
          clear hown2 hgrow2 HOb
          go_wp2_with fail
          exact ⟨⟨hB2, .inr (.inr (.inr ⟨rfl, HO2.out⟩))⟩, by decide⟩
        · obtain ⟨va, vc, rfl⟩ := iOwn_form ho
          have HO := hide ho
          clear ho
          go_wp2_with fail
          go_ret
          refine ⟨_, rfl, ?_, hBr⟩
          have h := HO.out
          rw [← cv_app, ← cv_app, ← List.append_assoc] at h
          rw [← HN1.out, ← HN2.out, ← HN3.out]
          exact h
end Go.Proofs.Ytjalakdpmglamaa.W

/-
  The variables that are bound nowhere, by the program: contracts of FreeIn's closure and of FreeIn. Conditions: at most 1048576 cells.
-/
namespace Go.Proofs.Ytjalakdpmglamaa.W
open Go.ChangeShapes Go.WideShapes Go.ChangeAt Go.RowKit
set_option linter.unusedVariables false

theorem iOwn_lower {w : World} {base base' n size : Nat} {e : TypeId} {v : Value} {xs : List Value} (h : w.ownsRow base e size v n xs) (hb : base' ≤ base) : w.ownsRow base' e size v n xs := by
  refine ⟨h.1, ?_⟩
  rcases h.2 with h1 | ⟨g, cap, cur, hv, hg, rest⟩
  · exact .inl h1
  · exact .inr ⟨g, cap, cur, hv, by omega, rest⟩

/-- The places below j that are marked. -/
def mkd (s : List Bool) (j : Nat) : List Int := ((List.range j).filter fun i => s.getD i false).map Int.ofNat
def marked (s : List Bool) : List Int := mkd s 100
theorem mkd_succ (s : List Bool) (j : Nat) : mkd s (j + 1) = if s.getD j false = true then mkd s j ++ [(j : Int)] else mkd s j := by
  unfold mkd
  rw [List.range_succ, List.filter_append, List.map_append]
  split
  · rename_i h; rw [List.filter_cons, if_pos h]; rfl
  · rename_i h; rw [List.filter_cons, if_neg h]; simp
theorem mkd_len (s : List Bool) (j : Nat) : (mkd s j).length ≤ j := by
  unfold mkd
  rw [List.length_map]
  exact Nat.le_trans (List.length_filter_le _ _) (by simp)
end Go.Proofs.Ytjalakdpmglamaa.W

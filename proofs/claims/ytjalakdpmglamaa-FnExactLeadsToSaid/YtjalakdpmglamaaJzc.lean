/-
  Some texts of this proof in one: TeLr, TeLq.
-/
import Derived.Test.YtjalakdpmglamaaJl
import Derived.Test.YtjalakdpmglamaaTeC
import Derived.Test.YtjalakdpmglamaaTeLm
import Derived.Deep.RegionHeld3
import Derived.BigQuiet
/-
  Rows of rows of cells as the program makes them: each front with each behind: contracts of slices.Concat of two rows and of eachWithEach. Conditions: at most 200 rows of at most 2000 cells.
-/
namespace Go.Proofs.Ytjalakdpmglamaa.W
open Go.ChangeShapes Go.WideShapes Go.ChangeAt Go.RowKit
set_option linter.unusedVariables false

theorem rr_blk {w w' : World} {base n size : Nat} {e : TypeId} {v : Value} {xs : List Value} (h : w.ownsRow base e size v n xs) (hk : ∀ k, v.ownBlock = some k → w'.heap[k]? = w.heap[k]?) : w'.ownsRow base e size v n xs := by
  refine ⟨h.1, ?_⟩
  rcases h.2 with h0 | ⟨g, cap, cur, hv, hg, hh, rest⟩
  · exact .inl h0
  · exact .inr ⟨g, cap, cur, hv, hg, (hk g (by rw [hv]; rfl)).trans hh, rest⟩
theorem rr_types {w : World} {b1 b2 e1 e2 s1 s2 n1 n2 : Nat} {v1 v2 : Value} {x1 x2 : List Value} (h1 : w.ownsRow b1 e1 s1 v1 n1 x1) (h2 : w.ownsRow b2 e2 s2 v2 n2 x2) (he : e1 ≠ e2) {k : Nat} (k1 : v1.ownBlock = some k) : v2.ownBlock ≠ some k := by
  intro k2
  rcases h1.2 with ⟨rfl, -⟩ | ⟨g1, cap1, cur1, rfl, -, g2, -⟩
  · cases k1
  · rcases h2.2 with ⟨rfl, -⟩ | ⟨g3, cap3, cur3, rfl, -, g4, -⟩
    · cases k2
    · simp only [Value.ownBlock, Option.some.injEq] at k1 k2
      subst k1 k2
      rw [g2] at g4
      simp only [Option.some.injEq, Obj.cells.injEq] at g4
      exact he g4.2.1
/-- A row of rows, all of it from base on. -/
def RR (w : World) (base : Nat) (v : Value) (L : List (List Cc)) : Prop := ∃ vs, w.ownsRow base 26 1 v L.length vs ∧ ∀ j (h : j < L.length), ∃ x, vs[j]? = some x ∧ w.ownsRow base 39 2 x L[j].length (cv L[j])
theorem RR.below {w w' : World} {base : Nat} {v : Value} {L : List (List Cc)} (h : RR w base v L) (hb : Below w.heap.size w w') : RR w' base v L := by
  obtain ⟨vs, h1, h2⟩ := h
  refine ⟨vs, tOwn_keep h1 (fun k _ hk => hb.block k hk), fun j hj => ?_⟩
  obtain ⟨x, h3, h4⟩ := h2 j hj
  exact ⟨x, h3, tOwn_keep h4 (fun k _ hk => hb.block k hk)⟩
theorem RR.lower {w : World} {base base' : Nat} {v : Value} {L : List (List Cc)} (h : RR w base v L) (hb : base' ≤ base) : RR w base' v L := by
  obtain ⟨vs, h1, h2⟩ := h
  refine ⟨vs, iOwn_lower h1 hb, fun j hj => ?_⟩
  obtain ⟨x, h3, h4⟩ := h2 j hj
  exact ⟨x, h3, iOwn_lower h4 hb⟩
theorem RR.nil (w : World) (base : Nat) : RR w base (.slice none 0 0) [] := ⟨[], World.ownsRow_nil _ _ _ _, fun j hj => by simp at hj⟩
theorem RR.form {w : World} {base : Nat} {v : Value} {L : List (List Cc)} (h : RR w base v L) : ∃ a c, v = .slice a L.length c := by
  obtain ⟨vs, h, -⟩ := h
  exact iOwn_form h
/-- One of them as a walk wants it. -/
theorem RR.elem {w : World} {base : Nat} {v : Value} {L : List (List Cc)} (h : RR w base v L) {j : Nat} (hj : j < L.length) (hne : L[j] ≠ []) : ∃ g cap b c, v = .slice (some ⟨g, 0, none⟩) L.length cap ∧ g < w.heap.size ∧ w.cell? ⟨g, j, none⟩ = some (.slice (some ⟨b, 0, none⟩) L[j].length c) ∧ L[j].length ≤ c ∧ CRowAt w b 0 L[j] := by
  obtain ⟨vs, h1, h2⟩ := h
  obtain ⟨x, h3, h4⟩ := h2 j hj
  obtain ⟨g, cap, e1, e2, e3, e4⟩ := tOwn_lies h1 (by omega)
  obtain ⟨ad, c, rfl, hc, hr⟩ := cOwn_row h4
  obtain ⟨b, cp, e5, -, -⟩ := tOwn_some h4 (List.length_pos_iff.2 hne)
  simp only [Value.slice.injEq] at e5
  obtain ⟨rfl, -, rfl⟩ := e5
  refine ⟨g, cap, b, c, e1, e3, e4 j _ h3, hc, ?_⟩
  rcases hr with h0 | ⟨b', o', h5, h6⟩
  · exact absurd h0 hne
  · simp only [Option.some.injEq, Addr.mk.injEq] at h5
    obtain ⟨rfl, rfl, -⟩ := h5
    exact h6
/-- A row more. -/
theorem RR.snoc {w w1 w2 : World} {base b1 : Nat} {v v' x : Value} {L : List (List Cc)} {l : List Cc} {xs : List Value} (h1 : w.ownsRow base 26 1 v L.length xs) (h2 : ∀ j (h : j < L.length), ∃ x, xs[j]? = some x ∧ w.ownsRow base 39 2 x L[j].length (cv L[j])) (hb1 : Below w.heap.size w w1) (hb : base ≤ b1) (hx : w1.ownsRow b1 39 2 x l.length (cv l))
    (hown : w2.ownsRow base 26 1 v' (L.length + 1) (xs ++ [x])) (hg : w1.grownBy w2 v.ownBlock) : RR w2 base v' (L ++ [l]) := by
  have hlen : xs.length = L.length := by have := h1.1; omega
  have h1' : w1.ownsRow base 26 1 v L.length xs := tOwn_keep h1 (fun k _ hk => hb1.block k hk)
  refine ⟨xs ++ [x], by rw [List.length_append, List.length_singleton]; exact hown, fun j hj => ?_⟩
  rw [List.length_append, List.length_singleton] at hj
  by_cases e : j < L.length
  · obtain ⟨y, h3, h4⟩ := h2 j e
    refine ⟨y, by rw [List.getElem?_append_left (by omega)]; exact h3, ?_⟩
    rw [List.getElem_append_left e]
    have h4' : w1.ownsRow base 39 2 y L[j].length (cv L[j]) := tOwn_keep h4 (fun k _ hk => hb1.block k hk)
    exact rr_blk h4' (fun k hk => hg.block k (h4'.lt k hk).2 (fun e => rr_types h4' h1' (by decide) hk e.symm))
  · obtain rfl : j = L.length := by omega
    refine ⟨x, by rw [List.getElem?_append_right (by omega)]; simp [hlen], ?_⟩
    rw [List.getElem_append_right (by omega)]
    simp only [Nat.sub_self, List.getElem_cons_zero]
    exact rr_blk (iOwn_lower hx hb) (fun k hk => hg.block k (hx.lt k hk).2 (fun e => rr_types hx h1' (by decide) hk e.symm))
theorem infoRr : (Try.prog.info? 26).map (fun i => (i.zero, i.size, i.bytes)) = some (some (.slice none 0 0), 1, 24) := by kernel_rfl
theorem rr_cell1 (w : World) (v : Value) (T : TypeId) : ∀ j u, ([v] : List Value)[j]? = some u → (w.alloc (.cells #[v] T)).cell? ((⟨w.heap.size, 0, none⟩ : Addr).add j) = some u := by
  intro j u hu
  cases j with
  | zero =>
    simp only [List.getElem?_cons_zero, Option.some.injEq] at hu
    rw [iAdd, cell_of_blk (heap_alloc_new _ _), ← hu]
    rfl
  | succ j => simp at hu

set_option maxRecDepth 20000 in
set_option maxHeartbeats 2000000 in
theorem concat2_any (g b1 o1 c1 b2 o2 c2 : Nat) (l1 l2 : List Cc) (w : World) (h0 : 0 < l1.length + l2.length) (hl : l1.length + l2.length ≤ 1048576) (hg : g < w.heap.size)
    (q1 : w.cell? ⟨g, 0, none⟩ = some (.slice (some ⟨b1, o1, none⟩) l1.length c1)) (q2 : w.cell? ⟨g, 1, none⟩ = some (.slice (some ⟨b2, o2, none⟩) l2.length c2))
    (h1 : CRow w (some ⟨b1, o1, none⟩) l1) (h2 : CRow w (some ⟨b2, o2, none⟩) l2) :
    Calls Try.prog 35 #[.slice (some ⟨g, 0, none⟩) 2 2] w fun e w' => ∃ v, e = .returned v ∧ w'.ownsRow w.heap.size 39 2 v (l1.length + l2.length) (cv (l1 ++ l2)) ∧ Below w.heap.size w w' := by
  obtain ⟨i0, hi0, hz0, hz1, hz2⟩ := infoPartsT infoCe
  have Hi := hide hi0
  have H1 := hide h1
  have H2 := hide h2
  clear hi0 h1 h2
  go_enter Try.func35, Try.ntmps35
  go_wp2_with fail
  obtain ⟨n1, hn1⟩ : ∃ n1, n1 = l1.length := ⟨_, rfl⟩
  obtain ⟨n2, hn2⟩ : ∃ n2, n2 = l2.length := ⟨_, rfl⟩
  rw [← hn1] at q1
  rw [← hn2] at q2
  rw [← hn1, ← hn2] at h0 hl
  have HN1 := hide hn1
  have HN2 := hide hn2
  clear hn1 hn2
  go_loopw [3, 11] (fun s i w' => w' = w ∧ ((i = .int .i64 0 ∧ s = .int .i64 0) ∨ (i = .int .i64 1 ∧ s = .int .i64 (n1 : Int)) ∨ (i = .int .i64 2 ∧ s = .int .i64 ((n1 : Int) + (n2 : Int))))) (fun _ i _ => 2 - (intOf i).toNat)
  case atStart => exact ⟨rfl, .inl ⟨rfl, rfl⟩⟩
  case round =>
    obtain ⟨rfl, ⟨rfl, rfl⟩ | ⟨rfl, rfl⟩ | ⟨rfl, rfl⟩⟩ := hrel
    · go_wp2_with fail
      exact ⟨⟨trivial, .inr (.inl ⟨rfl, rfl⟩)⟩, by decide⟩
    · go_wp2_with fail
      exact ⟨⟨trivial, .inr (.inr ⟨rfl, rfl⟩)⟩, by decide⟩
    · go_wp2_with fail
      obtain ⟨N, hN⟩ : ∃ N, N = n1 + n2 := ⟨_, rfl⟩
      have hsum : (n1 : Int) + (n2 : Int) = (N : Int) := by omega
      rw [hsum]
      clear hsum
      refine (growC_any N (by omega) (by omega) _).mono ?_
      have HN := hide hN
      clear hN
      rintro e w1 ⟨g1, k1, rfl, ho1, hb1⟩
      have HO1 := hide ho1
      clear ho1
      obtain ⟨W0, hW0⟩ : ∃ W0, W0 = wr := ⟨_, rfl⟩
      subst hW0
      go_wp2_with fail
      go_loopw [6, 27] (fun v i w' => Below W0.heap.size W0 w' ∧ ((i = .int .i64 0 ∧ w'.ownsRow W0.heap.size 39 2 v 0 []) ∨ (i = .int .i64 1 ∧ w'.ownsRow W0.heap.size 39 2 v n1 (cv l1)) ∨ (i = .int .i64 2 ∧ w'.ownsRow W0.heap.size 39 2 v (n1 + n2) (cv l1 ++ cv l2)))) (fun _ i _ => 2 - (intOf i).toNat)
      case atStart => exact ⟨hb1, .inl ⟨rfl, HO1.out⟩⟩
      case round =>
        clear HO1 hb1
        obtain ⟨hBr, ⟨rfl, ho⟩ | ⟨rfl, ho⟩ | ⟨rfl, ho⟩⟩ := hrel
        · obtain ⟨va, vc, rfl⟩ := iOwn_form ho
          have HO := hide ho
          have s1 := (hBr.cell (p := ⟨g, 0, none⟩) hg).trans q1
          have HNw := hide (H1.out.below hBr).news
          have HCl := hide (cv_len l1)
          have M1 : Hid (0 + n1 ≤ maxLen) := hide (by unfold maxLen; omega)
          have hlo : W0.heap.size ≤ wr.heap.size := hBr.size
          have hne := HN1.out
          rw [← hne] at HCl
          have hob : ∀ k, (Value.slice va (0) vc).ownBlock = some k → W0.heap.size ≤ k := fun k hk => (HO.out.lt k hk).1
          have HOb := hide hob
          clear ho hne hob
          go_wp2_with (at_builtin; refine wpList_append_own _ rfl _ _ 26 rfl W0.heap.size 39 i0 (.agg #[.int .i64 0, .int .i64 0]) 2 16 Try.underlying26 Hi.out hz0 hz1 hz2 rfl (by decide) _ (0) ([]) rfl HO.out ⟨b1, o1, none⟩ n1 c1 (cv l1) rfl HCl.out HNw.out (cv_one _) M1.out (by omega) hlo ?_)
          intro v2 w2 hown2 hgrow2 _
          have hB2 : Below W0.heap.size W0 w2 := hBr.grown hgrow2 hlo (fun k hk => HOb.out k hk)
          have HO2 := hide hown2
          obtain ⟨va2, vc2, rfl⟩ := iOwn_form hown2
          clear hown2 hgrow2 HOb
          go_wp2_with fail
          exact ⟨⟨hB2, .inr (.inl ⟨rfl, HO2.out⟩)⟩, by decide⟩
        · obtain ⟨va, vc, rfl⟩ := iOwn_form ho
          have HO := hide ho
          have s1 := (hBr.cell (p := ⟨g, 1, none⟩) hg).trans q2
          have HNw := hide (H2.out.below hBr).news
          have HCl := hide (cv_len l2)
          have M1 : Hid (n1 + n2 ≤ maxLen) := hide (by unfold maxLen; omega)
          have hlo : W0.heap.size ≤ wr.heap.size := hBr.size
          have hne := HN2.out
          rw [← hne] at HCl
          have hob : ∀ k, (Value.slice va (n1) vc).ownBlock = some k → W0.heap.size ≤ k := fun k hk => (HO.out.lt k hk).1
          have HOb := hide hob
          clear ho hne hob
          go_wp2_with (at_builtin; refine wpList_append_own _ rfl _ _ 26 rfl W0.heap.size 39 i0 (.agg #[.int .i64 0, .int .i64 0]) 2 16 Try.underlying26 Hi.out hz0 hz1 hz2 rfl (by decide) _ n1 (cv l1) rfl HO.out ⟨b2, o2, none⟩ n2 c2 (cv l2) rfl HCl.out HNw.out (cv_one _) M1.out (by omega) hlo ?_)
          intro v2 w2 hown2 hgrow2 _
          have hB2 : Below W0.heap.size W0 w2 := hBr.grown hgrow2 hlo (fun k hk => HOb.out k hk)
          have HO2 := hide hown2
          obtain ⟨va2, vc2, rfl⟩ := iOwn_form hown2
          clear hown2 hgrow2 HOb
          go_wp2_with fail
          exact ⟨⟨hB2, .inr (.inr ⟨rfl, HO2.out⟩)⟩, by decide⟩
        · obtain ⟨va, vc, rfl⟩ := iOwn_form ho
          have HO := hide ho
          clear ho
          go_wp2_with fail
          go_ret
          exact ⟨_, rfl, by rw [← HN1.out, ← HN2.out, cv_app]; exact HO.out, hBr⟩

set_option maxRecDepth 20000 in
set_option maxHeartbeats 2000000 in
theorem eachWithEach_any (v1 v2 : Value) (d1 d2 : Nat) (A B : List (List Cc)) (w : World) (h1 : RR w d1 v1 A) (h2 : RR w d2 v2 B) (hA : ∀ l ∈ A, l ≠ [] ∧ l.length ≤ 2000) (hB : ∀ l ∈ B, l ≠ [] ∧ l.length ≤ 2000) (hn : A.length * B.length ≤ 200) (hA2 : A.length ≤ 200) (hB2 : B.length ≤ 200) :
    Calls Try.prog 24 #[v1, v2] w fun e w' => ∃ v', e = .returned v' ∧ RR w' w.heap.size v' (A.flatMap fun f => B.map fun b => f ++ b) ∧ Below w.heap.size w w' := by
  have H1 := hide h1
  have H2 := hide h2
  obtain ⟨a1, c1, rfl⟩ := h1.form
  obtain ⟨a2, c2, rfl⟩ := h2.form
  obtain ⟨i1, hi1, hz0, hz1, hz2⟩ := infoPartsT infoRr
  have Hi := hide hi1
  have HA := hide hA
  have HB := hide hB
  obtain ⟨AN, hAN⟩ : ∃ AN, AN = A.length := ⟨_, rfl⟩
  obtain ⟨BN, hBN⟩ : ∃ BN, BN = B.length := ⟨_, rfl⟩
  rw [← hAN, ← hBN] at hn
  rw [← hAN] at hA2 ⊢
  rw [← hBN] at hB2 ⊢
  have HAN := hide hAN
  have HBN := hide hBN
  have HMul := hide hn
  clear h1 h2 hi1 hA hB hAN hBN hn
  go_enter Try.func24, Try.ntmps24
  go_wp2_with fail
  go_loopw [5, 12] (fun v i w' => ∃ (P Q : List (List Cc)), A = P ++ Q ∧ i = .int .i64 (P.length : Int) ∧ RR w' w.heap.size v (P.flatMap fun f => B.map fun b => f ++ b) ∧ Below w.heap.size w w') (fun _ i _ => AN - (intOf i).toNat)
  case atStart => exact ⟨[], A, rfl, rfl, RR.nil _ _, Below.refl _ _⟩
  case round =>
    obtain ⟨P, Q, hPQ, rfl, hR, hB⟩ := hrel
    have HR := hide hR
    obtain ⟨va, vc, rfl⟩ := hR.form
    obtain ⟨RN, hRN⟩ : ∃ RN, RN = (P.flatMap fun f => B.map fun b => f ++ b).length := ⟨_, rfl⟩
    have hRl : RN = P.length * BN := by
      rw [hRN, HBN.out, List.length_flatMap]
      simp only [List.length_map, List.map_const', List.sum_replicate_nat]
    rw [← hRN] at HR ⊢
    have HRN := hide hRN
    clear hR hRN
    cases Q with
    | nil =>
      rw [List.append_nil] at hPQ
      subst hPQ
      have hl := HAN.out
      rw [← hl]
      clear hl hRl
      go_wp2_with fail
      go_ret
      exact ⟨_, rfl, HR.out, hB⟩
    | cons f Q =>
      have hlt : P.length < A.length := by rw [hPQ]; simp
      have hlt' : (P.length : Int) < (AN : Int) := by rw [HAN.out]; omega
      have hp0 : (0 : Int) ≤ (P.length : Int) := by omega
      have hfe : A[P.length] = f := by simp [hPQ]
      obtain ⟨hfn, hfl⟩ := HA.out f (by rw [hPQ]; simp)
      obtain ⟨g, cap, b, c, e1, hg, p0, hcc, hrow⟩ := H1.out.elem hlt (by rw [hfe]; exact hfn)
      simp only [Value.slice.injEq] at e1
      obtain ⟨rfl, -, rfl⟩ := e1
      rw [hfe] at p0 hcc hrow
      have q0 := (hB.cell (p := ⟨g, P.length, none⟩) hg).trans p0
      have hmul : (P.length + 1) * BN ≤ 200 := Nat.le_trans (Nat.mul_le_mul_right _ (show P.length + 1 ≤ AN by rw [HAN.out]; omega)) HMul.out
      rw [Nat.succ_mul] at hmul
      obtain ⟨FN, hFN⟩ : ∃ FN, FN = f.length := ⟨_, rfl⟩
      have hF0 : 0 < FN := by rw [hFN]; exact List.length_pos_iff.2 hfn
      obtain ⟨PN, hPN⟩ : ∃ PN, PN = P.length := ⟨_, rfl⟩
      rw [← hFN] at q0 hfl
      rw [← hPN] at hlt' hp0 q0 hRl hmul ⊢
      have HRow := hide hrow
      have HFN := hide hFN
      have HPN := hide hPN
      have HPQ : Hid (A = (P ++ [f]) ++ Q) := hide (by rw [hPQ]; simp)
      have HFm : Hid (((P ++ [f]).flatMap fun f => B.map fun b => f ++ b) = (P.flatMap fun f => B.map fun b => f ++ b) ++ B.map fun b => f ++ b) := hide (by rw [List.flatMap_append]; simp)
      have hR200 : RN + BN ≤ 200 := by omega
      clear hPQ hlt hfe hfn p0 hcc hrow hFN hPN hRl hmul
      obtain ⟨WB, hWB⟩ : ∃ WB, WB = wr := ⟨_, rfl⟩
      have HWb := hide (hWB ▸ hB)
      clear hWB
      go_wp2_with fail
      go_loopw [5, 18] (fun v i w' => ∃ (S T : List (List Cc)), B = S ++ T ∧ i = .int .i64 (S.length : Int) ∧ RR w' w.heap.size v ((P.flatMap fun f => B.map fun b => f ++ b) ++ S.map fun b => f ++ b) ∧ Below w.heap.size w w') (fun _ i _ => BN - (intOf i).toNat)
      case atStart => exact ⟨[], B, rfl, rfl, by rw [List.map_nil, List.append_nil]; exact HR.out, hB⟩
      case round =>
        clear HR hB
        obtain ⟨S, T, hST, rfl, hR, hB⟩ := hrel
        have HR := hide hR
        obtain ⟨va, vc, rfl⟩ := hR.form
        obtain ⟨ON, hON⟩ : ∃ ON, ON = ((P.flatMap fun f => B.map fun b => f ++ b) ++ S.map fun b => f ++ b).length := ⟨_, rfl⟩
        have hOl : ON = RN + S.length := by rw [hON, List.length_append, List.length_map, ← HRN.out]
        rw [← hON] at HR ⊢
        have HON := hide hON
        clear hR hON q0
        cases T with
        | nil =>
          rw [List.append_nil] at hST
          subst hST
          have hl := HBN.out
          rw [← hl]
          clear hl hOl
          go_wp2_with fail
          exact ⟨⟨P ++ [f], Q, HPQ.out, by rw [List.length_append, List.length_singleton, ← HPN.out]; go_num, by rw [HFm.out]; exact HR.out, hB⟩, by simp [intOf]; omega⟩
        | cons u T =>
          have hlt2 : S.length < B.length := by rw [hST]; simp
          have hlt2' : (S.length : Int) < (BN : Int) := by rw [HBN.out]; omega
          have hs0 : (0 : Int) ≤ (S.length : Int) := by omega
          have hue : B[S.length] = u := by simp [hST]
          obtain ⟨hun, hul⟩ := HB.out u (by rw [hST]; simp)
          obtain ⟨g2, cap2, b2, c2', e2, hg2, p2, hcc2, hrow2⟩ := H2.out.elem hlt2 (by rw [hue]; exact hun)
          simp only [Value.slice.injEq] at e2
          obtain ⟨rfl, -, rfl⟩ := e2
          rw [hue] at p2 hcc2 hrow2
          have q2 := (hB.cell (p := ⟨g2, S.length, none⟩) hg2).trans p2
          obtain ⟨UN, hUN⟩ : ∃ UN, UN = u.length := ⟨_, rfl⟩
          obtain ⟨SN, hSN⟩ : ∃ SN, SN = S.length := ⟨_, rfl⟩
          rw [← hUN] at q2 hul
          rw [← hSN] at hlt2' hs0 q2 hOl ⊢
          have HUN := hide hUN
          have HSN := hide hSN
          have HST : Hid (B = (S ++ [u]) ++ T) := hide (by rw [hST]; simp)
          have hO2 : ON + 1 ≤ 200 := by have := HBN.out; omega
          have HC := hide (concat2_any wr.heap.size b 0 c b2 0 c2' f u (wr.alloc (.cells #[.slice (some ⟨b, 0, none⟩) FN c, .slice (some ⟨b2, 0, none⟩) UN c2'] 26)) (by rw [← HFN.out]; omega) (by rw [← HFN.out, ← HUN.out]; omega) (by simp) (by rw [cell_of_blk (heap_alloc_new _ _), ← HFN.out]; rfl) (by rw [cell_of_blk (heap_alloc_new _ _), ← HUN.out]; rfl) (.inr ⟨b, 0, rfl, (HRow.out.below hB).below ((Below.refl _ _).alloc (Nat.le_refl _) _)⟩) (.inr ⟨b2, 0, rfl, (hrow2.below hB).below ((Below.refl _ _).alloc (Nat.le_refl _) _)⟩))
          obtain ⟨xs, ho1, ho2⟩ := HR.out
          rw [← HON.out] at ho1
          have HO1 := hide ho1
          have HO2 := hide ho2
          have hol : ∀ q, (Value.slice va ON vc).ownBlock = some q → w.heap.size ≤ q := fun q hq => (HO1.out.lt q hq).1
          have HOl := hide hol
          clear hST hlt2 hue hun p2 hcc2 hrow2 hUN hSN hOl ho1 ho2 hol
          go_wp2_with fail
          refine Calls.mono HC.out ?_
          rintro e w5 ⟨v5, rfl, ho5, hb5⟩
          have hb5' : Below wr.heap.size wr w5 := ((Below.refl _ wr).alloc (Nat.le_refl _) _).trans (hb5.mono (by simp))
          have hB5 : Below w.heap.size w w5 := hB.trans (hb5'.mono hB.size)
          have ho5' : w5.ownsRow wr.heap.size 39 2 v5 (f ++ u).length (cv (f ++ u)) := by rw [List.length_append]; exact iOwn_lower ho5 (by simp)
          obtain ⟨a5, c5, rfl⟩ := iOwn_form ho5'
          obtain ⟨VN, hVN⟩ : ∃ VN, VN = (f ++ u).length := ⟨_, rfl⟩
          rw [← hVN]
          rw [← hVN] at ho5'
          have HVN := hide hVN
          have HO5 := hide ho5'
          have HB5 := hide hb5'
          have hs5 := hB5.size
          have HOA := hide (tOwn_keep HO1.out (fun k _ hk => hb5'.block k hk))
          clear HC ho5 hb5 ho5' hb5' hVN q2
          go_wp2_with (at_builtin; refine wpList_append_own _ rfl _ _ 43 rfl w.heap.size 26 i1 (.slice none 0 0) 1 24 Try.underlying43 Hi.out hz0 hz1 hz2 rfl (by decide) _ ON xs rfl (HOA.out.alloc _) ⟨w5.heap.size, 0, none⟩ 1 1 [.slice a5 VN c5] rfl rfl (rr_cell1 _ _ _) (by simp [Value.oneCell']) (by unfold maxLen; omega) (by omega) (by simp; omega) ?_)
          intro v6 w6 hown6 hgr6 _
          have hbA : Below wr.heap.size wr (w5.alloc (.cells #[.slice a5 VN c5] 26)) := HB5.out.alloc HB5.out.size _
          have hB6 : Below w.heap.size w w6 := (hB5.alloc hB5.size (.cells #[.slice a5 VN c5] 26)).grown hgr6 (by simp; omega) (fun q hq => HOl.out q hq)
          have HRR : Hid (RR w6 w.heap.size v6 (((P.flatMap fun f => B.map fun b => f ++ b) ++ S.map fun b => f ++ b) ++ [f ++ u])) := hide (RR.snoc (by rw [← HON.out]; exact HO1.out) HO2.out hbA hB.size (World.ownsRow.alloc (by rw [← HVN.out]; exact HO5.out) _) (by rw [← HON.out]; exact hown6) hgr6)
          obtain ⟨va6, vc6, rfl⟩ := iOwn_form hown6
          clear hown6 hgr6 hbA HOA HO5 HB5
          go_wp2_with fail
          exact ⟨⟨S ++ [u], T, HST.out, by rw [List.length_append, List.length_singleton, ← HSN.out]; go_num, by rw [List.map_append, List.map_singleton, ← List.append_assoc]; exact HRR.out, hB6⟩, by simp [intOf]; omega⟩
end Go.Proofs.Ytjalakdpmglamaa.W

/-
  Whether a row is one of some rows: contracts of slices.Equal, slices.IndexFunc, slices.ContainsFunc and hasTerm. Conditions: at most 1048576 cells a row.
-/
namespace Go.Proofs.Ytjalakdpmglamaa.W
open Go.ChangeShapes Go.WideShapes Go.ChangeAt Go.RowKit
set_option linter.unusedVariables false

set_option maxRecDepth 20000 in
set_option maxHeartbeats 2000000 in
theorem equalC_any (a1 a2 : Option Addr) (c1 c2 : Nat) (l1 l2 : List Cc) (w : World) (hl1 : l1.length ≤ 1048576) (hl2 : l2.length ≤ 1048576) (h1 : CRow w a1 l1) (h2 : CRow w a2 l2) :
    Calls Try.prog 29 #[.slice a1 l1.length c1, .slice a2 l2.length c2] w fun e w' => e = .returned (.bool (sameR l1 l2)) ∧ Below w.heap.size w w' := by
  have H1 := hide h1
  have H2 := hide h2
  clear h1 h2
  obtain ⟨R, hR⟩ : ∃ R, R = sameR l1 l2 := ⟨_, rfl⟩
  rw [← hR]
  have HR := hide hR
  clear hR
  by_cases hlen : l1.length = l2.length
  · have hlen' : (l1.length : Int) = (l2.length : Int) := by omega
    rw [← hlen]
    clear hlen'
    go_enter Try.func29, Try.ntmps29
    have HL := hide hlen
    clear hlen hl2
    go_wp2_with fail
    go_loopw [13] (fun i w' => ∃ j : Nat, j ≤ l1.length ∧ i = .int .i64 j ∧ R = sameR (l1.drop j) (l2.drop j) ∧ Below w.heap.size w w') (fun i _ => l1.length - (intOf i).toNat)
    case atStart => exact ⟨0, by omega, rfl, by rw [HR.out]; rfl, Below.refl _ _⟩
    case round =>
      obtain ⟨j, hj, rfl, hr, hB⟩ := hrel
      by_cases hlt : j < l1.length
      · have hlt' : (j : Int) < (l1.length : Int) := by omega
        have hlt2 : j < l2.length := by have := HL.out; omega
        obtain ⟨b, o, rfl, hb, p0, p1⟩ := H1.out.tok hB hlt
        obtain ⟨b', o', rfl, hb', q0, q1⟩ := H2.out.tok hB hlt2
        rw [List.drop_eq_getElem_cons hlt, List.drop_eq_getElem_cons hlt2] at hr
        obtain ⟨x, hx⟩ : ∃ x, x = l1[j] := ⟨_, rfl⟩
        obtain ⟨y, hy⟩ : ∃ y, y = l2[j] := ⟨_, rfl⟩
        rw [← hx] at p0 p1 hr
        rw [← hy] at q0 q1 hr
        have hs : R = (decide (x.k = y.k) && (decide (x.n = y.n) && sameR (l1.drop (j + 1)) (l2.drop (j + 1)))) := hr
        have HS := hide hs
        clear hx hy hr hs H1 H2
        by_cases hxy : x.k = y.k ∧ x.n = y.n
        · obtain ⟨e1, e2⟩ := hxy
          rw [e1] at p0 
          rw [e2] at p1
          go_wp2_with fail
          go_quiet (fail)
          go_wp2_with fail
          refine ⟨⟨j + 1, by omega, by go_num, ?_, ⟨hB.os, hB.tape, hB.output, hB.size, hB.block⟩⟩, by simp [intOf]; omega⟩
          rw [HS.out, decide_eq_true e1, decide_eq_true e2]; rfl
        · have hf : R = false := by
            rw [HS.out]
            by_cases h1 : x.k = y.k
            · have h2 : ¬ x.n = y.n := fun h => hxy ⟨h1, h⟩
              rw [decide_eq_false h2]; simp
            · rw [decide_eq_false h1]; simp
          subst hf
          clear HS HR
          by_cases h1 : x.k = y.k
          · have h2 : (x.n == y.n) = false := by simpa using fun h => hxy ⟨h1, h⟩
            rw [h1] at p0
            clear hxy h1
            go_wp2_with fail
            go_quiet (fail)
            go_wp2_with fail
            go_ret
            exact ⟨rfl, ⟨hB.os, hB.tape, hB.output, hB.size, hB.block⟩⟩
          · have h2 : (x.k == y.k) = false := by simpa using h1
            clear hxy h1
            go_wp2_with fail
            go_quiet (fail)
            go_wp2_with fail
            go_ret
            exact ⟨rfl, ⟨hB.os, hB.tape, hB.output, hB.size, hB.block⟩⟩
      · obtain rfl : j = l1.length := by omega
        have hl2 : l2.length = l1.length := HL.out.symm
        have hf : R = true := by rw [hr, List.drop_length, List.drop_eq_nil_of_le (by omega)]; rfl
        subst hf
        clear hl2 hr HR
        go_wp2_with fail
        go_ret
        exact ⟨rfl, hB⟩
  · have hf : R = false := by
      rw [HR.out, ← Bool.not_eq_true, sameR_iff]
      intro e
      exact hlen (by rw [e])
    subst hf
    have hlen' : ¬ (l1.length : Int) = (l2.length : Int) := by omega
    have hlb : ((l1.length : Int) == (l2.length : Int)) = false := by simp; omega
    have hlb2 : ((l1.length : Int) != (l2.length : Int)) = true := by simp; omega
    go_enter Try.func29, Try.ntmps29
    go_wp2_with fail
    go_ret
    exact ⟨rfl, Below.refl _ _⟩

/-- Whether a row is one of these. -/
def hasR (L : List (List Cc)) (t : List Cc) : Bool := L.any fun l => sameR l t
theorem hasR_at {L : List (List Cc)} {t : List Cc} {j : Nat} (h : j < L.length) : hasR (L.drop j) t = (sameR L[j] t || hasR (L.drop (j + 1)) t) := by
  unfold hasR; rw [List.drop_eq_getElem_cons h]; rfl

set_option maxRecDepth 20000 in
set_option maxHeartbeats 2000000 in
theorem indexTerm_any (v : Value) (base : Nat) (L : List (List Cc)) (ta : Option Addr) (tc T : Nat) (t : List Cc) (w : World) (hv : RR w base v L) (hL : L.length ≤ 1048576) (hne : ∀ l ∈ L, l ≠ [] ∧ l.length ≤ 2000) (ht : CRow w ta t) (htl : t.length ≤ 1048576) (hT : T < w.heap.size) (hc : w.cell? ⟨T, 0, none⟩ = some (.slice ta t.length tc)) :
    Calls Try.prog 38 #[v, .func (.func 28) #[] #[.pointer (some ⟨T, 0, none⟩)]] w fun e w' => ∃ r : Int, e = .returned (.int .i64 r) ∧ hasR L t = decide (0 ≤ r) ∧ Below w.heap.size w w' := by
  have HR := hide hv
  obtain ⟨ad, c, rfl⟩ := hv.form
  have HNe := hide hne
  have HT := hide ht
  obtain ⟨TN, hTN⟩ : ∃ TN, TN = t.length := ⟨_, rfl⟩
  rw [← hTN] at hc htl
  have HTN := hide hTN
  obtain ⟨LN, hLN⟩ : ∃ LN, LN = L.length := ⟨_, rfl⟩
  rw [← hLN] at hL HR ⊢
  have HLN := hide hLN
  clear hv hne ht hTN hLN
  go_enter Try.func38, Try.ntmps38
  go_wp2_with fail
  go_loopw [8] (fun i w' => ∃ j : Nat, j ≤ LN ∧ i = .int .i64 j ∧ hasR L t = hasR (L.drop j) t ∧ Below w.heap.size w w') (fun i _ => LN - (intOf i).toNat)
  case atStart => exact ⟨0, by omega, rfl, rfl, Below.refl _ _⟩
  case round =>
    obtain ⟨j, hj, rfl, hG, hB⟩ := hrel
    have HG := hide hG
    clear hG
    by_cases hlt : j < LN
    · have hlt' : (j : Int) < (LN : Int) := by omega
      have hj0 : (0 : Int) ≤ (j : Int) := by omega
      have hlt2 : j < L.length := by rw [← HLN.out]; exact hlt
      have HAt := hide (hasR_at (t := t) hlt2)
      obtain ⟨hn1, hn2⟩ := HNe.out _ (List.getElem_mem hlt2)
      obtain ⟨g, cap, b, c', e1, hg, p0, hcc, hrow⟩ := HR.out.elem hlt2 hn1
      simp only [Value.slice.injEq] at e1
      obtain ⟨rfl, -, rfl⟩ := e1
      obtain ⟨l, hl⟩ : ∃ l, l = L[j] := ⟨_, rfl⟩
      rw [← hl] at p0 hcc hrow hn2 HAt
      have q0 := (hB.cell (p := ⟨g, j, none⟩) hg).trans p0
      have q1 := (hB.cell (p := ⟨T, 0, none⟩) hT).trans hc
      have HE := hide (equalC_any (some ⟨b, 0, none⟩) ta c' tc l t wr (by omega) (by rw [← HTN.out]; exact htl) (.inr ⟨b, 0, rfl, hrow.below hB⟩) (HT.out.below hB))
      obtain ⟨NL, hNL⟩ : ∃ NL, NL = sameR l t := ⟨_, rfl⟩
      obtain ⟨ln, hln⟩ : ∃ ln, ln = l.length := ⟨_, rfl⟩
      have htn := HTN.out
      rw [← hNL, ← hln, ← htn] at HE
      rw [← hNL] at HAt
      rw [← hln] at q0
      clear hNL hl hn1 hn2 p0 hcc hrow hlt2 hln htn
      go_wp2_with fail
      have HC : Hid (Calls Try.prog 28 #[.slice (some ⟨b, 0, none⟩) ln c', .pointer (some ⟨T, 0, none⟩)] wr fun e w' => e = .returned (.bool NL) ∧ Below wr.heap.size wr w') := by
        refine hide ?_
        clear HAt HG
        go_enter Try.func28, Try.ntmps28
        go_wp2_with fail
        refine Calls.mono HE.out ?_
        rintro e w2 ⟨rfl, hb⟩
        go_wp2_with fail
        go_ret
        exact ⟨rfl, hb⟩
      refine Calls.mono HC.out ?_
      rintro e w2 ⟨rfl, hb2⟩
      have hB2 : Below w.heap.size w w2 := hB.trans (hb2.mono hB.size)
      clear HC HE hb2 q0 q1
      cases NL with
      | true =>
        have hg := hide (show hasR L t = true by rw [HG.out, HAt.out]; rfl)
        clear HG HAt
        go_wp2_with fail
        go_ret
        exact ⟨_, rfl, by rw [hg.out]; simp, hB2⟩
      | false =>
        have hg := hide (show hasR L t = hasR (L.drop (j + 1)) t by rw [HG.out, HAt.out]; rfl)
        clear HG HAt
        go_wp2_with fail
        exact ⟨⟨j + 1, by omega, by go_num, hg.out, hB2⟩, by simp [intOf]; omega⟩
    · obtain rfl : j = LN := by omega
      have hg := hide (show hasR L t = false by rw [HG.out, HLN.out, List.drop_length]; rfl)
      clear HG
      go_wp2_with fail
      go_ret
      exact ⟨_, rfl, by rw [hg.out]; rfl, hB⟩

set_option maxRecDepth 20000 in
set_option maxHeartbeats 1000000 in
theorem containsTerm_any (v : Value) (base : Nat) (L : List (List Cc)) (ta : Option Addr) (tc T : Nat) (t : List Cc) (w : World) (hv : RR w base v L) (hL : L.length ≤ 1048576) (hne : ∀ l ∈ L, l ≠ [] ∧ l.length ≤ 2000) (ht : CRow w ta t) (htl : t.length ≤ 1048576) (hT : T < w.heap.size) (hc : w.cell? ⟨T, 0, none⟩ = some (.slice ta t.length tc)) :
    Calls Try.prog 27 #[v, .func (.func 28) #[] #[.pointer (some ⟨T, 0, none⟩)]] w fun e w' => e = .returned (.bool (hasR L t)) ∧ Below w.heap.size w w' := by
  have HC := hide (indexTerm_any v base L ta tc T t w hv hL hne ht htl hT hc)
  obtain ⟨ad, c, rfl⟩ := hv.form
  obtain ⟨G, hG⟩ : ∃ G, G = hasR L t := ⟨_, rfl⟩
  obtain ⟨LN, hLN⟩ : ∃ LN, LN = L.length := ⟨_, rfl⟩
  rw [← hLN] at HC ⊢
  rw [← hG] at HC ⊢
  clear hne hG hv ht hc hLN
  go_enter Try.func27, Try.ntmps27
  go_wp2_with fail
  refine Calls.mono HC.out ?_
  rintro e w1 ⟨r, rfl, hr, hb⟩
  have Hr := hide hr
  clear hr HC
  go_wp2_with fail
  go_ret
  exact ⟨ret_bool (by rw [Hr.out]), hb⟩

set_option maxRecDepth 20000 in
set_option maxHeartbeats 1000000 in
theorem hasTerm_any (v : Value) (base : Nat) (L : List (List Cc)) (ta : Option Addr) (tc : Nat) (t : List Cc) (w : World) (hv : RR w base v L) (hL : L.length ≤ 1048576) (hne : ∀ l ∈ L, l ≠ [] ∧ l.length ≤ 2000) (ht : CRow w ta t) (htl : t.length ≤ 1048576) :
    Calls Try.prog 15 #[v, .slice ta t.length tc] w fun e w' => e = .returned (.bool (hasR L t)) ∧ Below w.heap.size w w' := by
  have hb1 : Below w.heap.size w (w.alloc (.cells #[.slice ta t.length tc] 26)) := (Below.refl _ _).alloc (Nat.le_refl _) _
  have HC := hide (containsTerm_any v base L ta tc w.heap.size t (w.alloc (.cells #[.slice ta t.length tc] 26)) (hv.below hb1) hL hne (ht.below hb1) htl (by simp) (by rw [cell_of_blk (heap_alloc_new _ _)]; rfl))
  obtain ⟨ad, c, rfl⟩ := hv.form
  obtain ⟨G, hG⟩ : ∃ G, G = hasR L t := ⟨_, rfl⟩
  obtain ⟨LN, hLN⟩ : ∃ LN, LN = L.length := ⟨_, rfl⟩
  obtain ⟨TN, hTN⟩ : ∃ TN, TN = t.length := ⟨_, rfl⟩
  rw [← hLN] at HC ⊢
  rw [← hTN] at HC hb1 ⊢
  rw [← hG] at HC ⊢
  have HB1 := hide hb1
  clear hne hG hv ht hLN hTN hb1 hL htl
  go_enter Try.func15, Try.ntmps15
  go_wp2_with fail
  refine Calls.mono HC.out ?_
  rintro e w1 ⟨rfl, hb⟩
  have HBb := hide (HB1.out.trans (hb.mono HB1.out.size))
  clear HC hb
  go_wp2_with fail
  go_ret
  exact ⟨rfl, HBb.out⟩
end Go.Proofs.Ytjalakdpmglamaa.W

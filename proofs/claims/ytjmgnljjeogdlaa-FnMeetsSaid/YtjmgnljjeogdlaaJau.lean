/-
  Some texts of this proof in one: TeLr, TeLq, TeLc, TeLi.
-/
import Derived.Test.YtjmgnljjeogdlaaJad
import Derived.Test.YtjmgnljjeogdlaaJal
import Derived.Test.YtjmgnljjeogdlaaTeC
import Derived.Test.YtjmgnljjeogdlaaJar
import Derived.Deep.RegionHeld3
import Derived.BigQuiet
import Derived.Test.YtjmgnljjeogdlaaJat
import Derived.Test.YtjmgnljjeogdlaaJab
import Derived.Test.YtjmgnljjeogdlaaJan
/-
  Rows of rows of cells as the program makes them: each front with each behind: contracts of slices.Concat of two rows and of eachWithEach. Conditions: at most 200 rows of at most 2000 cells.
-/
namespace Go.Proofs.Ytjmgnljjeogdlaa.W
open Go.ChangeShapes Go.WideShapes Go.ChangeAt Go.RowKit
set_option linter.unusedVariables false

theorem rr_blk {w w' : World} {base n size : Nat} {e : TypeId} {v : Value} {xs : List Value} (h : w.ownsRow base e size v n xs) (hk : ∀ k, v.ownBlock = some k → w'.heap[k]? = w.heap[k]?) : w'.ownsRow base e size v n xs := by
  refine ⟨h.1, ?_⟩
  rcases h.2 with h0 | ⟨g, cap, cur, hv, hg, hh, rest⟩
  · exact .inl h0
  · exact .inr ⟨g, cap, cur, hv, hg, (hk g (by rw [hv]; rfl)).trans hh, rest⟩
theorem rr_types {w : World} {b1 b2 e1 e2 s1 s2 n1 n2 : Nat} {v1 v2 : Value} {x1 x2 : List Value} (h1 : w.ownsRow b1 e1 s1 v1 n1 x1) (h2 : w.ownsRow b2 e2 s2 v2 n2 x2) (he : e1 ≠ e2) {k : Nat} (k1 : v1.ownBlock = some k) : v2.ownBlock ≠ some k := by
  intro k2
  rcases h1.2 with ⟨rfl, -⟩ | ⟨g1, cap1, cur1, rfl, -, g2, -⟩
  · cases k1
  · rcases h2.2 with ⟨rfl, -⟩ | ⟨g3, cap3, cur3, rfl, -, g4, -⟩
    · cases k2
    · simp only [Value.ownBlock, Option.some.injEq] at k1 k2
      subst k1 k2
      rw [g2] at g4
      simp only [Option.some.injEq, Obj.cells.injEq] at g4
      exact he g4.2.1
/-- A row of rows, all of it from base on. -/
def RR (w : World) (base : Nat) (v : Value) (L : List (List Cc)) : Prop := ∃ vs, w.ownsRow base 23 1 v L.length vs ∧ ∀ j (h : j < L.length), ∃ x, vs[j]? = some x ∧ w.ownsRow base 62 2 x L[j].length (cv L[j])
theorem RR.below {w w' : World} {base : Nat} {v : Value} {L : List (List Cc)} (h : RR w base v L) (hb : Below w.heap.size w w') : RR w' base v L := by
  obtain ⟨vs, h1, h2⟩ := h
  refine ⟨vs, tOwn_keep h1 (fun k _ hk => hb.block k hk), fun j hj => ?_⟩
  obtain ⟨x, h3, h4⟩ := h2 j hj
  exact ⟨x, h3, tOwn_keep h4 (fun k _ hk => hb.block k hk)⟩
theorem RR.lower {w : World} {base base' : Nat} {v : Value} {L : List (List Cc)} (h : RR w base v L) (hb : base' ≤ base) : RR w base' v L := by
  obtain ⟨vs, h1, h2⟩ := h
  refine ⟨vs, iOwn_lower h1 hb, fun j hj => ?_⟩
  obtain ⟨x, h3, h4⟩ := h2 j hj
  exact ⟨x, h3, iOwn_lower h4 hb⟩
theorem RR.nil (w : World) (base : Nat) : RR w base (.slice none 0 0) [] := ⟨[], World.ownsRow_nil _ _ _ _, fun j hj => by simp at hj⟩
theorem RR.form {w : World} {base : Nat} {v : Value} {L : List (List Cc)} (h : RR w base v L) : ∃ a c, v = .slice a L.length c := by
  obtain ⟨vs, h, -⟩ := h
  exact iOwn_form h
/-- One of them as a walk wants it. -/
theorem RR.elem {w : World} {base : Nat} {v : Value} {L : List (List Cc)} (h : RR w base v L) {j : Nat} (hj : j < L.length) (hne : L[j] ≠ []) : ∃ g cap b c, v = .slice (some ⟨g, 0, none⟩) L.length cap ∧ g < w.heap.size ∧ w.cell? ⟨g, j, none⟩ = some (.slice (some ⟨b, 0, none⟩) L[j].length c) ∧ L[j].length ≤ c ∧ CRowAt w b 0 L[j] := by
  obtain ⟨vs, h1, h2⟩ := h
  obtain ⟨x, h3, h4⟩ := h2 j hj
  obtain ⟨g, cap, e1, e2, e3, e4⟩ := tOwn_lies h1 (by omega)
  obtain ⟨ad, c, rfl, hc, hr⟩ := cOwn_row h4
  obtain ⟨b, cp, e5, -, -⟩ := tOwn_some h4 (List.length_pos_iff.2 hne)
  simp only [Value.slice.injEq] at e5
  obtain ⟨rfl, -, rfl⟩ := e5
  refine ⟨g, cap, b, c, e1, e3, e4 j _ h3, hc, ?_⟩
  rcases hr with h0 | ⟨b', o', h5, h6⟩
  · exact absurd h0 hne
  · simp only [Option.some.injEq, Addr.mk.injEq] at h5
    obtain ⟨rfl, rfl, -⟩ := h5
    exact h6
/-- A row more. -/
theorem RR.snoc {w w1 w2 : World} {base b1 : Nat} {v v' x : Value} {L : List (List Cc)} {l : List Cc} {xs : List Value} (h1 : w.ownsRow base 23 1 v L.length xs) (h2 : ∀ j (h : j < L.length), ∃ x, xs[j]? = some x ∧ w.ownsRow base 62 2 x L[j].length (cv L[j])) (hb1 : Below w.heap.size w w1) (hb : base ≤ b1) (hx : w1.ownsRow b1 62 2 x l.length (cv l))
    (hown : w2.ownsRow base 23 1 v' (L.length + 1) (xs ++ [x])) (hg : w1.grownBy w2 v.ownBlock) : RR w2 base v' (L ++ [l]) := by
  have hlen : xs.length = L.length := by have := h1.1; omega
  have h1' : w1.ownsRow base 23 1 v L.length xs := tOwn_keep h1 (fun k _ hk => hb1.block k hk)
  refine ⟨xs ++ [x], by rw [List.length_append, List.length_singleton]; exact hown, fun j hj => ?_⟩
  rw [List.length_append, List.length_singleton] at hj
  by_cases e : j < L.length
  · obtain ⟨y, h3, h4⟩ := h2 j e
    refine ⟨y, by rw [List.getElem?_append_left (by omega)]; exact h3, ?_⟩
    rw [List.getElem_append_left e]
    have h4' : w1.ownsRow base 62 2 y L[j].length (cv L[j]) := tOwn_keep h4 (fun k _ hk => hb1.block k hk)
    exact rr_blk h4' (fun k hk => hg.block k (h4'.lt k hk).2 (fun e => rr_types h4' h1' (by decide) hk e.symm))
  · obtain rfl : j = L.length := by omega
    refine ⟨x, by rw [List.getElem?_append_right (by omega)]; simp [hlen], ?_⟩
    rw [List.getElem_append_right (by omega)]
    simp only [Nat.sub_self, List.getElem_cons_zero]
    exact rr_blk (iOwn_lower hx hb) (fun k hk => hg.block k (hx.lt k hk).2 (fun e => rr_types hx h1' (by decide) hk e.symm))
theorem infoRr : (Try.prog.info? 23).map (fun i => (i.zero, i.size, i.bytes)) = some (some (.slice none 0 0), 1, 24) := by kernel_rfl
theorem rr_cell1 (w : World) (v : Value) (T : TypeId) : ∀ j u, ([v] : List Value)[j]? = some u → (w.alloc (.cells #[v] T)).cell? ((⟨w.heap.size, 0, none⟩ : Addr).add j) = some u := by
  intro j u hu
  cases j with
  | zero =>
    simp only [List.getElem?_cons_zero, Option.some.injEq] at hu
    rw [iAdd, cell_of_blk (heap_alloc_new _ _), ← hu]
    rfl
  | succ j => simp at hu

set_option maxRecDepth 20000 in
set_option maxHeartbeats 2000000 in
theorem concat2_any (g b1 o1 c1 b2 o2 c2 : Nat) (l1 l2 : List Cc) (w : World) (h0 : 0 < l1.length + l2.length) (hl : l1.length + l2.length ≤ 1048576) (hg : g < w.heap.size)
    (q1 : w.cell? ⟨g, 0, none⟩ = some (.slice (some ⟨b1, o1, none⟩) l1.length c1)) (q2 : w.cell? ⟨g, 1, none⟩ = some (.slice (some ⟨b2, o2, none⟩) l2.length c2))
    (h1 : CRow w (some ⟨b1, o1, none⟩) l1) (h2 : CRow w (some ⟨b2, o2, none⟩) l2) :
    Calls Try.prog 74 #[.slice (some ⟨g, 0, none⟩) 2 2] w fun e w' => ∃ v, e = .returned v ∧ w'.ownsRow w.heap.size 62 2 v (l1.length + l2.length) (cv (l1 ++ l2)) ∧ Below w.heap.size w w' := by
  obtain ⟨i0, hi0, hz0, hz1, hz2⟩ := infoPartsT infoCe
  have Hi := hide hi0
  have H1 := hide h1
  have H2 := hide h2
  clear hi0 h1 h2
  go_enter Try.func74, Try.ntmps74
  go_wp2_with fail
  obtain ⟨n1, hn1⟩ : ∃ n1, n1 = l1.length := ⟨_, rfl⟩
  obtain ⟨n2, hn2⟩ : ∃ n2, n2 = l2.length := ⟨_, rfl⟩
  rw [← hn1] at q1
  rw [← hn2] at q2
  rw [← hn1, ← hn2] at h0 hl
  have HN1 := hide hn1
  have HN2 := hide hn2
  clear hn1 hn2
  go_loopw [3, 11] (fun s i w' => w' = w ∧ ((i = .int .i64 0 ∧ s = .int .i64 0) ∨ (i = .int .i64 1 ∧ s = .int .i64 (n1 : Int)) ∨ (i = .int .i64 2 ∧ s = .int .i64 ((n1 : Int) + (n2 : Int))))) (fun _ i _ => 2 - (intOf i).toNat)
  case atStart => exact ⟨rfl, .inl ⟨rfl, rfl⟩⟩
  case round =>
    obtain ⟨rfl, ⟨rfl, rfl⟩ | ⟨rfl, rfl⟩ | ⟨rfl, rfl⟩⟩ := hrel
    · go_wp2_with fail
      exact ⟨⟨trivial, .inr (.inl ⟨rfl, rfl⟩)⟩, by decide⟩
    · go_wp2_with fail
      exact ⟨⟨trivial, .inr (.inr ⟨rfl, rfl⟩)⟩, by decide⟩
    · go_wp2_with fail
      obtain ⟨N, hN⟩ : ∃ N, N = n1 + n2 := ⟨_, rfl⟩
      have hsum : (n1 : Int) + (n2 : Int) = (N : Int) := by omega
      rw [hsum]
      clear hsum
      refine (growC_any N (by omega) (by omega) _).mono ?_
      have HN := hide hN
      clear hN
      rintro e w1 ⟨g1, k1, rfl, ho1, hb1⟩
      have HO1 := hide ho1
      clear ho1
      obtain ⟨W0, hW0⟩ : ∃ W0, W0 = wr := ⟨_, rfl⟩
      subst hW0
      go_wp2_with fail
      go_loopw [6, 27] (fun v i w' => Below W0.heap.size W0 w' ∧ ((i = .int .i64 0 ∧ w'.ownsRow W0.heap.size 62 2 v 0 []) ∨ (i = .int .i64 1 ∧ w'.ownsRow W0.heap.size 62 2 v n1 (cv l1)) ∨ (i = .int .i64 2 ∧ w'.ownsRow W0.heap.size 62 2 v (n1 + n2) (cv l1 ++ cv l2)))) (fun _ i _ => 2 - (intOf i).toNat)
      case atStart => exact ⟨hb1, .inl ⟨rfl, HO1.out⟩⟩
      case round =>
        clear HO1 hb1
        obtain ⟨hBr, ⟨rfl, ho⟩ | ⟨rfl, ho⟩ | ⟨rfl, ho⟩⟩ := hrel
        · obtain ⟨va, vc, rfl⟩ := iOwn_form ho
          have HO := hide ho
          have s1 := (hBr.cell (p := ⟨g, 0, none⟩) hg).trans q1
          have HNw := hide (H1.out.below hBr).news
          have HCl := hide (cv_len l1)
          have M1 : Hid (0 + n1 ≤ maxLen) := hide (by unfold maxLen; omega)
          have hlo : W0.heap.size ≤ wr.heap.size := hBr.size
          have hne := HN1.out
          rw [← hne] at HCl
          have hob : ∀ k, (Value.slice va (0) vc).ownBlock = some k → W0.heap.size ≤ k := fun k hk => (HO.out.lt k hk).1
          have HOb := hide hob
          clear ho hne hob
          go_wp2_with (at_builtin; refine wpList_append_own _ rfl _ _ 23 rfl W0.heap.size 62 i0 (.agg #[.int .i64 0, .int .i64 0]) 2 16 Try.underlying23 Hi.out hz0 hz1 hz2 rfl (by decide) _ (0) ([]) rfl HO.out ⟨b1, o1, none⟩ n1 c1 (cv l1) rfl HCl.out HNw.out (cv_one _) M1.out (by omega) hlo ?_)
          intro v2 w2 hown2 hgrow2 _
          have hB2 : Below W0.heap.size W0 w2 := hBr.grown hgrow2 hlo (fun k hk => HOb.out k hk)
          have HO2 := hide hown2
          obtain ⟨va2, vc2, rfl⟩ := iOwn_form hown2
          clear hown2 hgrow2 HOb
          go_wp2_with fail
          exact ⟨⟨hB2, .inr (.inl ⟨rfl, HO2.out⟩)⟩, by decide⟩
        · obtain ⟨va, vc, rfl⟩ := iOwn_form ho
          have HO := hide ho
          have s1 := (hBr.cell (p := ⟨g, 1, none⟩) hg).trans q2
          have HNw := hide (H2.out.below hBr).news
          have HCl := hide (cv_len l2)
          have M1 : Hid (n1 + n2 ≤ maxLen) := hide (by unfold maxLen; omega)
          have hlo : W0.heap.size ≤ wr.heap.size := hBr.size
          have hne := HN2.out
          rw [← hne] at HCl
          have hob : ∀ k, (Value.slice va (n1) vc).ownBlock = some k → W0.heap.size ≤ k := fun k hk => (HO.out.lt k hk).1
          have HOb := hide hob
          clear ho hne hob
          go_wp2_with (at_builtin; refine wpList_append_own _ rfl _ _ 23 rfl W0.heap.size 62 i0 (.agg #[.int .i64 0, .int .i64 0]) 2 16 Try.underlying23 Hi.out hz0 hz1 hz2 rfl (by decide) _ n1 (cv l1) rfl HO.out ⟨b2, o2, none⟩ n2 c2 (cv l2) rfl HCl.out HNw.out (cv_one _) M1.out (by omega) hlo ?_)
          intro v2 w2 hown2 hgrow2 _
          have hB2 : Below W0.heap.size W0 w2 := hBr.grown hgrow2 hlo (fun k hk => HOb.out k hk)
          have HO2 := hide hown2
          obtain ⟨va2, vc2, rfl⟩ := iOwn_form hown2
          clear hown2 hgrow2 HOb
          go_wp2_with fail
          exact ⟨⟨hB2, .inr (.inr ⟨rfl, HO2.out⟩)⟩, by decide⟩
        · obtain ⟨va, vc, rfl⟩ := iOwn_form ho
          have HO := hide ho
          clear ho
          go_wp2_with fail
          go_ret
          exact ⟨_, rfl, by rw [← HN1.out, ← HN2.out, cv_app]; exact HO.out, hBr⟩

set_option maxRecDepth 20000 in
set_option maxHeartbeats 2000000 in
theorem eachWithEach_any (v1 v2 : Value) (d1 d2 : Nat) (A B : List (List Cc)) (w : World) (h1 : RR w d1 v1 A) (h2 : RR w d2 v2 B) (hA : ∀ l ∈ A, l ≠ [] ∧ l.length ≤ 2000) (hB : ∀ l ∈ B, l ≠ [] ∧ l.length ≤ 2000) (hn : A.length * B.length ≤ 200) (hA2 : A.length ≤ 200) (hB2 : B.length ≤ 200) :
    Calls Try.prog 62 #[v1, v2] w fun e w' => ∃ v', e = .returned v' ∧ RR w' w.heap.size v' (A.flatMap fun f => B.map fun b => f ++ b) ∧ Below w.heap.size w w' := by
  have H1 := hide h1
  have H2 := hide h2
  obtain ⟨a1, c1, rfl⟩ := h1.form
  obtain ⟨a2, c2, rfl⟩ := h2.form
  obtain ⟨i1, hi1, hz0, hz1, hz2⟩ := infoPartsT infoRr
  have Hi := hide hi1
  have HA := hide hA
  have HB := hide hB
  obtain ⟨AN, hAN⟩ : ∃ AN, AN = A.length := ⟨_, rfl⟩
  obtain ⟨BN, hBN⟩ : ∃ BN, BN = B.length := ⟨_, rfl⟩
  rw [← hAN, ← hBN] at hn
  rw [← hAN] at hA2 ⊢
  rw [← hBN] at hB2 ⊢
  have HAN := hide hAN
  have HBN := hide hBN
  have HMul := hide hn
  clear h1 h2 hi1 hA hB hAN hBN hn
  go_enter Try.func62, Try.ntmps62
  go_wp2_with fail
  go_loopw [5, 12] (fun v i w' => ∃ (P Q : List (List Cc)), A = P ++ Q ∧ i = .int .i64 (P.length : Int) ∧ RR w' w.heap.size v (P.flatMap fun f => B.map fun b => f ++ b) ∧ Below w.heap.size w w') (fun _ i _ => AN - (intOf i).toNat)
  case atStart => exact ⟨[], A, rfl, rfl, RR.nil _ _, Below.refl _ _⟩
  case round =>
    obtain ⟨P, Q, hPQ, rfl, hR, hB⟩ := hrel
    have HR := hide hR
    obtain ⟨va, vc, rfl⟩ := hR.form
    obtain ⟨RN, hRN⟩ : ∃ RN, RN = (P.flatMap fun f => B.map fun b => f ++ b).length := ⟨_, rfl⟩
    have hRl : RN = P.length * BN := by
      rw [hRN, HBN.out, List.length_flatMap]
      simp only [List.length_map, List.map_const', List.sum_replicate_nat]
    rw [← hRN] at HR ⊢
    have HRN := hide hRN
    clear hR hRN
    cases Q with
    | nil =>
      rw [List.append_nil] at hPQ
      subst hPQ
      have hl := HAN.out
      rw [← hl]
      clear hl hRl
      go_wp2_with fail
      go_ret
      exact ⟨_, rfl, HR.out, hB⟩
    | cons f Q =>
      have hlt : P.length < A.length := by rw [hPQ]; simp
      have hlt' : (P.length : Int) < (AN : Int) := by rw [HAN.out]; omega
      have hp0 : (0 : Int) ≤ (P.length : Int) := by omega
      have hfe : A[P.length] = f := by simp [hPQ]
      obtain ⟨hfn, hfl⟩ := HA.out f (by rw [hPQ]; simp)
      obtain ⟨g, cap, b, c, e1, hg, p0, hcc, hrow⟩ := H1.out.elem hlt (by rw [hfe]; exact hfn)
      simp only [Value.slice.injEq] at e1
      obtain ⟨rfl, -, rfl⟩ := e1
      rw [hfe] at p0 hcc hrow
      have q0 := (hB.cell (p := ⟨g, P.length, none⟩) hg).trans p0
      have hmul : (P.length + 1) * BN ≤ 200 := Nat.le_trans (Nat.mul_le_mul_right _ (show P.length + 1 ≤ AN by rw [HAN.out]; omega)) HMul.out
      rw [Nat.succ_mul] at hmul
      obtain ⟨FN, hFN⟩ : ∃ FN, FN = f.length := ⟨_, rfl⟩
      have hF0 : 0 < FN := by rw [hFN]; exact List.length_pos_iff.2 hfn
      obtain ⟨PN, hPN⟩ : ∃ PN, PN = P.length := ⟨_, rfl⟩
      rw [← hFN] at q0 hfl
      rw [← hPN] at hlt' hp0 q0 hRl hmul ⊢
      have HRow := hide hrow
      have HFN := hide hFN
      have HPN := hide hPN
      have HPQ : Hid (A = (P ++ [f]) ++ Q) := hide (by rw [hPQ]; simp)
      have HFm : Hid (((P ++ [f]).flatMap fun f => B.map fun b => f ++ b) = (P.flatMap fun f => B.map fun b => f ++ b) ++ B.map fun b => f ++ b) := hide (by rw [List.flatMap_append]; simp)
      have hR200 : RN + BN ≤ 200 := by omega
      clear hPQ hlt hfe hfn p0 hcc hrow hFN hPN hRl hmul
      obtain ⟨WB, hWB⟩ : ∃ WB, WB = wr := ⟨_, rfl⟩
      have HWb := hide (hWB ▸ hB)
      clear hWB
      go_wp2_with fail
      go_loopw [5, 18] (fun v i w' => ∃ (S T : List (List Cc)), B = S ++ T ∧ i = .int .i64 (S.length : Int) ∧ RR w' w.heap.size v ((P.flatMap fun f => B.map fun b => f ++ b) ++ S.map fun b => f ++ b) ∧ Below w.heap.size w w') (fun _ i _ => BN - (intOf i).toNat)
      case atStart => exact ⟨[], B, rfl, rfl, by rw [List.map_nil, List.append_nil]; exact HR.out, hB⟩
      case round =>
        clear HR hB
        obtain ⟨S, T, hST, rfl, hR, hB⟩ := hrel
        have HR := hide hR
        obtain ⟨va, vc, rfl⟩ := hR.form
        obtain ⟨ON, hON⟩ : ∃ ON, ON = ((P.flatMap fun f => B.map fun b => f ++ b) ++ S.map fun b => f ++ b).length := ⟨_, rfl⟩
        have hOl : ON = RN + S.length := by rw [hON, List.length_append, List.length_map, ← HRN.out]
        rw [← hON] at HR ⊢
        have HON := hide hON
        clear hR hON q0
        cases T with
        | nil =>
          rw [List.append_nil] at hST
          subst hST
          have hl := HBN.out
          rw [← hl]
          clear hl hOl
          go_wp2_with fail
          exact ⟨⟨P ++ [f], Q, HPQ.out, by rw [List.length_append, List.length_singleton, ← HPN.out]; go_num, by rw [HFm.out]; exact HR.out, hB⟩, by simp [intOf]; omega⟩
        | cons u T =>
          have hlt2 : S.length < B.length := by rw [hST]; simp
          have hlt2' : (S.length : Int) < (BN : Int) := by rw [HBN.out]; omega
          have hs0 : (0 : Int) ≤ (S.length : Int) := by omega
          have hue : B[S.length] = u := by simp [hST]
          obtain ⟨hun, hul⟩ := HB.out u (by rw [hST]; simp)
          obtain ⟨g2, cap2, b2, c2', e2, hg2, p2, hcc2, hrow2⟩ := H2.out.elem hlt2 (by rw [hue]; exact hun)
          simp only [Value.slice.injEq] at e2
          obtain ⟨rfl, -, rfl⟩ := e2
          rw [hue] at p2 hcc2 hrow2
          have q2 := (hB.cell (p := ⟨g2, S.length, none⟩) hg2).trans p2
          obtain ⟨UN, hUN⟩ : ∃ UN, UN = u.length := ⟨_, rfl⟩
          obtain ⟨SN, hSN⟩ : ∃ SN, SN = S.length := ⟨_, rfl⟩
          rw [← hUN] at q2 hul
          rw [← hSN] at hlt2' hs0 q2 hOl ⊢
          have HUN := hide hUN
          have HSN := hide hSN
          have HST : Hid (B = (S ++ [u]) ++ T) := hide (by rw [hST]; simp)
          have hO2 : ON + 1 ≤ 200 := by have := HBN.out; omega
          have HC := hide (concat2_any wr.heap.size b 0 c b2 0 c2' f u (wr.alloc (.cells #[.slice (some ⟨b, 0, none⟩) FN c, .slice (some ⟨b2, 0, none⟩) UN c2'] 23)) (by rw [← HFN.out]; omega) (by rw [← HFN.out, ← HUN.out]; omega) (by simp) (by rw [cell_of_blk (heap_alloc_new _ _), ← HFN.out]; rfl) (by rw [cell_of_blk (heap_alloc_new _ _), ← HUN.out]; rfl) (.inr ⟨b, 0, rfl, (HRow.out.below hB).below ((Below.refl _ _).alloc (Nat.le_refl _) _)⟩) (.inr ⟨b2, 0, rfl, (hrow2.below hB).below ((Below.refl _ _).alloc (Nat.le_refl _) _)⟩))
          obtain ⟨xs, ho1, ho2⟩ := HR.out
          rw [← HON.out] at ho1
          have HO1 := hide ho1
          have HO2 := hide ho2
          have hol : ∀ q, (Value.slice va ON vc).ownBlock = some q → w.heap.size ≤ q := fun q hq => (HO1.out.lt q hq).1
          have HOl := hide hol
          clear hST hlt2 hue hun p2 hcc2 hrow2 hUN hSN hOl ho1 ho2 hol
          go_wp2_with fail
          refine Calls.mono HC.out ?_
          rintro e w5 ⟨v5, rfl, ho5, hb5⟩
          have hb5' : Below wr.heap.size wr w5 := ((Below.refl _ wr).alloc (Nat.le_refl _) _).trans (hb5.mono (by simp))
          have hB5 : Below w.heap.size w w5 := hB.trans (hb5'.mono hB.size)
          have ho5' : w5.ownsRow wr.heap.size 62 2 v5 (f ++ u).length (cv (f ++ u)) := by rw [List.length_append]; exact iOwn_lower ho5 (by simp)
          obtain ⟨a5, c5, rfl⟩ := iOwn_form ho5'
          obtain ⟨VN, hVN⟩ : ∃ VN, VN = (f ++ u).length := ⟨_, rfl⟩
          rw [← hVN]
          rw [← hVN] at ho5'
          have HVN := hide hVN
          have HO5 := hide ho5'
          have HB5 := hide hb5'
          have hs5 := hB5.size
          have HOA := hide (tOwn_keep HO1.out (fun k _ hk => hb5'.block k hk))
          clear HC ho5 hb5 ho5' hb5' hVN q2
          go_wp2_with (at_builtin; refine wpList_append_own _ rfl _ _ 40 rfl w.heap.size 23 i1 (.slice none 0 0) 1 24 Try.underlying40 Hi.out hz0 hz1 hz2 rfl (by decide) _ ON xs rfl (HOA.out.alloc _) ⟨w5.heap.size, 0, none⟩ 1 1 [.slice a5 VN c5] rfl rfl (rr_cell1 _ _ _) (by simp [Value.oneCell']) (by unfold maxLen; omega) (by omega) (by simp; omega) ?_)
          intro v6 w6 hown6 hgr6 _
          have hbA : Below wr.heap.size wr (w5.alloc (.cells #[.slice a5 VN c5] 23)) := HB5.out.alloc HB5.out.size _
          have hB6 : Below w.heap.size w w6 := (hB5.alloc hB5.size (.cells #[.slice a5 VN c5] 23)).grown hgr6 (by simp; omega) (fun q hq => HOl.out q hq)
          have HRR : Hid (RR w6 w.heap.size v6 (((P.flatMap fun f => B.map fun b => f ++ b) ++ S.map fun b => f ++ b) ++ [f ++ u])) := hide (RR.snoc (by rw [← HON.out]; exact HO1.out) HO2.out hbA hB.size (World.ownsRow.alloc (by rw [← HVN.out]; exact HO5.out) _) (by rw [← HON.out]; exact hown6) hgr6)
          obtain ⟨va6, vc6, rfl⟩ := iOwn_form hown6
          clear hown6 hgr6 hbA HOA HO5 HB5
          go_wp2_with fail
          exact ⟨⟨S ++ [u], T, HST.out, by rw [List.length_append, List.length_singleton, ← HSN.out]; go_num, by rw [List.map_append, List.map_singleton, ← List.append_assoc]; exact HRR.out, hB6⟩, by simp [intOf]; omega⟩
end Go.Proofs.Ytjmgnljjeogdlaa.W

/-
  Whether a row is one of some rows: contracts of slices.Equal, slices.IndexFunc, slices.ContainsFunc and hasTerm. Conditions: at most 1048576 cells a row.
-/
namespace Go.Proofs.Ytjmgnljjeogdlaa.W
open Go.ChangeShapes Go.WideShapes Go.ChangeAt Go.RowKit
set_option linter.unusedVariables false

set_option maxRecDepth 20000 in
set_option maxHeartbeats 2000000 in
theorem equalC_any (a1 a2 : Option Addr) (c1 c2 : Nat) (l1 l2 : List Cc) (w : World) (hl1 : l1.length ≤ 1048576) (hl2 : l2.length ≤ 1048576) (h1 : CRow w a1 l1) (h2 : CRow w a2 l2) :
    Calls Try.prog 67 #[.slice a1 l1.length c1, .slice a2 l2.length c2] w fun e w' => e = .returned (.bool (sameR l1 l2)) ∧ Below w.heap.size w w' := by
  have H1 := hide h1
  have H2 := hide h2
  clear h1 h2
  obtain ⟨R, hR⟩ : ∃ R, R = sameR l1 l2 := ⟨_, rfl⟩
  rw [← hR]
  have HR := hide hR
  clear hR
  by_cases hlen : l1.length = l2.length
  · have hlen' : (l1.length : Int) = (l2.length : Int) := by omega
    rw [← hlen]
    clear hlen'
    go_enter Try.func67, Try.ntmps67
    have HL := hide hlen
    clear hlen hl2
    go_wp2_with fail
    go_loopw [13] (fun i w' => ∃ j : Nat, j ≤ l1.length ∧ i = .int .i64 j ∧ R = sameR (l1.drop j) (l2.drop j) ∧ Below w.heap.size w w') (fun i _ => l1.length - (intOf i).toNat)
    case atStart => exact ⟨0, by omega, rfl, by rw [HR.out]; rfl, Below.refl _ _⟩
    case round =>
      obtain ⟨j, hj, rfl, hr, hB⟩ := hrel
      by_cases hlt : j < l1.length
      · have hlt' : (j : Int) < (l1.length : Int) := by omega
        have hlt2 : j < l2.length := by have := HL.out; omega
        obtain ⟨b, o, rfl, hb, p0, p1⟩ := H1.out.tok hB hlt
        obtain ⟨b', o', rfl, hb', q0, q1⟩ := H2.out.tok hB hlt2
        rw [List.drop_eq_getElem_cons hlt, List.drop_eq_getElem_cons hlt2] at hr
        obtain ⟨x, hx⟩ : ∃ x, x = l1[j] := ⟨_, rfl⟩
        obtain ⟨y, hy⟩ : ∃ y, y = l2[j] := ⟨_, rfl⟩
        rw [← hx] at p0 p1 hr
        rw [← hy] at q0 q1 hr
        have hs : R = (decide (x.k = y.k) && (decide (x.n = y.n) && sameR (l1.drop (j + 1)) (l2.drop (j + 1)))) := hr
        have HS := hide hs
        clear hx hy hr hs H1 H2
        by_cases hxy : x.k = y.k ∧ x.n = y.n
        · obtain ⟨e1, e2⟩ := hxy
          rw [e1] at p0 
          rw [e2] at p1
          go_wp2_with fail
          go_quiet (fail)
          go_wp2_with fail
          refine ⟨⟨j + 1, by omega, by go_num, ?_, ⟨hB.os, hB.tape, hB.output, hB.size, hB.block⟩⟩, by simp [intOf]; omega⟩
          rw [HS.out, decide_eq_true e1, decide_eq_true e2]; rfl
        · have hf : R = false := by
            rw [HS.out]
            by_cases h1 : x.k = y.k
            · have h2 : ¬ x.n = y.n := fun h => hxy ⟨h1, h⟩
              rw [decide_eq_false h2]; simp
            · rw [decide_eq_false h1]; simp
          subst hf
          clear HS HR
          by_cases h1 : x.k = y.k
          · have h2 : (x.n == y.n) = false := by simpa using fun h => hxy ⟨h1, h⟩
            rw [h1] at p0
            clear hxy h1
            go_wp2_with fail
            go_quiet (fail)
            go_wp2_with fail
            go_ret
            exact ⟨rfl, ⟨hB.os, hB.tape, hB.output, hB.size, hB.block⟩⟩
          · have h2 : (x.k == y.k) = false := by simpa using h1
            clear hxy h1
            go_wp2_with fail
            go_quiet (fail)
            go_wp2_with fail
            go_ret
            exact ⟨rfl, ⟨hB.os, hB.tape, hB.output, hB.size, hB.block⟩⟩
      · obtain rfl : j = l1.length := by omega
        have hl2 : l2.length = l1.length := HL.out.symm
        have hf : R = true := by rw [hr, List.drop_length, List.drop_eq_nil_of_le (by omega)]; rfl
        subst hf
        clear hl2 hr HR
        go_wp2_with fail
        go_ret
        exact ⟨rfl, hB⟩
  · have hf : R = false := by
      rw [HR.out, ← Bool.not_eq_true, sameR_iff]
      intro e
      exact hlen (by rw [e])
    subst hf
    have hlen' : ¬ (l1.length : Int) = (l2.length : Int) := by omega
    have hlb : ((l1.length : Int) == (l2.length : Int)) = false := by simp; omega
    have hlb2 : ((l1.length : Int) != (l2.length : Int)) = true := by simp; omega
    go_enter Try.func67, Try.ntmps67
    go_wp2_with fail
    go_ret
    exact ⟨rfl, Below.refl _ _⟩

/-- Whether a row is one of these. -/
def hasR (L : List (List Cc)) (t : List Cc) : Bool := L.any fun l => sameR l t
theorem hasR_at {L : List (List Cc)} {t : List Cc} {j : Nat} (h : j < L.length) : hasR (L.drop j) t = (sameR L[j] t || hasR (L.drop (j + 1)) t) := by
  unfold hasR; rw [List.drop_eq_getElem_cons h]; rfl

set_option maxRecDepth 20000 in
set_option maxHeartbeats 2000000 in
theorem indexTerm_any (v : Value) (base : Nat) (L : List (List Cc)) (ta : Option Addr) (tc T : Nat) (t : List Cc) (w : World) (hv : RR w base v L) (hL : L.length ≤ 1048576) (hne : ∀ l ∈ L, l ≠ [] ∧ l.length ≤ 2000) (ht : CRow w ta t) (htl : t.length ≤ 1048576) (hT : T < w.heap.size) (hc : w.cell? ⟨T, 0, none⟩ = some (.slice ta t.length tc)) :
    Calls Try.prog 83 #[v, .func (.func 66) #[] #[.pointer (some ⟨T, 0, none⟩)]] w fun e w' => ∃ r : Int, e = .returned (.int .i64 r) ∧ hasR L t = decide (0 ≤ r) ∧ Below w.heap.size w w' := by
  have HR := hide hv
  obtain ⟨ad, c, rfl⟩ := hv.form
  have HNe := hide hne
  have HT := hide ht
  obtain ⟨TN, hTN⟩ : ∃ TN, TN = t.length := ⟨_, rfl⟩
  rw [← hTN] at hc htl
  have HTN := hide hTN
  obtain ⟨LN, hLN⟩ : ∃ LN, LN = L.length := ⟨_, rfl⟩
  rw [← hLN] at hL HR ⊢
  have HLN := hide hLN
  clear hv hne ht hTN hLN
  go_enter Try.func83, Try.ntmps83
  go_wp2_with fail
  go_loopw [8] (fun i w' => ∃ j : Nat, j ≤ LN ∧ i = .int .i64 j ∧ hasR L t = hasR (L.drop j) t ∧ Below w.heap.size w w') (fun i _ => LN - (intOf i).toNat)
  case atStart => exact ⟨0, by omega, rfl, rfl, Below.refl _ _⟩
  case round =>
    obtain ⟨j, hj, rfl, hG, hB⟩ := hrel
    have HG := hide hG
    clear hG
    by_cases hlt : j < LN
    · have hlt' : (j : Int) < (LN : Int) := by omega
      have hj0 : (0 : Int) ≤ (j : Int) := by omega
      have hlt2 : j < L.length := by rw [← HLN.out]; exact hlt
      have HAt := hide (hasR_at (t := t) hlt2)
      obtain ⟨hn1, hn2⟩ := HNe.out _ (List.getElem_mem hlt2)
      obtain ⟨g, cap, b, c', e1, hg, p0, hcc, hrow⟩ := HR.out.elem hlt2 hn1
      simp only [Value.slice.injEq] at e1
      obtain ⟨rfl, -, rfl⟩ := e1
      obtain ⟨l, hl⟩ : ∃ l, l = L[j] := ⟨_, rfl⟩
      rw [← hl] at p0 hcc hrow hn2 HAt
      have q0 := (hB.cell (p := ⟨g, j, none⟩) hg).trans p0
      have q1 := (hB.cell (p := ⟨T, 0, none⟩) hT).trans hc
      have HE := hide (equalC_any (some ⟨b, 0, none⟩) ta c' tc l t wr (by omega) (by rw [← HTN.out]; exact htl) (.inr ⟨b, 0, rfl, hrow.below hB⟩) (HT.out.below hB))
      obtain ⟨NL, hNL⟩ : ∃ NL, NL = sameR l t := ⟨_, rfl⟩
      obtain ⟨ln, hln⟩ : ∃ ln, ln = l.length := ⟨_, rfl⟩
      have htn := HTN.out
      rw [← hNL, ← hln, ← htn] at HE
      rw [← hNL] at HAt
      rw [← hln] at q0
      clear hNL hl hn1 hn2 p0 hcc hrow hlt2 hln htn
      go_wp2_with fail
      have HC : Hid (Calls Try.prog 66 #[.slice (some ⟨b, 0, none⟩) ln c', .pointer (some ⟨T, 0, none⟩)] wr fun e w' => e = .returned (.bool NL) ∧ Below wr.heap.size wr w') := by
        refine hide ?_
        clear HAt HG
        go_enter Try.func66, Try.ntmps66
        go_wp2_with fail
        refine Calls.mono HE.out ?_
        rintro e w2 ⟨rfl, hb⟩
        go_wp2_with fail
        go_ret
        exact ⟨rfl, hb⟩
      refine Calls.mono HC.out ?_
      rintro e w2 ⟨rfl, hb2⟩
      have hB2 : Below w.heap.size w w2 := hB.trans (hb2.mono hB.size)
      clear HC HE hb2 q0 q1
      cases NL with
      | true =>
        have hg := hide (show hasR L t = true by rw [HG.out, HAt.out]; rfl)
        clear HG HAt
        go_wp2_with fail
        go_ret
        exact ⟨_, rfl, by rw [hg.out]; simp, hB2⟩
      | false =>
        have hg := hide (show hasR L t = hasR (L.drop (j + 1)) t by rw [HG.out, HAt.out]; rfl)
        clear HG HAt
        go_wp2_with fail
        exact ⟨⟨j + 1, by omega, by go_num, hg.out, hB2⟩, by simp [intOf]; omega⟩
    · obtain rfl : j = LN := by omega
      have hg := hide (show hasR L t = false by rw [HG.out, HLN.out, List.drop_length]; rfl)
      clear HG
      go_wp2_with fail
      go_ret
      exact ⟨_, rfl, by rw [hg.out]; rfl, hB⟩

set_option maxRecDepth 20000 in
set_option maxHeartbeats 1000000 in
theorem containsTerm_any (v : Value) (base : Nat) (L : List (List Cc)) (ta : Option Addr) (tc T : Nat) (t : List Cc) (w : World) (hv : RR w base v L) (hL : L.length ≤ 1048576) (hne : ∀ l ∈ L, l ≠ [] ∧ l.length ≤ 2000) (ht : CRow w ta t) (htl : t.length ≤ 1048576) (hT : T < w.heap.size) (hc : w.cell? ⟨T, 0, none⟩ = some (.slice ta t.length tc)) :
    Calls Try.prog 65 #[v, .func (.func 66) #[] #[.pointer (some ⟨T, 0, none⟩)]] w fun e w' => e = .returned (.bool (hasR L t)) ∧ Below w.heap.size w w' := by
  have HC := hide (indexTerm_any v base L ta tc T t w hv hL hne ht htl hT hc)
  obtain ⟨ad, c, rfl⟩ := hv.form
  obtain ⟨G, hG⟩ : ∃ G, G = hasR L t := ⟨_, rfl⟩
  obtain ⟨LN, hLN⟩ : ∃ LN, LN = L.length := ⟨_, rfl⟩
  rw [← hLN] at HC ⊢
  rw [← hG] at HC ⊢
  clear hne hG hv ht hc hLN
  go_enter Try.func65, Try.ntmps65
  go_wp2_with fail
  refine Calls.mono HC.out ?_
  rintro e w1 ⟨r, rfl, hr, hb⟩
  have Hr := hide hr
  clear hr HC
  go_wp2_with fail
  go_ret
  exact ⟨ret_bool (by rw [Hr.out]), hb⟩

set_option maxRecDepth 20000 in
set_option maxHeartbeats 1000000 in
theorem hasTerm_any (v : Value) (base : Nat) (L : List (List Cc)) (ta : Option Addr) (tc : Nat) (t : List Cc) (w : World) (hv : RR w base v L) (hL : L.length ≤ 1048576) (hne : ∀ l ∈ L, l ≠ [] ∧ l.length ≤ 2000) (ht : CRow w ta t) (htl : t.length ≤ 1048576) :
    Calls Try.prog 37 #[v, .slice ta t.length tc] w fun e w' => e = .returned (.bool (hasR L t)) ∧ Below w.heap.size w w' := by
  have hb1 : Below w.heap.size w (w.alloc (.cells #[.slice ta t.length tc] 23)) := (Below.refl _ _).alloc (Nat.le_refl _) _
  have HC := hide (containsTerm_any v base L ta tc w.heap.size t (w.alloc (.cells #[.slice ta t.length tc] 23)) (hv.below hb1) hL hne (ht.below hb1) htl (by simp) (by rw [cell_of_blk (heap_alloc_new _ _)]; rfl))
  obtain ⟨ad, c, rfl⟩ := hv.form
  obtain ⟨G, hG⟩ : ∃ G, G = hasR L t := ⟨_, rfl⟩
  obtain ⟨LN, hLN⟩ : ∃ LN, LN = L.length := ⟨_, rfl⟩
  obtain ⟨TN, hTN⟩ : ∃ TN, TN = t.length := ⟨_, rfl⟩
  rw [← hLN] at HC ⊢
  rw [← hTN] at HC hb1 ⊢
  rw [← hG] at HC ⊢
  have HB1 := hide hb1
  clear hne hG hv ht hLN hTN hb1 hL htl
  go_enter Try.func37, Try.ntmps37
  go_wp2_with fail
  refine Calls.mono HC.out ?_
  rintro e w1 ⟨rfl, hb⟩
  have HBb := hide (HB1.out.trans (hb.mono HB1.out.size))
  clear HC hb
  go_wp2_with fail
  go_ret
  exact ⟨rfl, HBb.out⟩
end Go.Proofs.Ytjmgnljjeogdlaa.W

/-
  Redexes and what they come to, each once: a contract of withContracted. Conditions: redexes whose parts were made by what leads there, at most 200 of at most 600 cells.
-/
namespace Go.Proofs.Ytjmgnljjeogdlaa.W
open Go.ChangeShapes Go.WideShapes Go.ChangeAt Go.RowKit
set_option linter.unusedVariables false

theorem run_append_old {P : Program} (w : World) (base : Nat) (t ty e : TypeId) (i : TypeInfo) (z : Value) (size bytes : Nat) (ht : P.underlying t = some (.slice e)) (hi : P.info? e = some i) (hz : i.zero = some z)
    (hsize : i.size = size) (hby : i.bytes = bytes) (hzs : z.cells.size = size) (hsz : 0 < size)
    (v : Value) (n : Nat) (xs : List Value) (hown : w.ownsRow base e size v n xs)
    (a : Addr) (m c : Nat) (news : List Value) (hl : news.length = m * size) (hnews : ∀ j u, news[j]? = some u → w.cell? (a.add j) = some u) (h1 : ∀ u ∈ news, u.oneCell' = true)
    (h63 : n + m ≤ maxLen) (hbytes : (n + m) * bytes ≤ 140737488355328) (hbase : base ≤ w.heap.size) :
    ∃ v' w', (Builtin.append_ #[t, t] ty #[v, .slice (some a) m c]).run P w = .ok v' w' ∧ w'.ownsRow base e size v' (n + m) (xs ++ news) ∧ w.grownBy w' v.ownBlock ∧ ∀ g, v.ownBlock = some g → ∀ j u, xs[j]? = some u → w'.cell? ⟨g, j, none⟩ = some u := by
  obtain ⟨v', w', hr, h2, h3, h4⟩ := run_append_own (P := P) w base t ty e i z size bytes ht hi hz hsize hby hzs hsz v n xs hown a m c news hl hnews h1 h63 hbytes hbase
  refine ⟨v', w', hr, h2, h3, ?_⟩
  rcases hown.2 with ⟨rfl, rfl⟩ | ⟨g, cap, cur, rfl, hbg, hg, hnc, hcm, hcs, htake⟩
  · intro g hg; cases hg
  · subst hsize
    subst hby
    intro g0 hg0 j u hu
    simp only [Value.ownBlock, Option.some.injEq] at hg0
    subst hg0
    by_cases hroom : n + m ≤ cap
    · have hfit : n * i.size + news.length ≤ cur.size := by rw [hl, hcs, ← Nat.add_mul]; exact Nat.mul_le_mul_right _ hroom
      have hr2 := run_append_room (P := P) w t ty e i ht hi g n cap cur hg a m c news hl hnews h1 hroom hfit
      have he := hr.symm.trans hr2
      injection he with e1 e2
      subst e1
      have := h2.cells (g := g) rfl j u (by rw [List.getElem?_append_left ((List.getElem?_eq_some_iff.1 hu).1)]; exact hu)
      rw [iAdd, Nat.zero_add] at this
      exact this
    · have holds : ∀ j u, xs[j]? = some u → w.cell? ((⟨g, 0, none⟩ : Addr).add j) = some u := hown.cells (g := g) rfl
      have hsmall : n + m ≤ 9223372036854775807 := by simp only [maxLen] at h63; omega
      have hr2 := run_append_grow (P := P) w t ty e i z ht hi hz ⟨g, 0, none⟩ n cap xs hown.1 holds a m c news hl hnews (by omega) (by omega) (growslice_fits (by omega) hbytes)
      have he := hr.symm.trans hr2
      injection he with e1 e2
      rw [e2]
      have hlt : g < w.heap.size := (Array.getElem?_eq_some_iff.1 hg).1
      have h9 := holds j u hu
      rw [iAdd, Nat.zero_add] at h9
      exact (World.cell?_of_block (a := ⟨g, j, none⟩) (heap_alloc_old w.drew _ hlt)).trans h9

theorem wpList_append_old {P : Program} {w : World} {ops : Array Oper} {rest : List Oper} {o : Oper} {a : Act} {Q : Exit → Act → World → Prop} (hgd : o.guard = none) (s x : Operand) (t : TypeId)
    (ho : o.op = .call { callee := .builtin .append, args := #[s, x], argTypes := #[t, t] })
    (base : Nat) (e : TypeId) (i : TypeInfo) (z : Value) (size bytes : Nat) (ht : P.underlying t = some (.slice e)) (hi : P.info? e = some i) (hz : i.zero = some z)
    (hsize : i.size = size) (hby : i.bytes = bytes) (hzs : z.cells.size = size) (hsz : 0 < size)
    (v : Value) (n : Nat) (xs : List Value) (hs : a.eval s = v) (hown : w.ownsRow base e size v n xs)
    (ad : Addr) (m c : Nat) (news : List Value) (hx : a.eval x = .slice (some ad) m c) (hl : news.length = m * size) (hnews : ∀ j u, news[j]? = some u → w.cell? (ad.add j) = some u) (h1 : ∀ u ∈ news, u.oneCell' = true)
    (h63 : n + m ≤ maxLen) (hbytes : (n + m) * bytes ≤ 140737488355328) (hbase : base ≤ w.heap.size)
    (h : ∀ v' w', w'.ownsRow base e size v' (n + m) (xs ++ news) → w.grownBy w' v.ownBlock → (∀ g, v.ownBlock = some g → ∀ j u, xs[j]? = some u → w'.cell? ⟨g, j, none⟩ = some u) → wpList P ops Q rest (a.put o.dst v') w') : wpList P ops Q (o :: rest) a w :=
  wpList_plain hgd fun _ hK => by
    obtain ⟨v', w', hr, h2, h3, h4⟩ := run_append_old (P := P) w base t o.type e i z size bytes ht hi hz hsize hby hzs hsz v n xs hown ad m c news hl hnews h1 h63 hbytes hbase
    unfold Oper.wp execOp
    simp only [ho, resolve, invoke, builtin, Sem.run_bind, Sem.run_pure, Result.andThen_ok, List.map_toArray, List.map_cons, List.map_nil, hs, hx, hr]
    exact hK _ _ (h v' w' h2 h3 h4)

/-- A term's row. -/
def rw_ (p : Cc × F) : List Cc := p.1 :: p.2.flat
theorem hasR_ldA (out : List (Cc × F)) (p : Cc × F) : ldA out p = if hasR (out.map rw_) (rw_ p) = true then out else out ++ [p] := by
  unfold ldA hasR
  rw [List.any_map]
  rfl
/-- A growing row of rows whose first ones are read at their old place, too. -/
def GR (w : World) (base g n : Nat) (v : Value) (L : List (List Cc)) (xs : List Value) : Prop :=
  w.ownsRow base 23 1 v L.length xs ∧ (∀ j (h : j < L.length), ∃ x, xs[j]? = some x ∧ w.ownsRow base 62 2 x L[j].length (cv L[j])) ∧ (∀ j u, j < n → xs[j]? = some u → w.cell? ⟨g, j, none⟩ = some u) ∧ n ≤ L.length
theorem GR.rr {w : World} {base g n : Nat} {v : Value} {L : List (List Cc)} {xs : List Value} (h : GR w base g n v L xs) : RR w base v L := ⟨xs, h.1, h.2.1⟩
theorem GR.below {w w' : World} {base g n : Nat} {v : Value} {L : List (List Cc)} {xs : List Value} (h : GR w base g n v L xs) (hg : g < w.heap.size) (hb : Below w.heap.size w w') : GR w' base g n v L xs := by
  obtain ⟨h1, h2, h3, h4⟩ := h
  refine ⟨tOwn_keep h1 (fun k _ hk => hb.block k hk), fun j hj => ?_, fun j u hj hu => (hb.cell (p := ⟨g, j, none⟩) hg).trans (h3 j u hj hu), h4⟩
  obtain ⟨x, h5, h6⟩ := h2 j hj
  exact ⟨x, h5, tOwn_keep h6 (fun k _ hk => hb.block k hk)⟩
theorem GR.elem {w : World} {base g n : Nat} {v : Value} {L : List (List Cc)} {xs : List Value} (h : GR w base g n v L xs) {j : Nat} (hj : j < n) {l : List Cc} (hl : L[j]? = some l) (hne : l ≠ []) : ∃ b c, w.cell? ⟨g, j, none⟩ = some (.slice (some ⟨b, 0, none⟩) l.length c) ∧ l.length ≤ c ∧ CRowAt w b 0 l := by
  obtain ⟨h1, h2, h3, h4⟩ := h
  have hj2 : j < L.length := (List.getElem?_eq_some_iff.1 hl).1
  have he : L[j] = l := (List.getElem?_eq_some_iff.1 hl).2
  obtain ⟨x, h5, h6⟩ := h2 j hj2
  rw [he] at h6
  obtain ⟨ad, c, rfl, hc, hr⟩ := cOwn_row h6
  obtain ⟨b, cp, e5, -, -⟩ := tOwn_some h6 (List.length_pos_iff.2 hne)
  simp only [Value.slice.injEq] at e5
  obtain ⟨rfl, -, rfl⟩ := e5
  refine ⟨b, c, h3 j _ hj h5, hc, ?_⟩
  rcases hr with h0 | ⟨b', o', h7, h8⟩
  · exact absurd h0 hne
  · simp only [Option.some.injEq, Addr.mk.injEq] at h7
    obtain ⟨rfl, rfl, -⟩ := h7
    exact h8
theorem GR.snoc {w w1 w2 : World} {base g n b1 : Nat} {v v' x : Value} {L : List (List Cc)} {l : List Cc} {xs : List Value} (h : GR w base g n v L xs) (hgl : g < w.heap.size) (hb1 : Below w.heap.size w w1) (hb : base ≤ b1) (hx : w1.ownsRow b1 62 2 x l.length (cv l))
    (hown : w2.ownsRow base 23 1 v' (L.length + 1) (xs ++ [x])) (hg : w1.grownBy w2 v.ownBlock) (hold : ∀ g, v.ownBlock = some g → ∀ j u, xs[j]? = some u → w2.cell? ⟨g, j, none⟩ = some u) : GR w2 base g n v' (L ++ [l]) (xs ++ [x]) := by
  have h' := h.below hgl hb1
  obtain ⟨h1, h2, h3, h4⟩ := h
  obtain ⟨xs2, h5, h6⟩ := RR.snoc h1 h2 hb1 hb hx hown hg
  have hlen : xs.length = L.length := by have := h1.1; omega
  have he : xs2 = xs ++ [x] := by
    have e1 := h5.2
    have e2 := hown.2
    rw [List.length_append, List.length_singleton] at e1
    rcases e1 with ⟨-, e1⟩ | ⟨g1, c1, cur1, rfl, -, hh1, -, -, -, t1⟩
    · omega
    · rcases e2 with ⟨-, e2⟩ | ⟨g2, c2, cur2, e3, -, hh2, -, -, -, t2⟩
      · omega
      · simp only [Value.slice.injEq, Option.some.injEq, Addr.mk.injEq] at e3
        obtain ⟨⟨rfl, -, -⟩, -, rfl⟩ := e3
        rw [hh1] at hh2
        simp only [Option.some.injEq, Obj.cells.injEq] at hh2
        obtain ⟨rfl, -⟩ := hh2
        rw [← t1, ← t2]
  subst he
  refine ⟨h5, h6, fun j u hj hu => ?_, by rw [List.length_append]; omega⟩
  rw [List.getElem?_append_left (by omega)] at hu
  by_cases e : v.ownBlock = some g
  · exact hold g e j u hu
  · exact (World.cell?_of_block (a := ⟨g, j, none⟩) (hg.block g (Nat.lt_of_lt_of_le hgl hb1.size) (fun h => e h.symm))).trans (h'.2.2.1 j u hj hu)
/-- What withContracted tells. -/
def WC (w' : World) (base : Nat) (r : Option (List (Cc × F))) (e : Ending) : Prop :=
  match r with
  | none => e = .returned (.tuple #[.slice none 0 0, .bool false])
  | some out => ∃ v', e = .returned (.tuple #[v', .bool true]) ∧ RR w' base v' (out.map rw_)
theorem ldE_cons (x : Cc) (out : List (Cc × F)) (u : F) (r : List F) : ldE x out (u :: r) = match ctrO x u with | none => none | some p => if 200 < (ldA out p).length then none else ldE x (ldA out p) r := by rw [ldE]; rfl

set_option maxRecDepth 20000 in
set_option maxHeartbeats 4000000 in
theorem withContracted_any {B : Int} (hB0 : 0 ≤ B) (hB9 : B ≤ 900000) (x : Cc) (ws : List F) (v : Value) (base : Nat) (w : World) (hR : RR w base v ((ws.map fun u => (x, u)).map rw_)) (hbase : base ≤ w.heap.size) (hred : ∀ u ∈ ws, RedW x u B) (h6 : ∀ u ∈ ws, u.flat.length + 1 ≤ 600) (hl : ws.length ≤ 200) (h0 : 0 < ws.length) :
    Calls Try.prog 64 #[v] w fun e w' => WC w' base (ldE x (ws.map fun u => (x, u)) ws) e ∧ Below base w w' := by
  obtain ⟨xs0, ho0, he0⟩ := hR
  obtain ⟨L0, hL0⟩ : ∃ L0, L0 = ws.map fun u => (x, u) := ⟨_, rfl⟩
  rw [← hL0] at ho0 he0 ⊢
  have hLl : L0.length = ws.length := by rw [hL0, List.length_map]
  obtain ⟨g, cap, rfl, hgb, hgl, hcell⟩ := tOwn_lies ho0 (by rw [List.length_map]; omega)
  have HGR : Hid (GR w base g ws.length (.slice (some ⟨g, 0, none⟩) (L0.map rw_).length cap) (L0.map rw_) xs0) := hide ⟨ho0, he0, fun j u _ hu => hcell j u hu, by rw [List.length_map, hLl]; exact Nat.le_refl _⟩
  have HL0 : Hid (∀ (P : List F) (u : F) (Q : List F), ws = P ++ u :: Q → (L0.map rw_)[P.length]? = some (x :: u.flat)) := hide (fun P u Q h => by rw [hL0, h]; simp [rw_])
  have HN0 : Hid (∀ p ∈ L0, (rw_ p).length ≤ 600) := hide (fun p hp => by
    rw [hL0, List.mem_map] at hp
    obtain ⟨u, hu, rfl⟩ := hp
    exact h6 u hu)
  obtain ⟨i1, hi1, hz0, hz1, hz2⟩ := infoPartsT infoRr
  have Hi := hide hi1
  have HRed := hide hred
  have H6 := hide h6
  obtain ⟨WN, hWN⟩ : ∃ WN, WN = ws.length := ⟨_, rfl⟩
  have eN : (L0.map rw_).length = WN := by rw [List.length_map, hLl, hWN]
  rw [← hWN] at HGR hl h0
  rw [eN] at HGR ⊢
  have HWN := hide hWN
  have hL2 : L0.length ≤ 200 := by omega
  obtain ⟨R, hRR⟩ : ∃ R, R = ldE x L0 ws := ⟨_, rfl⟩
  rw [← hRR]
  have HRR := hide hRR
  have HL2 := hide hL2
  clear ho0 he0 hcell hi1 hred h6 hWN hLl hL0 hRR eN hL2
  go_enter Try.func64, Try.ntmps64
  go_wp2_with fail
  go_loopw [4, 12] (fun v i w' => ∃ (P Q : List F) (out more : List (Cc × F)) (xs : List Value), ws = P ++ Q ∧ i = .int .i64 (P.length : Int) ∧ R = ldE x out Q ∧ out = L0 ++ more ∧ out.length ≤ 200 ∧ (∀ p ∈ out, (rw_ p).length ≤ 600) ∧ GR w' base g WN v (out.map rw_) xs ∧ w.heap.size ≤ w'.heap.size ∧ Below base w w') (fun _ i _ => WN - (intOf i).toNat)
  case atStart => exact ⟨[], ws, L0, [], xs0, rfl, rfl, HRR.out, (List.append_nil _).symm, HL2.out, HN0.out, HGR.out, Nat.le_refl _, Below.refl _ _⟩
  case round =>
    obtain ⟨P, Q, out, more, xs, hPQ, rfl, hr, hmo, hol, h6o, hG, hsz, hB⟩ := hrel
    have HG := hide hG
    obtain ⟨va, vc, rfl⟩ := iOwn_form hG.1
    obtain ⟨ON, hON⟩ : ∃ ON, ON = (out.map rw_).length := ⟨_, rfl⟩
    have hON2 : ON = out.length := by rw [hON, List.length_map]
    rw [← hON] at HG ⊢
    have HON := hide hON
    have HON2 := hide hON2
    have hO200 : ON ≤ 200 := by omega
    have HR' := hide hr
    have HMo := hide hmo
    have H6o := hide h6o
    clear hG hON hON2 hr hmo h6o HGR HN0 HL2 HRR
    cases Q with
    | nil =>
      have hre : R = some out := by rw [HR'.out]; rfl
      subst hre
      rw [List.append_nil] at hPQ
      subst hPQ
      have hl := HWN.out
      rw [← hl]
      clear hl hol
      go_wp2_with fail
      exact bodyPost_ret (v := .tuple #[.slice va ON vc, .bool true]) (by simp [results, Try.results64, go_sem]) rfl ⟨⟨_, rfl, HG.out.rr⟩, hB⟩
    | cons u Q =>
      have hlt : P.length < WN := by rw [HWN.out, hPQ]; simp
      have hlt' : (P.length : Int) < (WN : Int) := by omega
      have hp0 : (0 : Int) ≤ (P.length : Int) := by omega
      have hum : u ∈ ws := by rw [hPQ]; simp
      have hu6 := H6.out u hum
      have hl0 : (out.map rw_)[P.length]? = some (x :: u.flat) := by
        have h9 := HL0.out P u Q hPQ
        rw [HMo.out, List.map_append, List.getElem?_append_left (List.getElem?_eq_some_iff.1 h9).1]
        exact h9
      obtain ⟨b, c, p0, hcc, hrow⟩ := HG.out.elem hlt hl0 (by simp)
      obtain ⟨UN, hUN⟩ : ∃ UN, UN = u.flat.length + 1 := ⟨_, rfl⟩
      have hUl : (x :: u.flat).length = UN := by rw [hUN]; rfl
      rw [hUl] at p0 hcc
      rw [← hUN] at hu6
      have HCt := hide (contracted_w hB9 b 0 c x u wr (HRed.out u hum) UN hUN hu6 hcc hrow)
      have HCB := hide (fun p hp => (ctrO_B (p := p) (HRed.out u hum) hB0 hB9 (by omega) hp).2)
      have HLE := hide (ldE_cons x out u Q)
      have HPQ : Hid (ws = (P ++ [u]) ++ Q) := hide (by rw [hPQ]; simp)
      obtain ⟨PN, hPN⟩ : ∃ PN, PN = P.length := ⟨_, rfl⟩
      rw [← hPN] at hlt hlt' hp0 p0 ⊢
      have HPN := hide hPN
      obtain ⟨CM, hCM⟩ : ∃ CM, CM = ctrO x u := ⟨_, rfl⟩
      rw [← hCM] at HCt HLE HCB
      clear hPQ hum hl0 hcc hrow hUN hUl hPN hCM hu6
      go_wp2_with fail
      refine Calls.mono HCt.out ?_
      rintro e w2 ⟨s2, rfl, ho2, hb2⟩
      have hgw : g < wr.heap.size := by omega
      have HG2 := hide (HG.out.below hgw hb2)
      have hbw : base ≤ wr.heap.size := by omega
      have hB2 : Below base w w2 := hB.trans (hb2.mono hbw)
      have hs2 := hb2.size
      have HO2 := hide ho2
      obtain ⟨ma, mc, rfl⟩ := iOwn_form ho2
      clear HCt HG ho2 hb2 p0 hB
      cases CM with
      | none =>
        have hre : R = none := by rw [HR'.out, HLE.out]
        subst hre
        simp only [Option.map_none, Option.getD_none, Option.isSome_none, List.length_nil]
        go_wp2_with fail
        exact bodyPost_ret (v := .tuple #[.slice none 0 0, .bool false]) (by simp [results, Try.results64, go_sem]) rfl ⟨rfl, hB2⟩
      | some p =>
        simp only [Option.map_some, Option.getD_some, Option.isSome_some] at HO2 ⊢
        have hp6 := HCB.out p rfl
        have hLE := HLE.out
        simp only [hasR_ldA] at hLE
        have HLE2 := hide hLE
        obtain ⟨MN, hMN⟩ : ∃ MN, MN = (p.1 :: p.2.flat).length := ⟨_, rfl⟩
        rw [← hMN] at HO2 ⊢
        have HMN := hide hMN
        have hrowM : CRow w2 ma (rw_ p) := by
          have h := HO2.out
          rw [hMN] at h
          obtain ⟨ad, c', e1, -, h2⟩ := cOwn_row h
          simp only [Value.slice.injEq] at e1
          obtain ⟨rfl, -, rfl⟩ := e1
          exact h2
        have hM6 : MN ≤ 600 := by rw [hMN]; exact hp6
        have HHas := hide (hasTerm_any (.slice va ON vc) base (out.map rw_) ma mc (rw_ p) w2 HG2.out.rr (by rw [← HON.out]; omega) (fun l hl => by
          rw [List.mem_map] at hl
          obtain ⟨q, hq, rfl⟩ := hl
          exact ⟨by simp [rw_], Nat.le_trans (H6o.out q hq) (by omega)⟩) hrowM (by show (p.1 :: p.2.flat).length ≤ _; omega))
        rw [show (rw_ p).length = MN from hMN.symm] at HHas
        obtain ⟨HS, hHS⟩ : ∃ HS, HS = hasR (out.map rw_) (rw_ p) := ⟨_, rfl⟩
        rw [← hHS] at HHas HLE2
        clear hLE HLE hMN hrowM hp6 hHS HCB
        go_wp2_with fail
        refine Calls.mono HHas.out ?_
        rintro e w3 ⟨rfl, hb3⟩
        have hg2 : g < w2.heap.size := by omega
        have HG3 := hide (HG2.out.below hg2 hb3)
        have hB3 : Below base w w3 := hB2.trans (hb3.mono (by omega))
        have hs3 := hb3.size
        have HO3 := hide (tOwn_keep HO2.out (fun k _ hk => hb3.block k hk))
        clear HHas HG2 HO2 hb3 hB2
        cases HS with
        | true =>
          have hre : R = ldE x out Q := by
            rw [HR'.out, HLE2.out]
            simp only [if_true]
            rw [if_neg (by have := HON2.out; omega)]
          have HRe := hide hre
          have hO' : ¬ (200 : Int) < (ON : Int) := by omega
          clear hre HLE2 HR'
          go_wp2_with fail
          exact ⟨⟨P ++ [u], Q, out, more, xs, HPQ.out, by rw [List.length_append, List.length_singleton, ← HPN.out]; go_num, HRe.out, HMo.out, hol, H6o.out, HG3.out, by omega, hB3⟩, by simp [intOf]; omega⟩
        | false =>
          have hle : R = if 200 < ON + 1 then none else ldE x (out ++ [p]) Q := by
            rw [HR'.out, HLE2.out]
            simp only [Bool.false_eq_true, if_false]
            rw [List.length_append, List.length_singleton, HON2.out]
          have HRe := hide hle
          clear hle HLE2 HR'
          have hown3 : w3.ownsRow base 23 1 (.slice va ON vc) ON xs := by have h := HG3.out.1; rw [← HON.out] at h; exact h
          have HOw := hide hown3
          have HOl : Hid (∀ q, (Value.slice va ON vc).ownBlock = some q → base ≤ q) := hide (fun q hq => (HOw.out.lt q hq).1)
          clear hown3
          go_wp2_with (at_builtin; refine wpList_append_old rfl _ _ 40 rfl base 23 i1 (.slice none 0 0) 1 24 Try.underlying40 Hi.out hz0 hz1 hz2 rfl (by decide) _ ON xs rfl (HOw.out.alloc _) ⟨w3.heap.size, 0, none⟩ 1 1 [.slice ma MN mc] rfl rfl (rr_cell1 _ _ _) (by simp [Value.oneCell']) (by unfold maxLen; omega) (by omega) (by simp; omega) ?_)
          intro v6 w6 hown6 hgr6 hold6
          have hbA : Below w3.heap.size w3 (w3.alloc (.cells #[.slice ma MN mc] 23)) := (Below.refl _ _).alloc (Nat.le_refl _) _
          have HS6 : Hid (w.heap.size ≤ w6.heap.size) := hide (by have := hgr6.size; simp at this; omega)
          have hB6 : Below base w w6 := (hB3.alloc (by omega) (.cells #[.slice ma MN mc] 23)).grown hgr6 (by simp; omega) (fun q hq => HOl.out q hq)
          have HG6 : Hid (GR w6 base g WN v6 ((out ++ [p]).map rw_) (xs ++ [.slice ma MN mc])) := hide (by
            rw [List.map_append, List.map_singleton]
            exact HG3.out.snoc (by omega) hbA (b1 := wr.heap.size) (by omega) (World.ownsRow.alloc (by have h := HO3.out; rw [HMN.out] at h ⊢; exact h) _) (by rw [← HON.out]; exact hown6) hgr6 hold6)
          obtain ⟨va6, vc6, rfl⟩ := iOwn_form hown6
          clear hown6 hgr6 hold6 hbA HOw HOl
          by_cases h2 : 200 < ON + 1
          · have hre : R = none := by rw [HRe.out, if_pos h2]
            subst hre
            have h2' : (200 : Int) < ((ON + 1 : Nat) : Int) := by omega
            clear HRe
            go_wp2_with fail
            exact bodyPost_ret (v := .tuple #[.slice none 0 0, .bool false]) (by simp [results, Try.results64, go_sem]) rfl ⟨rfl, hB6⟩
          · have hre : R = ldE x (out ++ [p]) Q := by rw [HRe.out, if_neg h2]
            have HRe2 := hide hre
            have h2' : ¬ (200 : Int) < ((ON + 1 : Nat) : Int) := by omega
            clear HRe hre
            go_wp2_with fail
            refine ⟨⟨P ++ [u], Q, out ++ [p], more ++ [p], xs ++ [.slice ma MN mc], HPQ.out, by rw [List.length_append, List.length_singleton, ← HPN.out]; go_num, HRe2.out, by rw [HMo.out, List.append_assoc], by rw [List.length_append, List.length_singleton]; have := HON2.out; omega, fun q hq => ?_, HG6.out, HS6.out, hB6⟩, by simp [intOf]; omega⟩
            rw [List.mem_append, List.mem_singleton] at hq
            rcases hq with hq | rfl
            · exact H6o.out q hq
            · show (q.1 :: q.2.flat).length ≤ 600
              rw [← HMN.out]; exact hM6
end Go.Proofs.Ytjmgnljjeogdlaa.W

/-
  All that a term at the front leads to: a contract of ledToAhead. Conditions: good terms.
-/
namespace Go.Proofs.Ytjmgnljjeogdlaa.W
open Go.ChangeShapes Go.WideShapes Go.ChangeAt Go.RowKit
set_option linter.unusedVariables false

theorem ldT_600 {x : Cc} {k : F} {l : List (Cc × F)} (hok : okT x k) (hl : k.flat.length + 1 ≤ 600) (h : ldT x k = some l) : ∀ p ∈ l, (rw_ p).length ≤ 600 := by
  intro p hp
  have hm := ldT_mem h p hp
  simp only [ldr] at hm
  obtain ⟨ky', r', h1, h2, h6, h4 | ⟨h5, q, h7, h8⟩⟩ := hm
  · simp only [F.cons.injEq] at h4
    show p.2.flat.length + 1 ≤ 600
    rw [h4.2.1]; exact h6
  · simp only [F.cons.injEq] at h8
    show p.2.flat.length + 1 ≤ 600
    rw [h8.2.1]
    exact (ctrO_B (ldr_red hok h5 h1 (ldr_B hok.2.2 (by omega) h1)) (by omega) (by omega) h6 h7).2
theorem ldT_pos {x : Cc} {k : F} {l : List (Cc × F)} (h : ldT x k = some l) : 0 < l.length ∧ l.length ≤ 200 := by
  unfold ldT at h
  cases hg : ldG [.nil] k with
  | none => rw [hg] at h; cases h
  | some us =>
    rw [hg] at h
    have h1 := ldG_pos k [.nil] us (by simp) (by simp) hg
    have h2 := ldX_le h
    omega
theorem ldG_red {x : Cc} {k : F} {us : List F} (hok : okT x k) (hl : k.flat.length + 1 ≤ 600) (hr : redx x k = true) (h : ldG [.nil] k = some us) : ∀ u ∈ us, RedW x u (99 + 600 * k.flat.length) := by
  intro u hu
  obtain ⟨v, hv, a', rfl, ha⟩ := ldG_mem k _ us h u hu
  rw [List.mem_singleton] at hv
  subst hv
  exact ldr_red hok hr ha (ldr_B hok.2.2 (by omega) ha)
/-- Rows of what has these behind a cell. -/
def rws (x : Cc) (us : List F) : List (List Cc) := (us.map fun u => (x, u)).map rw_
theorem rws_len (x : Cc) (us : List F) : (rws x us).length = us.length := by simp [rws]
theorem rws_mem {x : Cc} {us : List F} {l : List Cc} (h : l ∈ rws x us) : ∃ u ∈ us, l = x :: u.flat := by
  unfold rws at h
  rw [List.mem_map] at h
  obtain ⟨p, hp, rfl⟩ := h
  rw [List.mem_map] at hp
  obtain ⟨u, hu, rfl⟩ := hp
  exact ⟨u, hu, rfl⟩
theorem rws_W (x : Cc) (l : List (Cc × F)) : ∀ us : List F, rws x (ldW us l) = (rws x us).flatMap fun f => (l.map rw_).map fun b => f ++ b
  | [] => rfl
  | u :: us => by
    have ih := rws_W x l us
    unfold rws ldW at ih ⊢
    rw [List.flatMap_cons, List.map_append, List.map_append, ih, List.map_cons, List.map_cons, List.flatMap_cons]
    congr 1
    rw [List.map_map, List.map_map, List.map_map]
    apply List.map_congr_left
    intro p hp
    simp [rw_, F.app_flat, F.flat]
/-- What ledToAhead tells. -/
def LO (w w' : World) (b o c : Nat) (n : Nat) (m : Nat) (r : Option (List (Cc × F))) (e : Ending) : Prop :=
  match r with
  | none => ∃ a1 n1 c1 a2 n2 c2, e = .returned (.tuple #[.slice a1 n1 c1, .slice a2 n2 c2, .bool false])
  | some l => ∃ s' q, e = .returned (.tuple #[s', .slice (some ⟨b, q, none⟩) m (c - n), .bool true]) ∧ (0 < m → q = o + n * 2) ∧ RR w' w.heap.size s' (l.map rw_)
def LAGoal (k : F) : Prop := ∀ (x : Cc) (r : List Cc) (b o c : Nat) (w : World), okT x k → (k.flat ++ r).length + 1 ≤ 600 → (k.flat ++ r).length + 1 ≤ c → CRowAt w b o (x :: (k.flat ++ r)) →
    Calls Try.prog 36 #[.slice (some ⟨b, o, none⟩) ((k.flat ++ r).length + 1) c] w fun e w' => LO w w' b o c (k.flat.length + 1) r.length (ldT x k) e ∧ Below w.heap.size w w'
theorem rr_first (w : World) (x : Cc) : RR ((w.alloc (.cells #[.int .i64 x.k, .int .i64 x.n] 62)).alloc (.cells #[.slice (some ⟨w.heap.size, 0, none⟩) 1 1] 23)) w.heap.size (.slice (some ⟨w.heap.size + 1, 0, none⟩) 1 1) (rws x [.nil]) := by
  refine ⟨[.slice (some ⟨w.heap.size, 0, none⟩) 1 1], ⟨rfl, .inr ⟨w.heap.size + 1, 1, #[.slice (some ⟨w.heap.size, 0, none⟩) 1 1], rfl, by omega, ?_, Nat.le_refl _, by decide, rfl, rfl⟩⟩, fun j hj => ?_⟩
  · have := heap_alloc_new (w.alloc (.cells #[.int .i64 x.k, .int .i64 x.n] 62)) (.cells #[.slice (some ⟨w.heap.size, 0, none⟩) 1 1] 23)
    simpa using this
  · have hj0 : j = 0 := by simp [rws] at hj; omega
    subst hj0
    refine ⟨_, rfl, ⟨rfl, .inr ⟨w.heap.size, 1, #[.int .i64 x.k, .int .i64 x.n], rfl, Nat.le_refl _, ?_, Nat.le_refl _, by decide, rfl, rfl⟩⟩⟩
    rw [heap_alloc_old _ _ (by simp)]
    exact heap_alloc_new _ _

set_option maxRecDepth 20000 in
set_option maxHeartbeats 8000000 in
theorem ledToAhead_any : ∀ k, LAGoal k := by
  apply F.rec_kids
  intro k ih x r b o c w hok hl hc h
  have IH := hide ih
  have HOk := hide hok
  have HRow := hide h
  have hp := h.2 0 (by simp)
  simp only [Nat.zero_mul, Nat.add_zero, List.getElem_cons_zero] at hp
  obtain ⟨p0, p1⟩ := hp
  have hbw := h.1
  obtain ⟨R, hR⟩ : ∃ R, R = ldT x k := ⟨_, rfl⟩
  rw [← hR]
  have HR := hide hR
  have hka := hok.2.1
  obtain ⟨KN, hKN⟩ : ∃ KN, KN = ar x.k := ⟨_, rfl⟩
  have HKN : Hid (KN = k.len) := hide (by rw [hKN, hka])
  have HTb := hide (fun w' => termsBehind_any x.k w')
  rw [← hKN] at HTb
  obtain ⟨TL, hTL⟩ : ∃ TL, TL = (k.flat ++ r).length := ⟨_, rfl⟩
  rw [← hTL] at hl hc ⊢
  have HTL := hide hTL
  have hc1 : (1 : Int) ≤ (c : Int) := by omega
  have hl1 : (1 : Int) ≤ ((TL + 1 : Nat) : Int) := by omega
  have hlc : ((TL + 1 : Nat) : Int) ≤ (c : Int) := by omega
  have hl0 : (0 : Int) < ((TL + 1 : Nat) : Int) := by omega
  have hBw : Below w.heap.size w ((w.alloc (.cells #[.int .i64 x.k, .int .i64 x.n] 62)).alloc (.cells #[.slice (some ⟨w.heap.size, 0, none⟩) 1 1] 23)) := ((Below.refl _ _).alloc (Nat.le_refl _) _).alloc (by simp) _
  have HB0 := hide hBw
  have HR0 := hide (rr_first w x)
  have q0 := fun o' => ((Below.refl w.heap.size w).alloc (Nat.le_refl _) o').cell (p := ⟨b, o, none⟩) hbw
  clear ih hok h hR hka hKN hTL hBw
  by_cases hcc : c = 1
  · subst hcc
    obtain rfl : TL = 0 := by omega
    have hnil : k.flat ++ r = [] := List.eq_nil_of_length_eq_zero HTL.out.symm
    have hk0 : k = .nil := by
      cases k with
      | nil => rfl
      | cons y ky s => simp [F.flat] at hnil
    subst hk0
    have hr0 : r = [] := by simpa [F.flat] using hnil
    subst hr0
    obtain rfl : KN = 0 := HKN.out
    have hrd : redx x .nil = false := by
      cases h9 : redx x .nil with
      | false => rfl
      | true => exact absurd (red_of HOk.out h9) (fun h8 => by cases h8 with
        | app y d z kd kz hx hk' => cases hk'
        | lett y d ky kd hx hk' => cases hk'
        | add y z hx hk' => cases hk'
        | iff y z u kz ku hx hk' => cases hk')
    have hRe : R = some [(x, .nil)] := by rw [HR.out]; unfold ldT ldX; simp [ldG, F.flat, hrd]
    subst hRe
    have hfr := front HOk.out.1 HOk.out.2.1 HOk.out.2.2 []
    have HRx := hide (fun (w' : World) (hb : Below w.heap.size w w') => isRedex_any (some ⟨b, o, none⟩) 1 (x :: (F.nil.flat ++ [])) w' (by simp [F.flat]) hfr.2 (.inr ⟨b, o, rfl, HRow.out.below hb⟩))
    rw [hfr.1, hrd] at HRx
    have hlen : (x :: (F.nil.flat ++ [])).length = 0 + 1 := rfl
    rw [hlen] at HRx
    clear hnil hfr hrd hlen HR
    go_enter Try.func36, Try.ntmps36
    go_wp2_with fail
    obtain ⟨w0, hw0⟩ : ∃ w0, w0 = (w.alloc (.cells #[.int .i64 x.k, .int .i64 x.n] 62)).alloc (.cells #[.slice (some ⟨w.heap.size, 0, none⟩) 1 1] 23) := ⟨_, rfl⟩
    rw [← hw0] at HR0 HB0 ⊢
    have hz : w0.cell? ⟨w.heap.size + 1, 0, none⟩ = some (.slice (some ⟨w.heap.size, 0, none⟩) 1 1) := by
      rw [hw0]
      have := heap_alloc_new (w.alloc (.cells #[.int .i64 x.k, .int .i64 x.n] 62)) (.cells #[.slice (some ⟨w.heap.size, 0, none⟩) 1 1] 23)
      rw [World.size_alloc] at this
      rw [cell_of_blk this]
      rfl
    clear hw0 p0 p1 q0
    refine Calls.mono (HTb.out _) ?_
    rintro e w' ⟨rfl, rfl⟩
    clear HTb
    go_wp2_with fail
    refine wp_loop_rounds 1 ?_
    rw [rounds_succ]
    go_wp2_with fail
    refine wp_loop_rounds 2 ?_
    rw [rounds_succ]
    go_wp2_with fail
    rw [rounds_succ]
    go_wp2_with fail
    refine Calls.mono (HRx.out _ HB0.out) ?_
    rintro e w2 ⟨rfl, hb2⟩
    go_wp2_with fail
    exact bodyPost_ret (v := .tuple #[.slice (some ⟨w.heap.size + 1, 0, none⟩) 1 1, .slice (some ⟨b, o, none⟩) 0 0, .bool true]) (by simp [results, Try.results36, go_sem]) rfl ⟨⟨_, o, rfl, fun h => absurd h (Nat.lt_irrefl _), HR0.out.below hb2⟩, HB0.out.trans (hb2.mono HB0.out.size)⟩
  go_enter Try.func36, Try.ntmps36
  go_wp2_with fail
  obtain ⟨w0, hw0⟩ : ∃ w0, w0 = (w.alloc (.cells #[.int .i64 x.k, .int .i64 x.n] 62)).alloc (.cells #[.slice (some ⟨w.heap.size, 0, none⟩) 1 1] 23) := ⟨_, rfl⟩
  rw [← hw0] at HR0 HB0 ⊢
  clear hw0 p0 p1 q0
  refine Calls.mono (HTb.out _) ?_
  rintro e w' ⟨rfl, rfl⟩
  clear HTb
  go_wp2_with fail
  go_loopw [5, 6, 25] (fun v rs i w' => ∃ (a bb : F) (us : List F) (q : Nat), k = a.app bb ∧ i = .int .i64 (a.len : Int) ∧ ldG [.nil] a = some us ∧ rs = .slice (some ⟨b, q, none⟩) ((bb.flat ++ r).length) (c - (a.flat.length + 1)) ∧ (0 < (bb.flat ++ r).length → q = o + (a.flat.length + 1) * 2) ∧ RR w' w.heap.size v (rws x us) ∧ (∀ u ∈ us, u.flat.length ≤ 600 * a.len) ∧ Below w.heap.size w w') (fun _ _ i _ => KN - (intOf i).toNat)
  case atStart => exact ⟨.nil, k, [.nil], o + 2, rfl, rfl, rfl, by rw [← HTL.out]; rfl, fun _ => by simp [F.flat], HR0.out, by simp [F.flat, F.len], HB0.out⟩
  case round =>
    obtain ⟨a, bb, us, q, hk, rfl, hda, rfl, hq, hOw, ha4, hB⟩ := hrel
    have HDa := hide hda
    have HQ := hide hq
    have HOw := hide hOw
    obtain ⟨oa, oc, rfl⟩ := hOw.form
    rw [rws_len] at HOw ⊢
    obtain ⟨hu0, hu2⟩ := ldG_pos a [.nil] us (by simp) (by simp) hda
    clear hda hq hOw HR0 HB0
    cases bb with
    | nil =>
      rw [F.app_nil] at hk
      subst hk
      have hKL := HKN.out
      rw [← hKL]
      have hfr := front HOk.out.1 HOk.out.2.1 HOk.out.2.2 r
      have hlen : (x :: (k.flat ++ r)).length = TL + 1 := by rw [HTL.out]; simp
      have HRx := hide (fun (w' : World) (hb : Below w.heap.size w w') => isRedex_any (some ⟨b, o, none⟩) c (x :: (k.flat ++ r)) w' (by omega) hfr.2 (.inr ⟨b, o, rfl, HRow.out.below hb⟩))
      rw [hfr.1, hlen] at HRx
      have hkf : k.flat.length + 1 ≤ 600 := by have := HTL.out; simp at this; omega
      have HRd := hide (fun hrd => ldG_red HOk.out hkf hrd HDa.out)
      obtain ⟨RL, hRL⟩ : ∃ RL, RL = r.length := ⟨_, rfl⟩
      have e8 : (F.nil.flat ++ r).length = RL := by rw [hRL]; rfl
      rw [e8] at HQ ⊢
      obtain ⟨KF, hKF⟩ : ∃ KF, KF = k.flat.length := ⟨_, rfl⟩
      rw [← hKF] at HQ ⊢
      have HKF := hide hKF
      have HRL := hide hRL
      have hX : R = ldX x (redx x k) us := by rw [HR.out]; unfold ldT; rw [HDa.out]
      have HX := hide hX
      obtain ⟨UN, hUN⟩ : ∃ UN, UN = us.length := ⟨_, rfl⟩
      rw [← hUN] at HOw hu0 hu2 ⊢
      have HUN := hide hUN
      have HA4 := hide ha4
      clear hfr hlen hKL hRL hKF e8 hX hUN IH ha4 HDa
      obtain ⟨W1, hW1⟩ : ∃ W1, W1 = wr := ⟨_, rfl⟩
      subst hW1
      go_wp2_with fail
      go_loopw [50] (fun i w' => ∃ (P Q : List F), us = P ++ Q ∧ i = .int .i64 (P.length : Int) ∧ (∀ u ∈ P, u.flat.length + 1 ≤ 600) ∧ w' = W1) (fun i _ => UN - (intOf i).toNat)
      case atStart => exact ⟨[], us, rfl, rfl, by simp, rfl⟩
      case round =>
        obtain ⟨P, Q, hPQ, rfl, h6, hw⟩ := hrel
        subst hw
        have H6 := hide h6
        clear h6
        cases Q with
        | nil =>
          rw [List.append_nil] at hPQ
          subst hPQ
          have hUl := HUN.out
          rw [← hUl]
          have hno : ¬ ∃ u ∈ us, 600 < u.flat.length + 1 := fun ⟨u, h1, h2⟩ => by have := H6.out u h1; omega
          have hX2 := HX.out
          unfold ldX at hX2
          rw [if_neg hno] at hX2
          have HX2 := hide hX2
          clear hUl hno hX2 HX
          go_wp2_with fail
          refine Calls.mono (HRx.out _ hB) ?_
          rintro e w2 ⟨rfl, hb2⟩
          have hB2 : Below w.heap.size w w2 := hB.trans (hb2.mono hB.size)
          have HO2 := hide (HOw.out.below hb2)
          clear HRx hb2 HOw
          cases hrd : redx x k with
          | false =>
            have hRe : R = some (us.map fun u => (x, u)) := by rw [HX2.out, hrd, if_neg (by simp), if_pos (by rw [← HUN.out]; exact hu2)]
            subst hRe
            clear hrd
            go_wp2_with fail
            exact bodyPost_ret (v := .tuple #[.slice oa UN oc, .slice (some ⟨b, q, none⟩) RL (c - (KF + 1)), .bool true]) (by simp [results, Try.results36, go_sem]) rfl ⟨⟨_, q, by rw [HRL.out, HKF.out], by rw [← HRL.out, ← HKF.out]; exact HQ.out, HO2.out⟩, hB2⟩
          | true =>
            have hRe : R = ldE x (us.map fun u => (x, u)) us := by
              rw [HX2.out, hrd, if_pos rfl, ldE_eq x us _ (by rw [List.length_map, ← HUN.out]; exact hu2)]
            have HWc := hide (withContracted_any (B := 99 + 600 * k.flat.length) (by omega) (by omega) x us (.slice oa UN oc) w.heap.size w2 HO2.out hB2.size (HRd.out hrd) H6.out (by rw [← HUN.out]; exact hu2) (by rw [← HUN.out]; exact hu0))
            rw [← hRe] at HWc
            clear hRe hrd
            go_wp2_with fail
            refine Calls.mono HWc.out ?_
            rintro e w3 ⟨hwc, hb3⟩
            have hB3 : Below w.heap.size w w3 := hB2.trans hb3
            clear HWc hb3
            cases R with
            | none =>
              obtain rfl : e = .returned (.tuple #[.slice none 0 0, .bool false]) := hwc
              go_wp2_with fail
              exact bodyPost_ret (v := .tuple #[.slice none 0 0, .slice (some ⟨b, q, none⟩) RL (c - (KF + 1)), .bool false]) (by simp [results, Try.results36, go_sem]) rfl ⟨⟨_, _, _, _, _, _, rfl⟩, hB3⟩
            | some out =>
              obtain ⟨v3, rfl, hr3⟩ : ∃ v', e = .returned (.tuple #[v', .bool true]) ∧ RR w3 w.heap.size v' (out.map rw_) := hwc
              have HR3 := hide hr3
              obtain ⟨a3, c3, rfl⟩ := hr3.form
              rw [List.length_map] at HR3 ⊢
              obtain ⟨PN, hPN⟩ : ∃ PN, PN = out.length := ⟨_, rfl⟩
              rw [← hPN] at HR3 ⊢
              clear hPN hr3
              go_wp2_with fail
              exact bodyPost_ret (v := .tuple #[.slice a3 PN c3, .slice (some ⟨b, q, none⟩) RL (c - (KF + 1)), .bool true]) (by simp [results, Try.results36, go_sem]) rfl ⟨⟨_, q, by rw [HRL.out, HKF.out], by rw [← HRL.out, ← HKF.out]; exact HQ.out, HR3.out⟩, hB3⟩
        | cons u Q =>
          have hlt : P.length < UN := by rw [HUN.out, hPQ]; simp
          have hlt' : (P.length : Int) < (UN : Int) := by omega
          have hp0 : (0 : Int) ≤ (P.length : Int) := by omega
          have hlt2 : P.length < (rws x us).length := by rw [rws_len, ← HUN.out]; exact hlt
          have hue : (rws x us)[P.length] = x :: u.flat := by simp [rws, rw_, hPQ]
          obtain ⟨g, cap, b2, c2, e1, hg, p0, hcc2, -⟩ := HOw.out.elem hlt2 (by rw [hue]; simp)
          simp only [Value.slice.injEq] at e1
          obtain ⟨rfl, -, rfl⟩ := e1
          rw [hue] at p0
          have HPQ : Hid (us = (P ++ [u]) ++ Q) := hide (by rw [hPQ]; simp)
          have hum : u ∈ us := by rw [hPQ]; simp
          have hub := HA4.out u hum
          have hkl := F.len_flat k
          obtain ⟨LN, hLN⟩ : ∃ LN, LN = (x :: u.flat).length := ⟨_, rfl⟩
          have hLN1 : LN = u.flat.length + 1 := by rw [hLN]; rfl
          rw [← hLN] at p0
          have HLN := hide hLN1
          have hLb : LN ≤ 400000 := by omega
          obtain ⟨PN, hPN⟩ : ∃ PN, PN = P.length := ⟨_, rfl⟩
          rw [← hPN] at hlt hlt' hp0 p0 ⊢
          have HPN := hide hPN
          clear hlt2 hue hcc2 hLN hLN1 hPN hub hkl
          by_cases h6 : LN ≤ 600
          · have h6' : ¬ (600 : Int) < (LN : Int) := by omega
            clear hPQ hum
            go_wp2_with fail
            refine ⟨⟨P ++ [u], Q, HPQ.out, by rw [List.length_append, List.length_singleton, ← HPN.out]; go_num, fun v hv => ?_, trivial⟩, by simp [intOf]; omega⟩
            rw [List.mem_append, List.mem_singleton] at hv
            rcases hv with hv | rfl
            · exact H6.out v hv
            · have := HLN.out; omega
          · have h6' : (600 : Int) < (LN : Int) := by omega
            have hRe : R = none := by
              rw [HX.out]; unfold ldX
              rw [if_pos ⟨u, hum, by have := HLN.out; omega⟩]
            subst hRe
            clear hPQ hum
            go_wp2_with fail
            exact bodyPost_ret (v := .tuple #[.slice none 0 0, .slice none 0 0, .bool false]) (by simp [results, Try.results36, go_sem]) rfl ⟨⟨_, _, _, _, _, _, rfl⟩, hB⟩
    | cons y ky bb =>
      have hO := HOk.out.2.2
      rw [hk] at hO
      obtain ⟨gy, ly, oy, orr⟩ := ((F.app_ok _ _).1 hO).2
      have hI := IH.out
      rw [hk] at hI
      have hfk : k.flat = a.flat ++ (y :: (ky.flat ++ bb.flat)) := by rw [hk, F.app_flat]; simp [F.flat]
      have hTl : TL = a.flat.length + (ky.flat ++ (bb.flat ++ r)).length + 1 := by rw [HTL.out, hfk]; simp; omega
      have hkl2 : KN = a.len + (bb.len + 1) := by rw [HKN.out, hk, F.app_len]; rfl
      have hlt' : (a.len : Int) < (KN : Int) := by omega
      have e9 : ((F.cons y ky bb).flat ++ r).length = (ky.flat ++ (bb.flat ++ r)).length + 1 := by simp [F.flat]
      have hqe := HQ.out (by rw [e9]; omega)
      have hrw : CRowAt w b (o + (a.flat.length + 1) * 2) (y :: (ky.flat ++ (bb.flat ++ r))) := by
        have h1 := HRow.out
        rw [hfk, show x :: (a.flat ++ (y :: (ky.flat ++ bb.flat)) ++ r) = (x :: a.flat) ++ (y :: (ky.flat ++ (bb.flat ++ r))) by simp] at h1
        have := h1.back
        simpa using this
      rw [hqe, e9]
      have HCl := hide (fun (w' : World) (hb : Below w.heap.size w w') => F.all_at hI y (bb.flat ++ r) b (o + (a.flat.length + 1) * 2) (c - (a.flat.length + 1)) w' ⟨gy, ly, oy⟩ (by omega) (by omega) (hrw.below hb))
      have HSn := hide (hk.trans (F.app_snoc a ky bb y))
      have HDl : Hid ((a.app (.cons y ky .nil)).len = a.len + 1) := hide (by rw [F.app_len]; rfl)
      have HFl : Hid ((a.app (.cons y ky .nil)).flat.length = a.flat.length + (ky.flat.length + 1)) := hide (by rw [F.app_flat]; simp [F.flat])
      have hGc : ldG [.nil] k = match ldT y ky with | none => none | some l => if 200 < us.length * l.length then none else ldG (ldW us l) bb := by
        rw [hk, ldG_app, HDa.out]; simp only; rw [ldG_cons]
        cases ldT y ky with
        | none => rfl
        | some l => simp only; rw [ldW_len]
      have hG1 : ∀ l, ldT y ky = some l → ¬ 200 < us.length * l.length → ldG [.nil] (a.app (.cons y ky .nil)) = some (ldW us l) := fun l h1 h2 => by
        rw [ldG_app, HDa.out]; simp only; rw [ldG_cons, h1]; simp only; rw [ldW_len, if_neg h2]; rfl
      have HDn : Hid (ldT y ky = none → R = none) := hide (fun hv => by rw [HR.out]; unfold ldT; rw [hGc, hv])
      have HDm : Hid (∀ l, ldT y ky = some l → 200 < us.length * l.length → R = none) := hide (fun l hv h2 => by rw [HR.out]; unfold ldT; rw [hGc, hv]; simp only; rw [if_pos h2])
      have HDs := hide hG1
      have hky : ky.flat.length + 1 ≤ 600 := by have h9 := hTl; simp at h9; omega
      have HP6 := hide (fun l hv => ldT_600 (l := l) ⟨gy, ly, oy⟩ hky hv)
      have HPp := hide (fun l (hv : ldT y ky = some l) => ldT_pos hv)
      obtain ⟨CM, hCM⟩ : ∃ CM, CM = ldT y ky := ⟨_, rfl⟩
      rw [← hCM] at HCl HDn HDs HDm HP6 HPp
      obtain ⟨AL, hAL⟩ : ∃ AL, AL = a.len := ⟨_, rfl⟩
      obtain ⟨AF, hAF⟩ : ∃ AF, AF = a.flat.length := ⟨_, rfl⟩
      obtain ⟨RF, hRF⟩ : ∃ RF, RF = (ky.flat ++ (bb.flat ++ r)).length := ⟨_, rfl⟩
      rw [← hAL] at hlt' HDl ha4 ⊢
      rw [← hAF] at HCl HFl hTl ⊢
      rw [← hRF] at HCl hTl ⊢
      have HAL := hide hAL
      have hAL3 : AL ≤ 3 := by have h1 := ar_le x.k; have h2 := HOk.out.2.1; have h3 := HKN.out; omega
      obtain ⟨KF, hKF⟩ : ∃ KF, KF = ky.flat.length := ⟨_, rfl⟩
      rw [← hKF] at HCl HFl hky
      obtain ⟨ML, hML⟩ : ∃ ML, ML = (bb.flat ++ r).length := ⟨_, rfl⟩
      rw [← hML] at HCl
      have HML := hide hML
      have hKFl : AF + (KF + 1) ≤ TL := by rw [hTl, hRF, hKF]; simp; omega
      obtain ⟨UN, hUN⟩ : ∃ UN, UN = us.length := ⟨_, rfl⟩
      rw [← hUN] at HOw hu0 hu2 HDs HDm ⊢
      have HUN := hide hUN
      have HA4 := hide ha4
      clear hO gy ly oy orr hI hfk hkl2 hqe hrw hk hAL hCM e9 hKF hML hAF hRF hTl hGc hG1 hUN ha4
      go_wp2_with fail
      refine Calls.mono (HCl.out _ hB) ?_
      rintro e w2 ⟨hdo, hb2⟩
      have hB2 : Below w.heap.size w w2 := hB.trans (hb2.mono hB.size)
      have HO2 := hide (HOw.out.below hb2)
      have hs2 := hb2.size
      clear HCl HOw hb2
      cases CM with
      | none =>
        obtain ⟨a1, n1, c1, a2, n2, c2, rfl⟩ := hdo
        have hRn := HDn.out rfl
        subst hRn
        clear HDn HDs HP6 HDm HPp
        go_wp2_with fail
        exact bodyPost_ret (v := .tuple #[.slice none 0 0, .slice none 0 0, .bool false]) (by simp [results, Try.results36, go_sem]) rfl ⟨⟨_, _, _, _, _, _, rfl⟩, hB2⟩
      | some l =>
        obtain ⟨s', q', rfl, hq', ho'⟩ := hdo
        have hP6 := HP6.out l rfl
        obtain ⟨hl0', hl2⟩ := HPp.out l rfl
        have HDs2 := hide (HDs.out l rfl)
        have HDm2 := hide (HDm.out l rfl)
        obtain ⟨sa, sc, rfl⟩ := ho'.form
        have HOn := hide ho'
        rw [List.length_map] at HOn ⊢
        obtain ⟨LN, hLN⟩ : ∃ LN, LN = l.length := ⟨_, rfl⟩
        rw [← hLN] at HOn hl0' hl2 HDs2 HDm2 ⊢
        have HLN := hide hLN
        have HQ2 := hide hq'
        have HP6' := hide hP6
        obtain ⟨M, hM⟩ : ∃ M, M = UN * LN := ⟨_, rfl⟩
        have hMi : (UN : Int) * (LN : Int) = (M : Int) := by rw [hM]; exact (Int.natCast_mul _ _).symm
        have hM4 : M ≤ 40000 := by rw [hM]; exact Nat.le_trans (Nat.mul_le_mul hu2 hl2) (by omega)
        rw [← hM] at HDs2 HDm2
        have HM := hide hM
        have hm0 : 0 ≤ (UN : Int) * (LN : Int) := by omega
        have hm4 : (UN : Int) * (LN : Int) ≤ 40000 := by omega
        clear HDn HDs HP6 HDm HPp hq' ho' hLN hM hP6
        by_cases h2 : 200 < M
        · have hRn := HDm2.out h2
          subst hRn
          have h2' : 200 < (UN : Int) * (LN : Int) := by omega
          clear hMi HDs2 HDm2
          go_wp2_with fail
          exact bodyPost_ret (v := .tuple #[.slice none 0 0, .slice none 0 0, .bool false]) (by simp [results, Try.results36, go_sem]) rfl ⟨⟨_, _, _, _, _, _, rfl⟩, hB2⟩
        · have hG := HDs2.out h2
          have HG := hide hG
          have h2' : ¬ 200 < (UN : Int) * (LN : Int) := by omega
          have HE := hide (eachWithEach_any (.slice oa UN oc) (.slice sa LN sc) w.heap.size wr.heap.size (rws x us) (l.map rw_) w2 HO2.out HOn.out (fun m hm => by
            obtain ⟨u, hu, rfl⟩ := rws_mem hm
            refine ⟨by simp, ?_⟩
            have := HA4.out u hu
            simp only [List.length_cons]
            omega) (fun m hm => by
            rw [List.mem_map] at hm
            obtain ⟨p, hp, rfl⟩ := hm
            exact ⟨by simp [rw_], Nat.le_trans (HP6'.out p hp) (by omega)⟩) (by rw [rws_len, List.length_map, ← HUN.out, ← HLN.out, ← HM.out]; omega) (by rw [rws_len, ← HUN.out]; exact hu2) (by rw [List.length_map, ← HLN.out]; exact hl2))
          rw [← rws_W] at HE
          clear hMi HDs2 HDm2 hG
          go_wp2_with fail
          refine Calls.mono HE.out ?_
          rintro e w5 ⟨v5, rfl, hr5, hb5⟩
          have hB5 : Below w.heap.size w w5 := hB2.trans (hb5.mono hB2.size)
          have HR5 := hide (hr5.lower hB2.size)
          obtain ⟨a5, c5, rfl⟩ := hr5.form
          rw [rws_len] at HR5 ⊢
          obtain ⟨VN, hVN⟩ : ∃ VN, VN = (ldW us l).length := ⟨_, rfl⟩
          rw [← hVN] at HR5 ⊢
          clear hVN hr5 hb5 HE
          go_wp2_with fail
          refine ⟨⟨a.app (.cons y ky .nil), bb, ldW us l, q', HSn.out, by rw [HDl.out]; go_num, HG.out, ?_, fun hpos => ?_, HR5.out, fun u hu => ?_, hB5⟩, by simp [intOf]; omega⟩
          · rw [← HML.out, HFl.out, show c - (AF + 1) - (KF + 1) = c - (AF + (KF + 1) + 1) by omega]
          · rw [HQ2.out (by rw [HML.out]; exact hpos), HFl.out]; omega
          · unfold ldW at hu
            rw [List.mem_flatMap] at hu
            obtain ⟨v, hv, hu⟩ := hu
            rw [List.mem_map] at hu
            obtain ⟨p, hp, rfl⟩ := hu
            have h1 := HA4.out v hv
            have h2 : p.2.flat.length + 1 ≤ 600 := HP6'.out p hp
            rw [F.app_flat, HDl.out]; simp [F.flat]; omega
end Go.Proofs.Ytjmgnljjeogdlaa.W

/-
  Some texts of this proof in one: TeLp, TeLt.
-/
import Derived.Test.YtjalakdpmglamaaJzd
import Derived.Test.YtjalakdpmglamaaTeLw
import Derived.Test.YtjalakdpmglamaaJg
/-
  The program's LeadsTo. Conditions: at most 1048576 cells.
-/
namespace Go.Proofs.Ytjalakdpmglamaa.W
open Go.ChangeShapes Go.WideShapes Go.ChangeAt Go.RowKit
set_option linter.unusedVariables false

/-- All that a row leads to. -/
def leA (l : List Cc) : Option (List (Cc × F)) := match treeT l with | some (.cons x k _) => ldT x k | _ => none
/-- Whether there is room, and whether the second one is among them. -/
def leO (l m : List Cc) : Bool := goodT l && (goodT m && (leA l).isSome)
def hasO (D : Option (List (Cc × F))) (m : List Cc) : Bool := match D with | some o => hasR (o.map rw_) m | none => false
def leR (l m : List Cc) : Bool := leO l m && hasO (leA l) m

set_option maxRecDepth 20000 in
set_option maxHeartbeats 2000000 in
theorem implLeads_any (ad ad2 : Option Addr) (c c2 : Nat) (l m : List Cc) (w : World) (hl : l.length ≤ 1048576) (hm : m.length ≤ 1048576) (hc : l.length ≤ c) (h : CRow w ad l) (h2 : CRow w ad2 m) :
    Calls Try.prog 7 #[.slice ad l.length c, .slice ad2 m.length c2] w fun e w' => e = .returned (.tuple #[.bool (leR l m), .bool (leO l m)]) ∧ Below w.heap.size w w' := by
  have HC := hide (implGoodT_any ad c l w hl h)
  have HC2 := hide (fun (w' : World) (hb : Below w.heap.size w w') => implGoodT_any ad2 c2 m w' hm (h2.below hb))
  have HR2 := hide h2
  obtain ⟨LN, hLN⟩ : ∃ LN, LN = l.length := ⟨_, rfl⟩
  obtain ⟨MN, hMN⟩ : ∃ MN, MN = m.length := ⟨_, rfl⟩
  rw [← hLN] at HC
  rw [← hMN] at HC2
  have HMN := hide hMN
  cases ht : treeT l with
  | none =>
    have hg : goodT l = false := by unfold goodT; rw [ht]; rfl
    have h1 : leO l m = false := by unfold leO; rw [hg]; rfl
    have h3 : leR l m = false := by unfold leR; rw [h1]; rfl
    rw [hg] at HC
    rw [h1, h3, ← hLN, ← hMN]
    clear h ht h1 h3 h2 hLN hMN hl hm hc hg
    go_enter Try.func7, Try.ntmps7
    go_wp2_with fail
    refine Calls.mono HC.out ?_
    rintro e w1 ⟨rfl, hb1⟩
    clear HC
    go_wp2_with fail
    exact bodyPost_ret (v := .tuple #[.bool false, .bool false]) (by simp [results, Try.results7, go_sem]) rfl ⟨rfl, hb1⟩
  | some t =>
    obtain ⟨x, k, rfl⟩ := F.len_1 (treeT_flat ht).2.2.1
    have hg : goodT l = true := by unfold goodT; rw [ht]; rfl
    rw [hg] at HC
    cases hg2 : goodT m with
    | false =>
      have h1 : leO l m = false := by unfold leO; rw [hg2]; simp
      have h3 : leR l m = false := by unfold leR; rw [h1]; rfl
      rw [hg2] at HC2
      rw [h1, h3, ← hLN, ← hMN]
      clear h ht h1 h3 h2 hLN hMN hl hm hc hg hg2
      go_enter Try.func7, Try.ntmps7
      go_wp2_with fail
      refine Calls.mono HC.out ?_
      rintro e w1 ⟨rfl, hb1⟩
      clear HC
      go_wp2_with fail
      refine Calls.mono (HC2.out _ hb1) ?_
      rintro e w2 ⟨rfl, hb2⟩
      clear HC2
      go_wp2_with fail
      exact bodyPost_ret (v := .tuple #[.bool false, .bool false]) (by simp [results, Try.results7, go_sem]) rfl ⟨rfl, hb1.trans (hb2.mono hb1.size)⟩
    | true =>
      rw [hg2] at HC2
      obtain ⟨e1, ho, -, e4, -⟩ := treeT_flat ht
      obtain ⟨g1, l1, o1, -⟩ := ho
      have hok : okT x k := ⟨g1, l1, o1⟩
      have e5 : l = x :: (k.flat ++ []) := by rw [e1]; simp [F.flat]
      obtain ⟨b, o, rfl, hrow⟩ : ∃ b o, ad = some ⟨b, o, none⟩ ∧ CRowAt w b o l := by
        rcases h with h0 | h0
        · rw [e5] at h0; cases h0
        · exact h0
      have e6 : (k.flat ++ []).length + 1 = LN := by rw [hLN, e5]; simp
      have hk6 : k.flat.length + 1 ≤ 600 := by rw [e5] at e4; simpa using e4
      have HDv := hide (fun (w' : World) (hb : Below w.heap.size w w') => ledToAhead_any k x [] b o c w' hok (by omega) (by omega) (by rw [← e5]; exact hrow.below hb))
      rw [e6] at HDv
      have HP6 := hide (fun q hv => ldT_600 hok hk6 (l := q) hv)
      have HPp := hide (fun q (hv : ldT x k = some q) => ldT_pos hv)
      have hA : leA l = ldT x k := by unfold leA; rw [ht]
      obtain ⟨D, hD⟩ : ∃ D, D = ldT x k := ⟨_, rfl⟩
      rw [← hD] at HDv HP6 HPp hA
      have h1 : leO l m = D.isSome := by unfold leO; rw [hg, hg2, hA]; rfl
      have h3 : leR l m = hasO D m := by
        unfold leR; rw [h1, hA]
        cases D <;> rfl
      rw [h1, h3, ← hLN, ← hMN]
      rw [← hMN] at hm
      clear h ht h1 h3 h2 hLN hMN hl hc hg hg2 e1 e4 g1 l1 o1 hok e5 hrow e6 hA hD
      go_enter Try.func7, Try.ntmps7
      go_wp2_with fail
      refine Calls.mono HC.out ?_
      rintro e w1 ⟨rfl, hb1⟩
      clear HC
      go_wp2_with fail
      refine Calls.mono (HC2.out _ hb1) ?_
      rintro e w2 ⟨rfl, hb2⟩
      have hB2 : Below w.heap.size w w2 := hb1.trans (hb2.mono hb1.size)
      clear HC2 hb1 hb2
      go_wp2_with fail
      refine Calls.mono (HDv.out _ hB2) ?_
      rintro e w3 ⟨hdo, hb3⟩
      have hB3 : Below w.heap.size w w3 := hB2.trans (hb3.mono hB2.size)
      clear HDv hb3
      cases D with
      | none =>
        obtain ⟨a1, n1, c1, a2, n2, c2, rfl⟩ := hdo
        go_wp2_with fail
        exact bodyPost_ret (v := .tuple #[.bool false, .bool false]) (by simp [results, Try.results7, go_sem]) rfl ⟨rfl, hB3⟩
      | some q =>
        obtain ⟨s', q', rfl, -, ho'⟩ := hdo
        have hP6 := HP6.out q rfl
        have hq2 := (HPp.out q rfl).2
        have HHas := hide (hasTerm_any s' _ (q.map rw_) ad2 c2 m w3 ho' (by rw [List.length_map]; omega) (fun l hl => by
          rw [List.mem_map] at hl
          obtain ⟨p, hp, rfl⟩ := hl
          exact ⟨by simp [rw_], Nat.le_trans (hP6 p hp) (by omega)⟩) (HR2.out.below hB3) (by rw [← HMN.out]; exact hm))
        obtain ⟨sa, sc, rfl⟩ := ho'.form
        have hmn := HMN.out
        rw [List.length_map, ← hmn] at HHas
        rw [List.length_map]
        dsimp only [Option.isSome_some]
        obtain ⟨G, hG⟩ : ∃ G, G = hasR (q.map rw_) m := ⟨_, rfl⟩
        rw [← hG] at HHas
        have HG := hide hG
        obtain ⟨QN, hQN⟩ : ∃ QN, QN = q.length := ⟨_, rfl⟩
        rw [← hQN] at HHas ⊢
        clear hP6 hq2 ho' hmn hG hQN HP6 HPp
        go_wp2_with fail
        refine Calls.mono HHas.out ?_
        rintro e w4 ⟨rfl, hb4⟩
        clear HHas
        go_wp2_with fail
        exact bodyPost_ret (v := .tuple #[.bool G, .bool true]) (by simp [results, Try.results7, go_sem]) rfl ⟨by rw [HG.out]; rfl, hB3.trans (hb4.mono hB3.size)⟩
end Go.Proofs.Ytjalakdpmglamaa.W

/-
  The specification's LeadsTo. Conditions: at most 1048576 cells.
-/
namespace Go.Proofs.Ytjalakdpmglamaa.W
open Go.ChangeShapes Go.WideShapes Go.ChangeAt Go.RowKit
set_option linter.unusedVariables false
set_option linter.unusedSimpArgs false

def hasF (o : List (Cc × F)) (y : Cc) (ky : F) : Bool := o.any fun q => sameF (.cons q.1 q.2 .nil) (.cons y ky .nil)
theorem has_F {o : List (Cc × F)} {y : Cc} {ky : F} (ho : ∀ q ∈ o, (F.cons q.1 q.2 .nil).ard) (hy : (F.cons y ky .nil).ard) : hasR (o.map rw_) (y :: ky.flat) = hasF o y ky := by
  unfold hasR hasF
  rw [List.any_map, Bool.eq_iff_iff, List.any_eq_true, List.any_eq_true]
  have e : ∀ q ∈ o, sameR (rw_ q) (y :: ky.flat) = sameF (.cons q.1 q.2 .nil) (.cons y ky .nil) := fun q hq => by
    have := same_flat (ho q hq) hy rfl
    simpa [F.flat, rw_] using this
  exact ⟨fun ⟨q, h1, h2⟩ => ⟨q, h1, by rw [← e q h1]; exact h2⟩, fun ⟨q, h1, h2⟩ => ⟨q, h1, by rw [← e q h1] at h2; exact h2⟩⟩
theorem ok_ard : ∀ {a : F}, a.ok → a.ard
  | .nil, _ => trivial
  | .cons x k r, h => ⟨h.2.1, ok_ard h.2.2.1, ok_ard h.2.2.2⟩
theorem ldT_ard {x : Cc} {k : F} {l : List (Cc × F)} (hok : okT x k) (hl : k.flat.length + 1 ≤ 600) (h : ldT x k = some l) : ∀ p ∈ l, (F.cons p.1 p.2 .nil).ard := fun p hp =>
  okB_ard (ldr_B (a := .cons x k .nil) ⟨hok.1, hok.2.1, hok.2.2, trivial⟩ (by simpa [F.flat] using hl) (ldT_mem h p hp))
theorem hasF_at {o A B : List (Cc × F)} {q : Cc × F} {y : Cc} {ky : F} (h : o = A ++ q :: B) (hA : hasF A y ky = false) : hasF o y ky = (sameF (.cons q.1 q.2 .nil) (.cons y ky .nil) || hasF B y ky) ∧ hasF (A ++ [q]) y ky = sameF (.cons q.1 q.2 .nil) (.cons y ky .nil) := by
  unfold hasF at *
  rw [h, List.any_append, List.any_append, hA]
  simp

set_option maxRecDepth 20000 in
set_option maxHeartbeats 4000000 in
theorem specLeads_any (ad ad2 : Option Addr) (c c2 : Nat) (l m : List Cc) (w : World) (hl : l.length ≤ 1048576) (hm : m.length ≤ 1048576) (h : CRow w ad l) (h2 : CRow w ad2 m) :
    Calls Try.prog 5 #[.slice ad l.length c, .slice ad2 m.length c2] w fun e w' => e = .returned (.tuple #[.bool (leR l m), .bool (leO l m)]) ∧ Below w.heap.size w w' := by
  have HC := hide (l3Tree_any ad c l w hl h)
  have HC2 := hide (fun (w' : World) (hb : Below w.heap.size w w') => l3Tree_any ad2 c2 m w' hm (h2.below hb))
  obtain ⟨LN, hLN⟩ : ∃ LN, LN = l.length := ⟨_, rfl⟩
  obtain ⟨MN, hMN⟩ : ∃ MN, MN = m.length := ⟨_, rfl⟩
  rw [← hLN] at HC ⊢
  rw [← hMN] at HC2 ⊢
  cases ht : treeT l with
  | none =>
    have hg : goodT l = false := by unfold goodT; rw [ht]; rfl
    have h1 : leO l m = false := by unfold leO; rw [hg]; rfl
    have h3 : leR l m = false := by unfold leR; rw [h1]; rfl
    rw [ht] at HC
    rw [h1, h3]
    have hT2 : ∃ T2, T2 = treeT m := ⟨_, rfl⟩
    obtain ⟨T2, hT2⟩ := hT2
    rw [← hT2] at HC2
    clear h ht h1 h3 h2 hLN hMN hl hm hg hT2
    go_enter Try.func5, Try.ntmps5
    go_wp2_with fail
    refine Calls.mono HC.out ?_
    rintro e w1 ⟨hb1, k1, n1, sad1, sn1, sc1, rfl⟩
    have hb1' : Below w.heap.size w (w1.alloc (.cells #[.int .i64 k1, .int .i64 n1, .slice sad1 sn1 sc1] 32)) := hb1.alloc hb1.size _
    have HC3 := hide (HC2.out _ hb1')
    have HB1 := hide hb1'
    clear HC HC2 hb1'
    go_wp2_with fail
    refine Calls.mono HC3.out ?_
    intro e w2 hto
    cases T2 with
    | none =>
      obtain ⟨hb2, k2, n2, sad2, sn2, sc2, rfl⟩ := hto
      have HB2 := hide (HB1.out.trans (hb2.mono HB1.out.size))
      clear hb2
      go_wp2_with fail
      exact bodyPost_ret (v := .tuple #[.bool false, .bool false]) (by simp [results, Try.results5, go_sem]) rfl ⟨rfl, HB2.out.alloc HB2.out.size _⟩
    | some t2 =>
      obtain ⟨hb2, x2, k2, s2, hxe, rfl, hT⟩ := hto
      have HB2 := hide (HB1.out.trans (hb2.mono HB1.out.size))
      obtain ⟨sa2, sc2, hsf⟩ := hT.form
      obtain ⟨KN, hKN⟩ : ∃ KN, KN = k2.len := ⟨_, rfl⟩
      rw [← hKN] at hsf
      subst hsf
      clear hb2 hT hxe hKN
      go_wp2_with fail
      exact bodyPost_ret (v := .tuple #[.bool false, .bool false]) (by simp [results, Try.results5, go_sem]) rfl ⟨rfl, HB2.out.alloc HB2.out.size _⟩
  | some t =>
    obtain ⟨x, k, rfl⟩ := F.len_1 (treeT_flat ht).2.2.1
    have hg : goodT l = true := by unfold goodT; rw [ht]; rfl
    rw [ht] at HC
    obtain ⟨e1, ho, -, e4, -⟩ := treeT_flat ht
    obtain ⟨g1, l1, o1, -⟩ := ho
    have hok : okT x k := ⟨g1, l1, o1⟩
    have hk6 : k.flat.length + 1 ≤ 600 := by rw [e1] at e4; simpa [F.flat] using e4
    have hA : leA l = ldT x k := by unfold leA; rw [ht]
    cases ht2 : treeT m with
    | none =>
      have hg2 : goodT m = false := by unfold goodT; rw [ht2]; rfl
      have h1 : leO l m = false := by unfold leO; rw [hg2]; simp
      have h3 : leR l m = false := by unfold leR; rw [h1]; rfl
      rw [ht2] at HC2
      rw [h1, h3]
      clear h ht h1 h3 h2 hLN hMN hl hm hg hg2 ht2 e1 e4 g1 l1 o1 hok hA
      go_enter Try.func5, Try.ntmps5
      go_wp2_with fail
      refine Calls.mono HC.out ?_
      rintro e w1 ⟨hb1, x1, k1, s1, hxe, rfl, hT⟩
      obtain ⟨sa1, sc1, hsf⟩ := hT.form
      obtain ⟨KN, hKN⟩ : ∃ KN, KN = k1.len := ⟨_, rfl⟩
      rw [← hKN] at hsf
      subst hsf
      have hb1' : Below w.heap.size w (w1.alloc (.cells #[.int .i64 x1.k, .int .i64 x1.n, .slice sa1 KN sc1] 32)) := hb1.alloc hb1.size _
      have HC3 := hide (HC2.out _ hb1')
      have HB1 := hide hb1'
      clear HC HC2 hb1' hT hxe hKN
      go_wp2_with fail
      refine Calls.mono HC3.out ?_
      rintro e w2 ⟨hb2, k2, n2, sad2, sn2, sc2, rfl⟩
      have HB2 := hide (HB1.out.trans (hb2.mono HB1.out.size))
      clear hb2
      go_wp2_with fail
      exact bodyPost_ret (v := .tuple #[.bool false, .bool false]) (by simp [results, Try.results5, go_sem]) rfl ⟨rfl, HB2.out.alloc HB2.out.size _⟩
    | some t2 =>
      obtain ⟨y, ky, rfl⟩ := F.len_1 (treeT_flat ht2).2.2.1
      have hg2 : goodT m = true := by unfold goodT; rw [ht2]; rfl
      rw [ht2] at HC2
      obtain ⟨f1, fo, -, f4, -⟩ := treeT_flat ht2
      have hmr : m = y :: ky.flat := by rw [f1]; simp [F.flat]
      have hyd : (F.cons y ky .nil).ard := ok_ard fo
      have HP6 := hide (fun q hv => ldT_600 hok hk6 (l := q) hv)
      have HPp := hide (fun q (hv : ldT x k = some q) => ldT_pos hv)
      have HPd := hide (fun q (hv : ldT x k = some q) => ldT_ard hok hk6 hv)
      have HAl := hide (fun (s : Value) (w' : World) (hT : KidT w' TT k s) => l4All_any k x s w' hok hk6 hT)
      obtain ⟨D, hD⟩ : ∃ D, D = ldT x k := ⟨_, rfl⟩
      rw [← hD] at HAl HP6 HPp HPd hA
      have h1 : leO l m = D.isSome := by unfold leO; rw [hg, hg2, hA]; rfl
      have h3 : leR l m = hasO D (y :: ky.flat) := by
        unfold leR; rw [h1, hA, hmr]
        cases D <;> rfl
      rw [h1, h3]
      clear h ht h1 h3 h2 hLN hMN hl hm hg hg2 ht2 e1 e4 g1 l1 o1 hok hA hD f1 fo f4 hmr
      go_enter Try.func5, Try.ntmps5
      go_wp2_with fail
      refine Calls.mono HC.out ?_
      rintro e w1 ⟨hb1, x1, k1, s1, hxe, rfl, hT⟩
      simp only [F.cons.injEq, and_true] at hxe
      obtain ⟨rfl, rfl⟩ := hxe
      obtain ⟨sa1, sc1, hsf⟩ := hT.form
      obtain ⟨KN, hKN⟩ : ∃ KN, KN = k.len := ⟨_, rfl⟩
      rw [← hKN] at hsf
      subst hsf
      obtain ⟨wA, hwA⟩ : ∃ wA, wA = w1.alloc (.cells #[.int .i64 x.k, .int .i64 x.n, .slice sa1 KN sc1] 32) := ⟨_, rfl⟩
      have hb1' : Below w.heap.size w wA := by rw [hwA]; exact hb1.alloc hb1.size _
      have hTA : KidT wA TT k (.slice sa1 KN sc1) := by rw [hwA]; exact hT.tt.below ((Below.refl _ _).alloc (Nat.le_refl _) _)
      obtain ⟨T1, hT1⟩ : ∃ T1, T1 = w1.heap.size := ⟨_, rfl⟩
      have hX1 : wA.heap[T1]? = some (.cells #[.int .i64 x.k, .int .i64 x.n, .slice sa1 KN sc1] 32 (0, 0)) := by rw [hwA, hT1]; exact heap_alloc_new _ _
      have hlA : T1 < wA.heap.size := by rw [hwA, hT1]; simp
      have HC3 := hide (HC2.out _ hb1')
      have HB1 := hide hb1'
      have HTA := hide hTA
      have HX1 := hide hX1
      have HwA := hide hwA
      have HT1 := hide hT1
      clear HC HC2 hb1' hT hKN hwA hT1 hTA hX1 hb1
      go_wp2_with fail
      rw [← HwA.out, ← HT1.out]
      refine Calls.mono HC3.out ?_
      rintro e w2 ⟨hb2, x2, k2, s2, hxe, rfl, hT⟩
      simp only [F.cons.injEq, and_true] at hxe
      obtain ⟨rfl, rfl⟩ := hxe
      obtain ⟨sa2, sc2, hsf⟩ := hT.form
      obtain ⟨YN, hYN⟩ : ∃ YN, YN = ky.len := ⟨_, rfl⟩
      rw [← hYN] at hsf
      subst hsf
      obtain ⟨wB, hwB⟩ : ∃ wB, wB = w2.alloc (.cells #[.int .i64 y.k, .int .i64 y.n, .slice sa2 YN sc2] 32) := ⟨_, rfl⟩
      have hbA : Below wA.heap.size wA wB := by rw [hwB]; exact hb2.alloc hb2.size _
      have hTB : KidT wB TT ky (.slice sa2 YN sc2) := by rw [hwB]; exact hT.tt.below ((Below.refl _ _).alloc (Nat.le_refl _) _)
      obtain ⟨T2, hT2⟩ : ∃ T2, T2 = w2.heap.size := ⟨_, rfl⟩
      have hX2 : wB.heap[T2]? = some (.cells #[.int .i64 y.k, .int .i64 y.n, .slice sa2 YN sc2] 32 (0, 0)) := by rw [hwB, hT2]; exact heap_alloc_new _ _
      have hlB : T2 < wB.heap.size := by rw [hwB, hT2]; simp
      have hX1B := (hbA.block T1 hlA).trans HX1.out
      have HTAB := hide (HTA.out.below hbA)
      have HBB := hide (HB1.out.trans (hbA.mono HB1.out.size))
      have t0 : wB.cell? ⟨T1, 0, none⟩ = some (.int .i64 x.k) := (cell_of_blk hX1B 0).trans rfl
      have t1 : wB.cell? ⟨T1, 1, none⟩ = some (.int .i64 x.n) := (cell_of_blk hX1B 1).trans rfl
      have t2 : wB.cell? ⟨T1, 2, none⟩ = some (.slice sa1 KN sc1) := (cell_of_blk hX1B 2).trans rfl
      have HX2 := hide hX2
      have HTB := hide hTB
      have HwB := hide hwB
      have HT2 := hide hT2
      have HA1 := hide (HAl.out _ wB HTAB.out)
      rw [hwB] at t0 t1 t2
      clear HC3 hT hYN hwB hT2 hTB hX2 hb2 hbA hX1B HAl HTA HX1 HwA HT1
      go_wp2_with fail
      rw [← HwB.out, ← HT2.out]
      clear HwB HT2
      refine Calls.mono HA1.out ?_
      rintro e w3 ⟨hsa, hb3⟩
      have HB3 := hide (HBB.out.trans (hb3.mono HBB.out.size))
      have HX3 := hide ((hb3.block T2 hlB).trans HX2.out)
      have HT3 := hide (HTB.out.below hb3)
      have hl3 : T2 < w3.heap.size := by have := hb3.size; omega
      clear HA1 t0 t1 t2 hb3 HTB HX2 HTAB
      cases D with
      | none =>
        obtain ⟨a1, n1, c1, rfl⟩ : ∃ a n c, e = .returned (.tuple #[.slice a n c, .bool false]) := hsa
        go_wp2_with fail
        exact bodyPost_ret (v := .tuple #[.bool false, .bool false]) (by simp [results, Try.results5, go_sem]) rfl ⟨rfl, HB3.out⟩
      | some o =>
        obtain ⟨s', rfl, hKo⟩ : ∃ s', e = .returned (.tuple #[s', .bool true]) ∧ KidT w3 TT (toF o) s' := hsa
        have hP6 := HP6.out o rfl
        have ho2 := (HPp.out o rfl).2
        have hh : hasO (some o) (y :: ky.flat) = hasF o y ky := has_F (HPd.out o rfl) hyd
        have HHh := hide hh
        obtain ⟨oa, oc, hof⟩ := hKo.form
        rw [toF_len] at hof
        obtain ⟨ON, hON⟩ : ∃ ON, ON = o.length := ⟨_, rfl⟩
        rw [← hON] at hof ho2
        subst hof
        have HON := hide hON
        have HKo := hide hKo
        have HP6' := hide hP6
        clear hKo hON hh HP6 HPp HPd hP6
        go_wp2_with fail
        go_loopw [39] (fun i w' => ∃ A B : List (Cc × F), o = A ++ B ∧ i = .int .i64 (A.length : Int) ∧ hasF A y ky = false ∧ Below w3.heap.size w3 w') (fun i _ => ON - (intOf i).toNat)
        case atStart => exact ⟨[], o, rfl, rfl, rfl, Below.refl _ _⟩
        case round =>
          obtain ⟨A, B, hAB, rfl, hno, hBr⟩ := hrel
          have HNo := hide hno
          have HBr := hide hBr
          have HBw := hide (HB3.out.trans (hBr.mono HB3.out.size))
          clear hno hBr
          cases B with
          | nil =>
            rw [List.append_nil] at hAB
            subst hAB
            have hl1 := HON.out
            rw [← hl1]
            clear hl1
            go_wp2_with fail
            exact bodyPost_ret (v := .tuple #[.bool false, .bool true]) (by simp [results, Try.results5, go_sem]) rfl ⟨by rw [HHh.out, HNo.out]; rfl, HBw.out⟩
          | cons q B =>
            have hlt : A.length < ON := by rw [HON.out, hAB]; simp
            have hlt' : (A.length : Int) < (ON : Int) := by omega
            have ha0 : (0 : Int) ≤ (A.length : Int) := by omega
            have hTq : KidT w3 TT ((toF A).app (.cons q.1 q.2 (toF B))) (.slice oa ON oc) := by rw [← toF_split hAB]; exact HKo.out
            obtain ⟨g, cap, sq, he, hPg, hg, hTz, p0, p1, p2⟩ := KidT.kid hTq
            simp only [Value.slice.injEq] at he
            obtain ⟨rfl, -, rfl⟩ := he
            rw [toF_len] at p0 p1 p2
            have hqf : q.2.flat.length + 1 ≤ 600 := HP6'.out q (by rw [hAB]; simp)
            have HCs := hide (fun (ob : Obj) => l4Same_any q.2 q.1 y ky sq (.slice sa2 YN sc2) TT TT (wr.alloc ob) (by omega) ((hTz.below HBr.out).below ((Below.refl _ _).alloc (Nat.le_refl _) ob)) ((HT3.out.below HBr.out).below ((Below.refl _ _).alloc (Nat.le_refl _) ob)))
            obtain ⟨qad, qc, hqe⟩ := hTz.form
            obtain ⟨QN, hQN⟩ : ∃ QN, QN = q.2.len := ⟨_, rfl⟩
            rw [← hQN] at hqe
            subst hqe
            have q0 := (HBr.out.cell (p := ⟨g, A.length * 3, none⟩) hg).trans p0
            have q1 := (HBr.out.cell (p := ⟨g, A.length * 3 + 1, none⟩) hg).trans p1
            have q2 := (HBr.out.cell (p := ⟨g, A.length * 3 + 2, none⟩) hg).trans p2
            have hTr := (HBr.out.block T2 hl3).trans HX3.out
            have hsr : T2 < wr.heap.size := by have := HBr.out.size; omega
            have U0 : ∀ o : Obj, (wr.alloc o).cell? ⟨T2, 0, none⟩ = some (.int .i64 y.k) := fun o => (cell_of_blk ((heap_alloc_old _ _ hsr).trans hTr) 0).trans rfl
            have U1 : ∀ o : Obj, (wr.alloc o).cell? ⟨T2, 1, none⟩ = some (.int .i64 y.n) := fun o => (cell_of_blk ((heap_alloc_old _ _ hsr).trans hTr) 1).trans rfl
            have U2 : ∀ o : Obj, (wr.alloc o).cell? ⟨T2, 2, none⟩ = some (.slice sa2 YN sc2) := fun o => (cell_of_blk ((heap_alloc_old _ _ hsr).trans hTr) 2).trans rfl
            obtain ⟨SM, hSM⟩ : ∃ SM, SM = sameF (.cons q.1 q.2 .nil) (.cons y ky .nil) := ⟨_, rfl⟩
            have hat := hasF_at (y := y) (ky := ky) hAB HNo.out
            rw [← hSM] at HCs hat
            have HAt := hide hat
            have HAB : Hid (o = (A ++ [q]) ++ B) := hide (by rw [hAB]; simp)
            obtain ⟨AN, hAN⟩ : ∃ AN, AN = A.length := ⟨_, rfl⟩
            rw [← hAN] at hlt hlt' ha0 q0 q1 q2 ⊢
            have HAN := hide hAN
            clear hAB hTq hTz hPg p0 p1 p2 hqf hQN hSM hAN hTr hat
            go_wp2_with fail
            refine Calls.mono (HCs.out _) ?_
            rintro e w5 ⟨rfl, hb5⟩
            have hb5' : Below wr.heap.size wr w5 := ((Below.refl _ wr).alloc (Nat.le_refl _) _).trans (hb5.mono (by simp))
            clear HCs U0 U1 U2 q0 q1 q2 hb5
            cases SM with
            | true =>
              have hre : hasO (some o) (y :: ky.flat) = true := by rw [HHh.out, HAt.out.1]; rfl
              have HRe := hide hre
              have HBe := hide (HBw.out.trans (hb5'.mono HBw.out.size))
              clear hre
              go_wp2_with fail
              exact bodyPost_ret (v := .tuple #[.bool true, .bool true]) (by simp [results, Try.results5, go_sem]) rfl ⟨by rw [HRe.out]; rfl, HBe.out⟩
            | false =>
              go_wp2_with fail
              exact ⟨⟨A ++ [q], B, HAB.out, by rw [List.length_append, List.length_singleton, ← HAN.out]; go_num, HAt.out.2, HBr.out.trans (hb5'.mono HBr.out.size)⟩, by simp [intOf]; omega⟩
end Go.Proofs.Ytjalakdpmglamaa.W

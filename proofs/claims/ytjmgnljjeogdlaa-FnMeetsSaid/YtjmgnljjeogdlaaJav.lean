/-
  Some texts of this proof in one: TeLp, TeLt, SbB, PrC.
-/
import Derived.Test.YtjmgnljjeogdlaaJau
import Derived.Test.YtjmgnljjeogdlaaTeLw
import Derived.Test.YtjmgnljjeogdlaaJad
import Derived.Test.YtjmgnljjeogdlaaJas
import Derived.Test.YtjmgnljjeogdlaaJag
import Derived.Test.YtjmgnljjeogdlaaJap
import Derived.Test.YtjmgnljjeogdlaaJao
/-
  The program's LeadsTo. Conditions: at most 1048576 cells.
-/
namespace Go.Proofs.Ytjmgnljjeogdlaa.W
open Go.ChangeShapes Go.WideShapes Go.ChangeAt Go.RowKit
set_option linter.unusedVariables false

/-- All that a row leads to. -/
def leA (l : List Cc) : Option (List (Cc × F)) := match treeT l with | some (.cons x k _) => ldT x k | _ => none
/-- Whether there is room, and whether the second one is among them. -/
def leO (l m : List Cc) : Bool := goodT l && (goodT m && (leA l).isSome)
def hasO (D : Option (List (Cc × F))) (m : List Cc) : Bool := match D with | some o => hasR (o.map rw_) m | none => false
def leR (l m : List Cc) : Bool := leO l m && hasO (leA l) m

set_option maxRecDepth 20000 in
set_option maxHeartbeats 2000000 in
theorem implLeads_any (ad ad2 : Option Addr) (c c2 : Nat) (l m : List Cc) (w : World) (hl : l.length ≤ 1048576) (hm : m.length ≤ 1048576) (hc : l.length ≤ c) (h : CRow w ad l) (h2 : CRow w ad2 m) :
    Calls Try.prog 13 #[.slice ad l.length c, .slice ad2 m.length c2] w fun e w' => e = .returned (.tuple #[.bool (leR l m), .bool (leO l m)]) ∧ Below w.heap.size w w' := by
  have HC := hide (implGoodT_any ad c l w hl h)
  have HC2 := hide (fun (w' : World) (hb : Below w.heap.size w w') => implGoodT_any ad2 c2 m w' hm (h2.below hb))
  have HR2 := hide h2
  obtain ⟨LN, hLN⟩ : ∃ LN, LN = l.length := ⟨_, rfl⟩
  obtain ⟨MN, hMN⟩ : ∃ MN, MN = m.length := ⟨_, rfl⟩
  rw [← hLN] at HC
  rw [← hMN] at HC2
  have HMN := hide hMN
  cases ht : treeT l with
  | none =>
    have hg : goodT l = false := by unfold goodT; rw [ht]; rfl
    have h1 : leO l m = false := by unfold leO; rw [hg]; rfl
    have h3 : leR l m = false := by unfold leR; rw [h1]; rfl
    rw [hg] at HC
    rw [h1, h3, ← hLN, ← hMN]
    clear h ht h1 h3 h2 hLN hMN hl hm hc hg
    go_enter Try.func13, Try.ntmps13
    go_wp2_with fail
    refine Calls.mono HC.out ?_
    rintro e w1 ⟨rfl, hb1⟩
    clear HC
    go_wp2_with fail
    exact bodyPost_ret (v := .tuple #[.bool false, .bool false]) (by simp [results, Try.results13, go_sem]) rfl ⟨rfl, hb1⟩
  | some t =>
    obtain ⟨x, k, rfl⟩ := F.len_1 (treeT_flat ht).2.2.1
    have hg : goodT l = true := by unfold goodT; rw [ht]; rfl
    rw [hg] at HC
    cases hg2 : goodT m with
    | false =>
      have h1 : leO l m = false := by unfold leO; rw [hg2]; simp
      have h3 : leR l m = false := by unfold leR; rw [h1]; rfl
      rw [hg2] at HC2
      rw [h1, h3, ← hLN, ← hMN]
      clear h ht h1 h3 h2 hLN hMN hl hm hc hg hg2
      go_enter Try.func13, Try.ntmps13
      go_wp2_with fail
      refine Calls.mono HC.out ?_
      rintro e w1 ⟨rfl, hb1⟩
      clear HC
      go_wp2_with fail
      refine Calls.mono (HC2.out _ hb1) ?_
      rintro e w2 ⟨rfl, hb2⟩
      clear HC2
      go_wp2_with fail
      exact bodyPost_ret (v := .tuple #[.bool false, .bool false]) (by simp [results, Try.results13, go_sem]) rfl ⟨rfl, hb1.trans (hb2.mono hb1.size)⟩
    | true =>
      rw [hg2] at HC2
      obtain ⟨e1, ho, -, e4, -⟩ := treeT_flat ht
      obtain ⟨g1, l1, o1, -⟩ := ho
      have hok : okT x k := ⟨g1, l1, o1⟩
      have e5 : l = x :: (k.flat ++ []) := by rw [e1]; simp [F.flat]
      obtain ⟨b, o, rfl, hrow⟩ : ∃ b o, ad = some ⟨b, o, none⟩ ∧ CRowAt w b o l := by
        rcases h with h0 | h0
        · rw [e5] at h0; cases h0
        · exact h0
      have e6 : (k.flat ++ []).length + 1 = LN := by rw [hLN, e5]; simp
      have hk6 : k.flat.length + 1 ≤ 600 := by rw [e5] at e4; simpa using e4
      have HDv := hide (fun (w' : World) (hb : Below w.heap.size w w') => ledToAhead_any k x [] b o c w' hok (by omega) (by omega) (by rw [← e5]; exact hrow.below hb))
      rw [e6] at HDv
      have HP6 := hide (fun q hv => ldT_600 hok hk6 (l := q) hv)
      have HPp := hide (fun q (hv : ldT x k = some q) => ldT_pos hv)
      have hA : leA l = ldT x k := by unfold leA; rw [ht]
      obtain ⟨D, hD⟩ : ∃ D, D = ldT x k := ⟨_, rfl⟩
      rw [← hD] at HDv HP6 HPp hA
      have h1 : leO l m = D.isSome := by unfold leO; rw [hg, hg2, hA]; rfl
      have h3 : leR l m = hasO D m := by
        unfold leR; rw [h1, hA]
        cases D <;> rfl
      rw [h1, h3, ← hLN, ← hMN]
      rw [← hMN] at hm
      clear h ht h1 h3 h2 hLN hMN hl hc hg hg2 e1 e4 g1 l1 o1 hok e5 hrow e6 hA hD
      go_enter Try.func13, Try.ntmps13
      go_wp2_with fail
      refine Calls.mono HC.out ?_
      rintro e w1 ⟨rfl, hb1⟩
      clear HC
      go_wp2_with fail
      refine Calls.mono (HC2.out _ hb1) ?_
      rintro e w2 ⟨rfl, hb2⟩
      have hB2 : Below w.heap.size w w2 := hb1.trans (hb2.mono hb1.size)
      clear HC2 hb1 hb2
      go_wp2_with fail
      refine Calls.mono (HDv.out _ hB2) ?_
      rintro e w3 ⟨hdo, hb3⟩
      have hB3 : Below w.heap.size w w3 := hB2.trans (hb3.mono hB2.size)
      clear HDv hb3
      cases D with
      | none =>
        obtain ⟨a1, n1, c1, a2, n2, c2, rfl⟩ := hdo
        go_wp2_with fail
        exact bodyPost_ret (v := .tuple #[.bool false, .bool false]) (by simp [results, Try.results13, go_sem]) rfl ⟨rfl, hB3⟩
      | some q =>
        obtain ⟨s', q', rfl, -, ho'⟩ := hdo
        have hP6 := HP6.out q rfl
        have hq2 := (HPp.out q rfl).2
        have HHas := hide (hasTerm_any s' _ (q.map rw_) ad2 c2 m w3 ho' (by rw [List.length_map]; omega) (fun l hl => by
          rw [List.mem_map] at hl
          obtain ⟨p, hp, rfl⟩ := hl
          exact ⟨by simp [rw_], Nat.le_trans (hP6 p hp) (by omega)⟩) (HR2.out.below hB3) (by rw [← HMN.out]; exact hm))
        obtain ⟨sa, sc, rfl⟩ := ho'.form
        have hmn := HMN.out
        rw [List.length_map, ← hmn] at HHas
        rw [List.length_map]
        dsimp only [Option.isSome_some]
        obtain ⟨G, hG⟩ : ∃ G, G = hasR (q.map rw_) m := ⟨_, rfl⟩
        rw [← hG] at HHas
        have HG := hide hG
        obtain ⟨QN, hQN⟩ : ∃ QN, QN = q.length := ⟨_, rfl⟩
        rw [← hQN] at HHas ⊢
        clear hP6 hq2 ho' hmn hG hQN HP6 HPp
        go_wp2_with fail
        refine Calls.mono HHas.out ?_
        rintro e w4 ⟨rfl, hb4⟩
        clear HHas
        go_wp2_with fail
        exact bodyPost_ret (v := .tuple #[.bool G, .bool true]) (by simp [results, Try.results13, go_sem]) rfl ⟨by rw [HG.out]; rfl, hB3.trans (hb4.mono hB3.size)⟩
end Go.Proofs.Ytjmgnljjeogdlaa.W

/-
  The specification's LeadsTo. Conditions: at most 1048576 cells.
-/
namespace Go.Proofs.Ytjmgnljjeogdlaa.W
open Go.ChangeShapes Go.WideShapes Go.ChangeAt Go.RowKit
set_option linter.unusedVariables false
set_option linter.unusedSimpArgs false

def hasF (o : List (Cc × F)) (y : Cc) (ky : F) : Bool := o.any fun q => sameF (.cons q.1 q.2 .nil) (.cons y ky .nil)
theorem has_F {o : List (Cc × F)} {y : Cc} {ky : F} (ho : ∀ q ∈ o, (F.cons q.1 q.2 .nil).ard) (hy : (F.cons y ky .nil).ard) : hasR (o.map rw_) (y :: ky.flat) = hasF o y ky := by
  unfold hasR hasF
  rw [List.any_map, Bool.eq_iff_iff, List.any_eq_true, List.any_eq_true]
  have e : ∀ q ∈ o, sameR (rw_ q) (y :: ky.flat) = sameF (.cons q.1 q.2 .nil) (.cons y ky .nil) := fun q hq => by
    have := same_flat (ho q hq) hy rfl
    simpa [F.flat, rw_] using this
  exact ⟨fun ⟨q, h1, h2⟩ => ⟨q, h1, by rw [← e q h1]; exact h2⟩, fun ⟨q, h1, h2⟩ => ⟨q, h1, by rw [← e q h1] at h2; exact h2⟩⟩
theorem ok_ard : ∀ {a : F}, a.ok → a.ard
  | .nil, _ => trivial
  | .cons x k r, h => ⟨h.2.1, ok_ard h.2.2.1, ok_ard h.2.2.2⟩
theorem ldT_ard {x : Cc} {k : F} {l : List (Cc × F)} (hok : okT x k) (hl : k.flat.length + 1 ≤ 600) (h : ldT x k = some l) : ∀ p ∈ l, (F.cons p.1 p.2 .nil).ard := fun p hp =>
  okB_ard (ldr_B (a := .cons x k .nil) ⟨hok.1, hok.2.1, hok.2.2, trivial⟩ (by simpa [F.flat] using hl) (ldT_mem h p hp))
theorem hasF_at {o A B : List (Cc × F)} {q : Cc × F} {y : Cc} {ky : F} (h : o = A ++ q :: B) (hA : hasF A y ky = false) : hasF o y ky = (sameF (.cons q.1 q.2 .nil) (.cons y ky .nil) || hasF B y ky) ∧ hasF (A ++ [q]) y ky = sameF (.cons q.1 q.2 .nil) (.cons y ky .nil) := by
  unfold hasF at *
  rw [h, List.any_append, List.any_append, hA]
  simp

set_option maxRecDepth 20000 in
set_option maxHeartbeats 4000000 in
theorem specLeads_any (ad ad2 : Option Addr) (c c2 : Nat) (l m : List Cc) (w : World) (hl : l.length ≤ 1048576) (hm : m.length ≤ 1048576) (h : CRow w ad l) (h2 : CRow w ad2 m) :
    Calls Try.prog 14 #[.slice ad l.length c, .slice ad2 m.length c2] w fun e w' => e = .returned (.tuple #[.bool (leR l m), .bool (leO l m)]) ∧ Below w.heap.size w w' := by
  have HC := hide (l3Tree_any ad c l w hl h)
  have HC2 := hide (fun (w' : World) (hb : Below w.heap.size w w') => l3Tree_any ad2 c2 m w' hm (h2.below hb))
  obtain ⟨LN, hLN⟩ : ∃ LN, LN = l.length := ⟨_, rfl⟩
  obtain ⟨MN, hMN⟩ : ∃ MN, MN = m.length := ⟨_, rfl⟩
  rw [← hLN] at HC ⊢
  rw [← hMN] at HC2 ⊢
  cases ht : treeT l with
  | none =>
    have hg : goodT l = false := by unfold goodT; rw [ht]; rfl
    have h1 : leO l m = false := by unfold leO; rw [hg]; rfl
    have h3 : leR l m = false := by unfold leR; rw [h1]; rfl
    rw [ht] at HC
    rw [h1, h3]
    have hT2 : ∃ T2, T2 = treeT m := ⟨_, rfl⟩
    obtain ⟨T2, hT2⟩ := hT2
    rw [← hT2] at HC2
    clear h ht h1 h3 h2 hLN hMN hl hm hg hT2
    go_enter Try.func14, Try.ntmps14
    go_wp2_with fail
    refine Calls.mono HC.out ?_
    rintro e w1 ⟨hb1, k1, n1, sad1, sn1, sc1, rfl⟩
    have hb1' : Below w.heap.size w (w1.alloc (.cells #[.int .i64 k1, .int .i64 n1, .slice sad1 sn1 sc1] 55)) := hb1.alloc hb1.size _
    have HC3 := hide (HC2.out _ hb1')
    have HB1 := hide hb1'
    clear HC HC2 hb1'
    go_wp2_with fail
    refine Calls.mono HC3.out ?_
    intro e w2 hto
    cases T2 with
    | none =>
      obtain ⟨hb2, k2, n2, sad2, sn2, sc2, rfl⟩ := hto
      have HB2 := hide (HB1.out.trans (hb2.mono HB1.out.size))
      clear hb2
      go_wp2_with fail
      exact bodyPost_ret (v := .tuple #[.bool false, .bool false]) (by simp [results, Try.results14, go_sem]) rfl ⟨rfl, HB2.out.alloc HB2.out.size _⟩
    | some t2 =>
      obtain ⟨hb2, x2, k2, s2, hxe, rfl, hT⟩ := hto
      have HB2 := hide (HB1.out.trans (hb2.mono HB1.out.size))
      obtain ⟨sa2, sc2, hsf⟩ := hT.form
      obtain ⟨KN, hKN⟩ : ∃ KN, KN = k2.len := ⟨_, rfl⟩
      rw [← hKN] at hsf
      subst hsf
      clear hb2 hT hxe hKN
      go_wp2_with fail
      exact bodyPost_ret (v := .tuple #[.bool false, .bool false]) (by simp [results, Try.results14, go_sem]) rfl ⟨rfl, HB2.out.alloc HB2.out.size _⟩
  | some t =>
    obtain ⟨x, k, rfl⟩ := F.len_1 (treeT_flat ht).2.2.1
    have hg : goodT l = true := by unfold goodT; rw [ht]; rfl
    rw [ht] at HC
    obtain ⟨e1, ho, -, e4, -⟩ := treeT_flat ht
    obtain ⟨g1, l1, o1, -⟩ := ho
    have hok : okT x k := ⟨g1, l1, o1⟩
    have hk6 : k.flat.length + 1 ≤ 600 := by rw [e1] at e4; simpa [F.flat] using e4
    have hA : leA l = ldT x k := by unfold leA; rw [ht]
    cases ht2 : treeT m with
    | none =>
      have hg2 : goodT m = false := by unfold goodT; rw [ht2]; rfl
      have h1 : leO l m = false := by unfold leO; rw [hg2]; simp
      have h3 : leR l m = false := by unfold leR; rw [h1]; rfl
      rw [ht2] at HC2
      rw [h1, h3]
      clear h ht h1 h3 h2 hLN hMN hl hm hg hg2 ht2 e1 e4 g1 l1 o1 hok hA
      go_enter Try.func14, Try.ntmps14
      go_wp2_with fail
      refine Calls.mono HC.out ?_
      rintro e w1 ⟨hb1, x1, k1, s1, hxe, rfl, hT⟩
      obtain ⟨sa1, sc1, hsf⟩ := hT.form
      obtain ⟨KN, hKN⟩ : ∃ KN, KN = k1.len := ⟨_, rfl⟩
      rw [← hKN] at hsf
      subst hsf
      have hb1' : Below w.heap.size w (w1.alloc (.cells #[.int .i64 x1.k, .int .i64 x1.n, .slice sa1 KN sc1] 55)) := hb1.alloc hb1.size _
      have HC3 := hide (HC2.out _ hb1')
      have HB1 := hide hb1'
      clear HC HC2 hb1' hT hxe hKN
      go_wp2_with fail
      refine Calls.mono HC3.out ?_
      rintro e w2 ⟨hb2, k2, n2, sad2, sn2, sc2, rfl⟩
      have HB2 := hide (HB1.out.trans (hb2.mono HB1.out.size))
      clear hb2
      go_wp2_with fail
      exact bodyPost_ret (v := .tuple #[.bool false, .bool false]) (by simp [results, Try.results14, go_sem]) rfl ⟨rfl, HB2.out.alloc HB2.out.size _⟩
    | some t2 =>
      obtain ⟨y, ky, rfl⟩ := F.len_1 (treeT_flat ht2).2.2.1
      have hg2 : goodT m = true := by unfold goodT; rw [ht2]; rfl
      rw [ht2] at HC2
      obtain ⟨f1, fo, -, f4, -⟩ := treeT_flat ht2
      have hmr : m = y :: ky.flat := by rw [f1]; simp [F.flat]
      have hyd : (F.cons y ky .nil).ard := ok_ard fo
      have HP6 := hide (fun q hv => ldT_600 hok hk6 (l := q) hv)
      have HPp := hide (fun q (hv : ldT x k = some q) => ldT_pos hv)
      have HPd := hide (fun q (hv : ldT x k = some q) => ldT_ard hok hk6 hv)
      have HAl := hide (fun (s : Value) (w' : World) (hT : KidT w' TT k s) => l4All_any k x s w' hok hk6 hT)
      obtain ⟨D, hD⟩ : ∃ D, D = ldT x k := ⟨_, rfl⟩
      rw [← hD] at HAl HP6 HPp HPd hA
      have h1 : leO l m = D.isSome := by unfold leO; rw [hg, hg2, hA]; rfl
      have h3 : leR l m = hasO D (y :: ky.flat) := by
        unfold leR; rw [h1, hA, hmr]
        cases D <;> rfl
      rw [h1, h3]
      clear h ht h1 h3 h2 hLN hMN hl hm hg hg2 ht2 e1 e4 g1 l1 o1 hok hA hD f1 fo f4 hmr
      go_enter Try.func14, Try.ntmps14
      go_wp2_with fail
      refine Calls.mono HC.out ?_
      rintro e w1 ⟨hb1, x1, k1, s1, hxe, rfl, hT⟩
      simp only [F.cons.injEq, and_true] at hxe
      obtain ⟨rfl, rfl⟩ := hxe
      obtain ⟨sa1, sc1, hsf⟩ := hT.form
      obtain ⟨KN, hKN⟩ : ∃ KN, KN = k.len := ⟨_, rfl⟩
      rw [← hKN] at hsf
      subst hsf
      obtain ⟨wA, hwA⟩ : ∃ wA, wA = w1.alloc (.cells #[.int .i64 x.k, .int .i64 x.n, .slice sa1 KN sc1] 55) := ⟨_, rfl⟩
      have hb1' : Below w.heap.size w wA := by rw [hwA]; exact hb1.alloc hb1.size _
      have hTA : KidT wA TT k (.slice sa1 KN sc1) := by rw [hwA]; exact hT.tt.below ((Below.refl _ _).alloc (Nat.le_refl _) _)
      obtain ⟨T1, hT1⟩ : ∃ T1, T1 = w1.heap.size := ⟨_, rfl⟩
      have hX1 : wA.heap[T1]? = some (.cells #[.int .i64 x.k, .int .i64 x.n, .slice sa1 KN sc1] 55 (0, 0)) := by rw [hwA, hT1]; exact heap_alloc_new _ _
      have hlA : T1 < wA.heap.size := by rw [hwA, hT1]; simp
      have HC3 := hide (HC2.out _ hb1')
      have HB1 := hide hb1'
      have HTA := hide hTA
      have HX1 := hide hX1
      have HwA := hide hwA
      have HT1 := hide hT1
      clear HC HC2 hb1' hT hKN hwA hT1 hTA hX1 hb1
      go_wp2_with fail
      rw [← HwA.out, ← HT1.out]
      refine Calls.mono HC3.out ?_
      rintro e w2 ⟨hb2, x2, k2, s2, hxe, rfl, hT⟩
      simp only [F.cons.injEq, and_true] at hxe
      obtain ⟨rfl, rfl⟩ := hxe
      obtain ⟨sa2, sc2, hsf⟩ := hT.form
      obtain ⟨YN, hYN⟩ : ∃ YN, YN = ky.len := ⟨_, rfl⟩
      rw [← hYN] at hsf
      subst hsf
      obtain ⟨wB, hwB⟩ : ∃ wB, wB = w2.alloc (.cells #[.int .i64 y.k, .int .i64 y.n, .slice sa2 YN sc2] 55) := ⟨_, rfl⟩
      have hbA : Below wA.heap.size wA wB := by rw [hwB]; exact hb2.alloc hb2.size _
      have hTB : KidT wB TT ky (.slice sa2 YN sc2) := by rw [hwB]; exact hT.tt.below ((Below.refl _ _).alloc (Nat.le_refl _) _)
      obtain ⟨T2, hT2⟩ : ∃ T2, T2 = w2.heap.size := ⟨_, rfl⟩
      have hX2 : wB.heap[T2]? = some (.cells #[.int .i64 y.k, .int .i64 y.n, .slice sa2 YN sc2] 55 (0, 0)) := by rw [hwB, hT2]; exact heap_alloc_new _ _
      have hlB : T2 < wB.heap.size := by rw [hwB, hT2]; simp
      have hX1B := (hbA.block T1 hlA).trans HX1.out
      have HTAB := hide (HTA.out.below hbA)
      have HBB := hide (HB1.out.trans (hbA.mono HB1.out.size))
      have t0 : wB.cell? ⟨T1, 0, none⟩ = some (.int .i64 x.k) := (cell_of_blk hX1B 0).trans rfl
      have t1 : wB.cell? ⟨T1, 1, none⟩ = some (.int .i64 x.n) := (cell_of_blk hX1B 1).trans rfl
      have t2 : wB.cell? ⟨T1, 2, none⟩ = some (.slice sa1 KN sc1) := (cell_of_blk hX1B 2).trans rfl
      have HX2 := hide hX2
      have HTB := hide hTB
      have HwB := hide hwB
      have HT2 := hide hT2
      have HA1 := hide (HAl.out _ wB HTAB.out)
      rw [hwB] at t0 t1 t2
      clear HC3 hT hYN hwB hT2 hTB hX2 hb2 hbA hX1B HAl HTA HX1 HwA HT1
      go_wp2_with fail
      rw [← HwB.out, ← HT2.out]
      clear HwB HT2
      refine Calls.mono HA1.out ?_
      rintro e w3 ⟨hsa, hb3⟩
      have HB3 := hide (HBB.out.trans (hb3.mono HBB.out.size))
      have HX3 := hide ((hb3.block T2 hlB).trans HX2.out)
      have HT3 := hide (HTB.out.below hb3)
      have hl3 : T2 < w3.heap.size := by have := hb3.size; omega
      clear HA1 t0 t1 t2 hb3 HTB HX2 HTAB
      cases D with
      | none =>
        obtain ⟨a1, n1, c1, rfl⟩ : ∃ a n c, e = .returned (.tuple #[.slice a n c, .bool false]) := hsa
        go_wp2_with fail
        exact bodyPost_ret (v := .tuple #[.bool false, .bool false]) (by simp [results, Try.results14, go_sem]) rfl ⟨rfl, HB3.out⟩
      | some o =>
        obtain ⟨s', rfl, hKo⟩ : ∃ s', e = .returned (.tuple #[s', .bool true]) ∧ KidT w3 TT (toF o) s' := hsa
        have hP6 := HP6.out o rfl
        have ho2 := (HPp.out o rfl).2
        have hh : hasO (some o) (y :: ky.flat) = hasF o y ky := has_F (HPd.out o rfl) hyd
        have HHh := hide hh
        obtain ⟨oa, oc, hof⟩ := hKo.form
        rw [toF_len] at hof
        obtain ⟨ON, hON⟩ : ∃ ON, ON = o.length := ⟨_, rfl⟩
        rw [← hON] at hof ho2
        subst hof
        have HON := hide hON
        have HKo := hide hKo
        have HP6' := hide hP6
        clear hKo hON hh HP6 HPp HPd hP6
        go_wp2_with fail
        go_loopw [39] (fun i w' => ∃ A B : List (Cc × F), o = A ++ B ∧ i = .int .i64 (A.length : Int) ∧ hasF A y ky = false ∧ Below w3.heap.size w3 w') (fun i _ => ON - (intOf i).toNat)
        case atStart => exact ⟨[], o, rfl, rfl, rfl, Below.refl _ _⟩
        case round =>
          obtain ⟨A, B, hAB, rfl, hno, hBr⟩ := hrel
          have HNo := hide hno
          have HBr := hide hBr
          have HBw := hide (HB3.out.trans (hBr.mono HB3.out.size))
          clear hno hBr
          cases B with
          | nil =>
            rw [List.append_nil] at hAB
            subst hAB
            have hl1 := HON.out
            rw [← hl1]
            clear hl1
            go_wp2_with fail
            exact bodyPost_ret (v := .tuple #[.bool false, .bool true]) (by simp [results, Try.results14, go_sem]) rfl ⟨by rw [HHh.out, HNo.out]; rfl, HBw.out⟩
          | cons q B =>
            have hlt : A.length < ON := by rw [HON.out, hAB]; simp
            have hlt' : (A.length : Int) < (ON : Int) := by omega
            have ha0 : (0 : Int) ≤ (A.length : Int) := by omega
            have hTq : KidT w3 TT ((toF A).app (.cons q.1 q.2 (toF B))) (.slice oa ON oc) := by rw [← toF_split hAB]; exact HKo.out
            obtain ⟨g, cap, sq, he, hPg, hg, hTz, p0, p1, p2⟩ := KidT.kid hTq
            simp only [Value.slice.injEq] at he
            obtain ⟨rfl, -, rfl⟩ := he
            rw [toF_len] at p0 p1 p2
            have hqf : q.2.flat.length + 1 ≤ 600 := HP6'.out q (by rw [hAB]; simp)
            have HCs := hide (fun (ob : Obj) => l4Same_any q.2 q.1 y ky sq (.slice sa2 YN sc2) TT TT (wr.alloc ob) (by omega) ((hTz.below HBr.out).below ((Below.refl _ _).alloc (Nat.le_refl _) ob)) ((HT3.out.below HBr.out).below ((Below.refl _ _).alloc (Nat.le_refl _) ob)))
            obtain ⟨qad, qc, hqe⟩ := hTz.form
            obtain ⟨QN, hQN⟩ : ∃ QN, QN = q.2.len := ⟨_, rfl⟩
            rw [← hQN] at hqe
            subst hqe
            have q0 := (HBr.out.cell (p := ⟨g, A.length * 3, none⟩) hg).trans p0
            have q1 := (HBr.out.cell (p := ⟨g, A.length * 3 + 1, none⟩) hg).trans p1
            have q2 := (HBr.out.cell (p := ⟨g, A.length * 3 + 2, none⟩) hg).trans p2
            have hTr := (HBr.out.block T2 hl3).trans HX3.out
            have hsr : T2 < wr.heap.size := by have := HBr.out.size; omega
            have U0 : ∀ o : Obj, (wr.alloc o).cell? ⟨T2, 0, none⟩ = some (.int .i64 y.k) := fun o => (cell_of_blk ((heap_alloc_old _ _ hsr).trans hTr) 0).trans rfl
            have U1 : ∀ o : Obj, (wr.alloc o).cell? ⟨T2, 1, none⟩ = some (.int .i64 y.n) := fun o => (cell_of_blk ((heap_alloc_old _ _ hsr).trans hTr) 1).trans rfl
            have U2 : ∀ o : Obj, (wr.alloc o).cell? ⟨T2, 2, none⟩ = some (.slice sa2 YN sc2) := fun o => (cell_of_blk ((heap_alloc_old _ _ hsr).trans hTr) 2).trans rfl
            obtain ⟨SM, hSM⟩ : ∃ SM, SM = sameF (.cons q.1 q.2 .nil) (.cons y ky .nil) := ⟨_, rfl⟩
            have hat := hasF_at (y := y) (ky := ky) hAB HNo.out
            rw [← hSM] at HCs hat
            have HAt := hide hat
            have HAB : Hid (o = (A ++ [q]) ++ B) := hide (by rw [hAB]; simp)
            obtain ⟨AN, hAN⟩ : ∃ AN, AN = A.length := ⟨_, rfl⟩
            rw [← hAN] at hlt hlt' ha0 q0 q1 q2 ⊢
            have HAN := hide hAN
            clear hAB hTq hTz hPg p0 p1 p2 hqf hQN hSM hAN hTr hat
            go_wp2_with fail
            refine Calls.mono (HCs.out _) ?_
            rintro e w5 ⟨rfl, hb5⟩
            have hb5' : Below wr.heap.size wr w5 := ((Below.refl _ wr).alloc (Nat.le_refl _) _).trans (hb5.mono (by simp))
            clear HCs U0 U1 U2 q0 q1 q2 hb5
            cases SM with
            | true =>
              have hre : hasO (some o) (y :: ky.flat) = true := by rw [HHh.out, HAt.out.1]; rfl
              have HRe := hide hre
              have HBe := hide (HBw.out.trans (hb5'.mono HBw.out.size))
              clear hre
              go_wp2_with fail
              exact bodyPost_ret (v := .tuple #[.bool true, .bool true]) (by simp [results, Try.results14, go_sem]) rfl ⟨by rw [HRe.out]; rfl, HBe.out⟩
            | false =>
              go_wp2_with fail
              exact ⟨⟨A ++ [q], B, HAB.out, by rw [List.length_append, List.length_singleton, ← HAN.out]; go_num, HAt.out.2, HBr.out.trans (hb5'.mono HBr.out.size)⟩, by simp [intOf]; omega⟩
end Go.Proofs.Ytjmgnljjeogdlaa.W

/-
  What SubstTerm, ShiftTerm and FreeIn tell of rows: two that are put in the place of variables may be put in either order; which variables are left. No program here.
-/
namespace Go.Proofs.Ytjmgnljjeogdlaa.W
set_option linter.unusedVariables false
set_option linter.unusedSimpArgs false

/-- What FreeIn tells. -/
def frS (l : List Cc) : List Int := match treeT l with | some a => freT a | none => []
theorem frS_mem {l : List Cc} {x : Cc} {k : F} (ht : treeT l = some (.cons x k .nil)) (n : Int) : n ∈ frS l ↔ 0 ≤ n ∧ hv 0 0 0 (.cons x k .nil) n := by
  have ho := (treeT_flat ht).2.1
  have e : frS l = fre 0 0 0 (.cons x k .nil) [] := by
    unfold frS; rw [ht, fre_cons]; simp only [fre, binds0, Nat.add_zero]; rfl
  rw [e]
  constructor
  · intro h
    have h0 := fre_pos _ 0 0 0 [] (by simp) n h
    exact ⟨h0, by simpa using (mem_fre _ 0 0 0 [] n (ok_nv ho) h0).1 h⟩
  · rintro ⟨h0, h⟩
    exact (mem_fre _ 0 0 0 [] n (ok_nv ho) h0).2 (.inr h)
theorem rB_some {r : Option (List Cc)} (h : rB r = true) : ∃ cs, r = some cs ∧ goodT cs = true ∧ rL r = cs := by
  cases r with
  | none => cases h
  | some cs => exact ⟨cs, rfl, h, by show gd cs = cs; unfold gd; exact if_pos h⟩
theorem tree_is {l : List Cc} {t : F} (h : treeT l = some t) : ∃ x k, t = .cons x k .nil := F.len_1 (treeT_flat h).2.2.1
theorem tree_fit {x : Cc} {k : F} (hf : (F.cons x k .nil).fit) (hg : goodT (x :: k.flat) = true) : treeT (x :: k.flat) = some (.cons x k .nil) := by
  obtain ⟨h1, h2⟩ := good_back hf hg
  have := treeT_back (a := .cons x k .nil) ⟨h1.1, h1.2.1, h1.2.2, trivial⟩ rfl (by simpa [F.flat] using h2)
  simpa [F.flat] using this
theorem sbf_one (K : Nat) (sx : Cc) (sk : F) (x : Cc) (k : F) : sbf K sx sk 0 0 0 (.cons x k .nil) = .cons (sbr K sx 0 x) (sbk K sx sk 0 x k) .nil := by
  rw [sbf_cons, binds0, sbf_nil]
theorem sb_some {l ls : List Cc} {K : Int} (h : rB (sbR l K ls) = true) : ∃ x k sx sk, treeT l = some (.cons x k .nil) ∧ treeT ls = some (.cons sx sk .nil) ∧ 0 ≤ K ∧
    rL (sbR l K ls) = sbr K.toNat sx 0 x :: (sbk K.toNat sx sk 0 x k).flat ∧ treeT (rL (sbR l K ls)) = some (.cons (sbr K.toNat sx 0 x) (sbk K.toNat sx sk 0 x k) .nil) := by
  obtain ⟨cs, h1, h2, h3⟩ := rB_some h
  rw [h3]
  unfold sbR at h1
  cases ht : treeT l with
  | none => rw [ht] at h1; cases h1
  | some t =>
    obtain ⟨x, k, rfl⟩ := tree_is ht
    cases hts : treeT ls with
    | none => rw [ht, hts] at h1; cases h1
    | some t2 =>
      obtain ⟨sx, sk, rfl⟩ := tree_is hts
      rw [ht, hts] at h1
      simp only at h1
      split at h1
      · rename_i hc
        simp only [Option.some.injEq] at h1
        have hf : (F.cons (sbr K.toNat sx 0 x) (sbk K.toNat sx sk 0 x k) .nil).fit := by
          rw [← sbf_one]
          exact sbf_fit K.toNat sx sk (F.ok_fit (treeT_flat hts).2.1) _ 0 0 0 (F.ok_fit (treeT_flat ht).2.1)
        refine ⟨x, k, sx, sk, rfl, rfl, ?_, h1.symm, ?_⟩
        · simp [inB] at hc; omega
        · rw [← h1] at h2 ⊢
          exact tree_fit hf h2
      · cases h1
theorem sh_some {l : List Cc} {by_ f : Int} (h : rB (shR l by_ f) = true) : ∃ x k, treeT l = some (.cons x k .nil) ∧ treeT (rL (shR l by_ f)) = some (.cons (shc by_ f.toNat x) (shf by_ x.k f.toNat 0 k) .nil) := by
  obtain ⟨cs, h1, h2, h3⟩ := rB_some h
  rw [h3]
  unfold shR at h1
  cases ht : treeT l with
  | none => rw [ht] at h1; cases h1
  | some t =>
    obtain ⟨x, k, rfl⟩ := tree_is ht
    rw [ht] at h1
    simp only at h1
    split at h1
    · simp only [Option.some.injEq] at h1
      have hf : (F.cons (shc by_ f.toNat x) (shf by_ x.k f.toNat 0 k) .nil).fit := by
        have := shf_fit by_ (.cons x k .nil) 0 f.toNat 0 (F.ok_fit (treeT_flat ht).2.1)
        simpa only [shf, binds0, Nat.add_zero] using this
      refine ⟨x, k, rfl, ?_⟩
      rw [← h1] at h2 ⊢
      exact tree_fit hf h2
    · cases h1
/-- Two that are put in the place of variables may be put in either order. -/
theorem either_order {l ls lu : List Cc} (h1 : rB (sbR l 0 ls) = true) (h2 : rB (sbR (rL (sbR l 0 ls)) 0 lu) = true) (h3 : rB (shR lu 1 0) = true) (h4 : rB (sbR l 1 (rL (shR lu 1 0))) = true) (h5 : rB (sbR ls 0 lu) = true)
    (h6 : rB (sbR (rL (sbR l 1 (rL (shR lu 1 0)))) 0 (rL (sbR ls 0 lu))) = true) : rL (sbR (rL (sbR l 0 ls)) 0 lu) = rL (sbR (rL (sbR l 1 (rL (shR lu 1 0)))) 0 (rL (sbR ls 0 lu))) := by
  obtain ⟨x, k, sx, sk, t1, t2, -, e1, f1⟩ := sb_some h1
  obtain ⟨ax, ak, ux, uk, t3, t4, -, e2, f2⟩ := sb_some h2
  rw [f1] at t3
  simp only [Option.some.injEq, F.cons.injEq, and_true] at t3
  obtain ⟨rfl, rfl⟩ := t3
  obtain ⟨ux', uk', t5, f3⟩ := sh_some h3
  rw [t4] at t5
  simp only [Option.some.injEq, F.cons.injEq, and_true] at t5
  obtain ⟨rfl, rfl⟩ := t5
  obtain ⟨x', k', cx, ck, t6, t7, -, e4, f4⟩ := sb_some h4
  rw [t1] at t6
  rw [f3] at t7
  simp only [Option.some.injEq, F.cons.injEq, and_true] at t6 t7
  obtain ⟨rfl, rfl⟩ := t6
  obtain ⟨rfl, rfl⟩ := t7
  obtain ⟨sx', sk', ux', uk', t8, t9, -, e5, f5⟩ := sb_some h5
  rw [t2] at t8
  rw [t4] at t9
  simp only [Option.some.injEq, F.cons.injEq, and_true] at t8 t9
  obtain ⟨rfl, rfl⟩ := t8
  obtain ⟨rfl, rfl⟩ := t9
  obtain ⟨dx, dk, ex, ek, t10, t11, -, e6, f6⟩ := sb_some h6
  rw [f4] at t10
  rw [f5] at t11
  simp only [Option.some.injEq, F.cons.injEq, and_true] at t10 t11
  obtain ⟨rfl, rfl⟩ := t10
  obtain ⟨rfl, rfl⟩ := t11
  rw [e2, e6]
  have hm := sbf_sbf (ok_nv (treeT_flat t2).2.1) (ok_nv (treeT_flat t4).2.1) (.cons x k .nil) 0 0 0 (ok_nv (treeT_flat t1).2.1)
  rw [sbf_one, sbf_one, sbf_one, sbf_one] at hm
  simp only [F.cons.injEq, and_true] at hm
  have z0 : (0 : Int).toNat = 0 := rfl
  have z1 : (1 : Int).toNat = 1 := rfl
  rw [z0, z1]
  rw [hm.1, hm.2]
/-- Which variables what is put together has. -/
theorem left_free {l ls : List Cc} {K : Int} (h : rB (sbR l K ls) = true) : (treeT l).isSome = true ∧ (treeT ls).isSome = true ∧ (treeT (rL (sbR l K ls))).isSome = true ∧
    ∀ n ∈ frS (rL (sbR l K ls)), (n ∈ frS l ∧ n < K) ∨ ((n + 1) ∈ frS l ∧ K ≤ n) ∨ (K ∈ frS l ∧ n ∈ frS ls) := by
  obtain ⟨x, k, sx, sk, t1, t2, hK, e1, f1⟩ := sb_some h
  refine ⟨by rw [t1]; rfl, by rw [t2]; rfl, by rw [f1]; rfl, fun n hn => ?_⟩
  obtain ⟨hn0, hh⟩ := (frS_mem f1 n).1 hn
  rw [← sbf_one] at hh
  have hk : ((K.toNat : Nat) : Int) = K := by omega
  have := hv_sbf (K := K.toNat) (.cons x k .nil) 0 0 0 n hn0 (ok_nv (treeT_flat t1).2.1) hh
  rw [hk] at this
  rcases this with h | h | h
  · exact .inl ⟨(frS_mem t1 n).2 ⟨hn0, h.1⟩, h.2⟩
  · exact .inr (.inl ⟨(frS_mem t1 (n + 1)).2 ⟨by omega, h.1⟩, h.2⟩)
  · exact .inr (.inr ⟨(frS_mem t1 K).2 ⟨hK, h.1⟩, (frS_mem t2 n).2 ⟨hn0, h.2⟩⟩)
end Go.Proofs.Ytjmgnljjeogdlaa.W

/-
  What LeadsTo, DevelopTerm, StepsOf and IsNormal tell of rows, held against one another (Church and Rosser; Takahashi). No program here.
-/
namespace Go.Proofs.Ytjmgnljjeogdlaa.W
set_option linter.unusedVariables false
set_option linter.unusedSimpArgs false

theorem ok_gs : ∀ {a : F}, a.ok → a.gs
  | .nil, _ => trivial
  | .cons x k r, h => ⟨h.2.1, fun hx => ((ok_nv h).1 hx).2, ok_gs h.2.2.1, ok_gs h.2.2.2⟩
theorem gs_ard : ∀ {a : F}, a.gs → a.ard
  | .nil, _ => trivial
  | .cons x k r, h => ⟨h.1, gs_ard h.2.2.1, gs_ard h.2.2.2⟩
theorem ldr_pr : ∀ {a a' : F}, ldr a a' → pr a a'
  | .nil, a', h => ldr_nil h
  | .cons y ky r, a', h => by
    simp only [ldr] at h
    obtain ⟨ky', r', h1, h2, -, h4 | ⟨h5, p, h6, h7⟩⟩ := h
    · simp only [pr]; exact ⟨ky', r', ldr_pr h1, ldr_pr h2, .inl h4⟩
    · simp only [pr]; exact ⟨ky', r', ldr_pr h1, ldr_pr h2, .inr ⟨h5, by rw [← ctrO_T h6]; exact h7⟩⟩
theorem dvF_dev : ∀ {a a' : F}, dvF a = some a' → a' = dev a
  | .nil, a', h => dvF_nil h
  | .cons y ky r, a', h => by
    rw [dvF] at h
    cases hk : dvF ky with
    | none => rw [hk] at h; cases h
    | some ky' =>
      rw [hk] at h
      simp only at h
      split at h
      · have ek := dvF_dev hk
        rw [dev, ← ek]
        by_cases hrd : redx y ky = true
        · rw [if_pos hrd] at h ⊢
          cases hc : ctrO y ky' with
          | none => rw [hc] at h; cases h
          | some p =>
            rw [hc] at h
            simp only at h
            cases hr : dvF r with
            | none => rw [hr] at h; cases h
            | some r' =>
              rw [hr] at h
              simp only [Option.map_some, Option.some.injEq] at h
              rw [← h, ← ctrO_T hc, dvF_dev hr]
        · rw [if_neg hrd] at h ⊢
          simp only at h
          cases hr : dvF r with
          | none => rw [hr] at h; cases h
          | some r' =>
            rw [hr] at h
            simp only [Option.map_some, Option.some.injEq] at h
            rw [← h, dvF_dev hr]
      · cases h
theorem dv_dev {x : Cc} {k : F} {p : Cc × F} (h : dv x k = some p) : F.cons p.1 p.2 .nil = dev (.cons x k .nil) := by
  refine dvF_dev (a := .cons x k .nil) ?_
  rw [dvF_cons, h]; rfl

theorem ldA_keep {out : List (Cc × F)} {p q : Cc × F} (h : q ∈ out) : q ∈ ldA out p := by
  unfold ldA
  split
  · exact h
  · exact List.mem_append.2 (.inl h)
theorem ldA_has {out : List (Cc × F)} {p : Cc × F} (ho : ∀ q ∈ out, (F.cons q.1 q.2 .nil).ard) (hp : (F.cons p.1 p.2 .nil).ard) : p ∈ ldA out p := by
  unfold ldA
  split
  · rename_i h
    rw [List.any_eq_true] at h
    obtain ⟨q, hq, hs⟩ := h
    have e := (sameR_iff _ _).1 hs
    have := flat_inj (ho q hq) hp rfl (by simpa [F.flat] using e)
    simp only [F.cons.injEq, and_true] at this
    have : q = p := Prod.ext this.1 this.2
    rw [← this]; exact hq
  · exact List.mem_append.2 (.inr (List.mem_singleton.2 rfl))
theorem ldC_keep (x : Cc) : ∀ (ws : List F) (out res : List (Cc × F)), ldC x out ws = some res → ∀ q ∈ out, q ∈ res
  | [], out, res, h, q, hq => by simp only [ldC, Option.some.injEq] at h; rw [← h]; exact hq
  | w :: r, out, res, h, q, hq => by
    rw [ldC] at h
    cases hc : ctrO x w with
    | none => rw [hc] at h; cases h
    | some p =>
      rw [hc] at h
      exact ldC_keep x r _ res h q (ldA_keep hq)
theorem ldC_has (x : Cc) : ∀ (ws : List F) (out res : List (Cc × F)), ldC x out ws = some res → (∀ q ∈ out, (F.cons q.1 q.2 .nil).ard) → (∀ w ∈ ws, (F.cons (ctrT x w).1 (ctrT x w).2 .nil).ard) → ∀ w ∈ ws, ctrT x w ∈ res
  | [], _, _, _, _, _, w, hw => by cases hw
  | w :: r, out, res, h, ho, ha, v, hv => by
    rw [ldC] at h
    cases hc : ctrO x w with
    | none => rw [hc] at h; cases h
    | some p =>
      rw [hc] at h
      have hp : p = ctrT x w := ctrO_T hc
      have hpa : (F.cons p.1 p.2 .nil).ard := by rw [hp]; exact ha w (by simp)
      rcases List.mem_cons.1 hv with rfl | hv
      · rw [← hp]; exact ldC_keep x r _ res h p (ldA_has ho hpa)
      · refine ldC_has x r _ res h (fun q hq => ?_) (fun w hw => ha w (List.mem_cons_of_mem _ hw)) v hv
        rcases ldA_mem hq with h1 | rfl
        · exact ho q h1
        · exact hpa
theorem ldX_has {x : Cc} {k : F} {vs : List F} {l : List (Cc × F)} (hg : (F.cons x k .nil).gs) (hv : ∀ u ∈ vs, pr k u) (h : ldX x (redx x k) vs = some l) : ∀ u ∈ vs, (x, u) ∈ l ∧ (redx x k = true → ctrT x u ∈ l) := by
  intro u hu
  have hxa : ∀ v ∈ vs, (F.cons x v .nil).ard := fun v hv' => ⟨by rw [pr_len (hv v hv')]; exact hg.1, gs_ard (pr_gs hg.2.2.1 (hv v hv')), trivial⟩
  unfold ldX at h
  split at h
  · cases h
  · split at h
    · rename_i hrd
      cases hc : ldC x (vs.map fun w => (x, w)) vs with
      | none => rw [hc] at h; cases h
      | some out =>
        rw [hc] at h
        simp only at h
        split at h
        · simp only [Option.some.injEq] at h
          rw [← h]
          refine ⟨ldC_keep x _ _ _ hc _ (List.mem_map.2 ⟨u, hu, rfl⟩), fun _ => ldC_has x _ _ _ hc (fun q hq => ?_) (fun w hw => ?_) u hu⟩
          · rw [List.mem_map] at hq
            obtain ⟨v, hv', rfl⟩ := hq
            exact hxa v hv'
          · exact gs_ard (ctr_gs (rsh_pr (rsh_of hg hrd) (hv w hw)) (pr_gs hg.2.2.1 (hv w hw)))
        · cases h
    · rename_i hrd
      split at h
      · simp only [Option.some.injEq] at h
        rw [← h]
        exact ⟨List.mem_map.2 ⟨u, hu, rfl⟩, fun h2 => absurd h2 hrd⟩
      · cases h
/-- All that is led to is told. -/
theorem ldG_has : ∀ (a : F), a.gs → ∀ (a' : F) (ws us : List F), pr a a' → ldG ws a = some us → ∀ w ∈ ws, w.app a' ∈ us
  | .nil, _, a', ws, us, hp, h, w, hw => by
    rw [pr_nil hp, F.app_nil]
    simp only [ldG, Option.some.injEq] at h
    rw [← h]; exact hw
  | .cons x k r, hg, a', ws, us, hp, h, w, hw => by
    rw [ldG_cons] at h
    cases ht : ldT x k with
    | none => rw [ht] at h; cases h
    | some l =>
      rw [ht] at h
      simp only at h
      split at h
      · cases h
      · simp only [pr] at hp
        obtain ⟨k', r', h1, h2, h3⟩ := hp
        unfold ldT at ht
        cases hv : ldG [.nil] k with
        | none => rw [hv] at ht; cases ht
        | some vs =>
          rw [hv] at ht
          have hk' : k' ∈ vs := by
            have := ldG_has k hg.2.2.1 k' [.nil] vs h1 hv .nil (by simp)
            simpa [F.app] using this
          obtain ⟨q1, q2⟩ := ldX_has (gs_one hg) (fun u hu => ldr_pr (ldG_ldr hv u hu)) ht k' hk'
          have hin : ∀ p ∈ l, w.app (.cons p.1 p.2 r') ∈ us := fun p hp => by
            have := ldG_has r hg.2.2.2 r' _ us h2 h (w.app (.cons p.1 p.2 .nil)) (by
              unfold ldW
              rw [List.mem_flatMap]
              exact ⟨w, hw, List.mem_map.2 ⟨p, hp, rfl⟩⟩)
            rw [F.app_assoc] at this
            exact this
          rcases h3 with rfl | ⟨h4, rfl⟩
          · exact hin _ q1
          · exact hin _ (q2 h4)
theorem ldT_has {x : Cc} {k : F} {l : List (Cc × F)} (hg : (F.cons x k .nil).gs) (h : ldT x k = some l) {p : Cc} {kp : F} (hp : pr (.cons x k .nil) (.cons p kp .nil)) : (p, kp) ∈ l := by
  simp only [pr] at hp
  obtain ⟨k', r', h1, h2, h3⟩ := hp
  unfold ldT at h
  cases hv : ldG [.nil] k with
  | none => rw [hv] at h; cases h
  | some vs =>
    rw [hv] at h
    have hk' : k' ∈ vs := by
      have := ldG_has k hg.2.2.1 k' [.nil] vs h1 hv .nil (by simp)
      simpa [F.app] using this
    obtain ⟨q1, q2⟩ := ldX_has hg (fun u hu => ldr_pr (ldG_ldr hv u hu)) h k' hk'
    rcases h3 with h3 | ⟨h4, h3⟩
    · simp only [F.cons.injEq] at h3
      rw [h3.1, h3.2.1]; exact q1
    · simp only [F.cons.injEq] at h3
      rw [h3.1, h3.2.1]; exact q2 h4

/-- One row leads to another just if the terms do. -/
theorem le_of {l m : List Cc} {x y : Cc} {k ky : F} (hl : treeT l = some (.cons x k .nil)) (hm : treeT m = some (.cons y ky .nil)) (hO : leO l m = true) (hp : pr (.cons x k .nil) (.cons y ky .nil)) : leR l m = true := by
  have hA : leA l = ldT x k := by unfold leA; rw [hl]
  unfold leR
  rw [hO, hA]
  unfold leO at hO
  rw [hA] at hO
  simp only [Bool.and_eq_true] at hO
  obtain ⟨o, ho⟩ := Option.isSome_iff_exists.1 hO.2.2
  rw [ho]
  show (true && hasR (o.map rw_) m) = true
  rw [Bool.true_and]
  unfold hasR
  rw [List.any_eq_true]
  refine ⟨rw_ (y, ky), List.mem_map.2 ⟨(y, ky), ldT_has (ok_gs (treeT_flat hl).2.1) ho hp, rfl⟩, ?_⟩
  rw [sameR_iff, (treeT_flat hm).1]
  simp [rw_, F.flat]
theorem le_pr {l m : List Cc} (h : leR l m = true) : ∃ x k y ky, treeT l = some (.cons x k .nil) ∧ treeT m = some (.cons y ky .nil) ∧ pr (.cons x k .nil) (.cons y ky .nil) := by
  unfold leR at h
  rw [Bool.and_eq_true] at h
  obtain ⟨hO, hh⟩ := h
  unfold leO at hO
  simp only [Bool.and_eq_true] at hO
  obtain ⟨h1, h2, h3⟩ := hO
  unfold goodT at h1 h2
  obtain ⟨t1, ht1⟩ := Option.isSome_iff_exists.1 h1
  obtain ⟨t2, ht2⟩ := Option.isSome_iff_exists.1 h2
  obtain ⟨x, k, rfl⟩ := tree_is ht1
  obtain ⟨y, ky, rfl⟩ := tree_is ht2
  have hA : leA l = ldT x k := by unfold leA; rw [ht1]
  rw [hA] at hh h3
  obtain ⟨o, ho⟩ := Option.isSome_iff_exists.1 h3
  rw [ho] at hh
  have hh' : hasR (o.map rw_) m = true := hh
  unfold hasR at hh'
  rw [List.any_eq_true] at hh'
  obtain ⟨q, hq, hs⟩ := hh'
  rw [List.mem_map] at hq
  obtain ⟨p, hp, rfl⟩ := hq
  have e := (sameR_iff _ _).1 hs
  have hpr := ldr_pr (ldT_mem ho p hp)
  have hgs := ok_gs (treeT_flat ht1).2.1
  have := flat_inj (gs_ard (pr_gs hgs hpr)) (gs_ard (ok_gs (treeT_flat ht2).2.1)) rfl (by rw [← (treeT_flat ht2).1, ← e]; simp [rw_, F.flat])
  rw [this] at hpr
  exact ⟨x, k, y, ky, ht1, ht2, hpr⟩
theorem dv_tree {l : List Cc} (h : rB (dvR l) = true) : ∃ x k p kp, treeT l = some (.cons x k .nil) ∧ treeT (rL (dvR l)) = some (.cons p kp .nil) ∧ F.cons p kp .nil = dev (.cons x k .nil) := by
  obtain ⟨cs, h1, h2, h3⟩ := rB_some h
  rw [h3]
  unfold dvR at h1
  cases ht : treeT l with
  | none => rw [ht] at h1; cases h1
  | some t =>
    obtain ⟨x, k, rfl⟩ := tree_is ht
    rw [ht] at h1
    simp only at h1
    cases hd : dv x k with
    | none => rw [hd] at h1; cases h1
    | some p =>
      rw [hd] at h1
      simp only [Option.map_some, Option.some.injEq] at h1
      have hdev := dv_dev hd
      have hgs := ok_gs (treeT_flat ht).2.1
      have hg2 : (F.cons p.1 p.2 .nil).gs := by rw [hdev]; exact pr_gs hgs (pr_dev _)
      refine ⟨x, k, p.1, p.2, rfl, ?_, hdev⟩
      rw [← h1] at h2 ⊢
      unfold goodT at h2
      obtain ⟨t2, ht2⟩ := Option.isSome_iff_exists.1 h2
      obtain ⟨y, ky, rfl⟩ := tree_is ht2
      have := flat_inj (gs_ard hg2) (gs_ard (ok_gs (treeT_flat ht2).2.1)) rfl (by rw [← (treeT_flat ht2).1]; simp [F.flat])
      rw [ht2, this]
/-- What some redexes make leads to what all make. -/
theorem meets {l m : List Cc} (h1 : leR l m = true) (h2 : rB (dvR l) = true) (h3 : leO m (rL (dvR l)) = true) : leR m (rL (dvR l)) = true := by
  obtain ⟨x, k, y, ky, t1, t2, hp⟩ := le_pr h1
  obtain ⟨x', k', p, kp, t3, t4, hd⟩ := dv_tree h2
  rw [t1] at t3
  simp only [Option.some.injEq, F.cons.injEq, and_true] at t3
  obtain ⟨rfl, rfl⟩ := t3
  refine le_of t2 t4 h3 ?_
  rw [hd]
  exact triangle (ok_gs (treeT_flat t1).2.1) hp
theorem leO_good {l m : List Cc} (h : leO l m = true) : ∃ x k y ky, treeT l = some (.cons x k .nil) ∧ treeT m = some (.cons y ky .nil) := by
  unfold leO at h
  simp only [Bool.and_eq_true] at h
  obtain ⟨h1, h2, -⟩ := h
  unfold goodT at h1 h2
  obtain ⟨t1, ht1⟩ := Option.isSome_iff_exists.1 h1
  obtain ⟨t2, ht2⟩ := Option.isSome_iff_exists.1 h2
  obtain ⟨x, k, rfl⟩ := tree_is ht1
  obtain ⟨y, ky, rfl⟩ := tree_is ht2
  exact ⟨x, k, y, ky, ht1, ht2⟩
theorem le_self {l : List Cc} (h : leO l l = true) : leR l l = true := by
  obtain ⟨x, k, y, ky, t1, t2⟩ := leO_good h
  exact le_of t1 t1 h (pr_refl _)
theorem le_dev {l : List Cc} (h2 : rB (dvR l) = true) (h : leO l (rL (dvR l)) = true) : leR l (rL (dvR l)) = true := by
  obtain ⟨x', k', p, kp, t3, t4, hd⟩ := dv_tree h2
  refine le_of t3 t4 h ?_
  rw [hd]
  exact pr_dev _
theorem sk_pr : ∀ (a : F), ∀ q ∈ sk a, ∀ b, q.2 = some b → pr a b
  | .nil, q, hq, b, hb => by simp [sk] at hq
  | .cons y ky r, q, hq, b, hb => by
    rw [sk_cons] at hq
    rcases List.mem_append.1 hq with hq | hq
    · rcases List.mem_append.1 hq with hq | hq
      · split at hq
        · rename_i hrd
          rw [List.mem_singleton] at hq
          subst hq
          simp only at hb
          cases hc : ctrO y ky with
          | none => rw [hc] at hb; cases hb
          | some p =>
            rw [hc] at hb
            simp only [Option.map_some, Option.some.injEq] at hb
            rw [← hb]
            simp only [pr]
            exact ⟨ky, r, pr_refl _, pr_refl _, .inr ⟨hrd, by rw [← ctrO_T hc]⟩⟩
        · cases hq
      · rw [List.mem_map] at hq
        obtain ⟨s, hs, rfl⟩ := hq
        simp only at hb
        cases hc : s.2 with
        | none => rw [hc] at hb; cases hb
        | some ky' =>
          rw [hc] at hb
          simp only [Option.map_some, Option.some.injEq] at hb
          rw [← hb]
          simp only [pr]
          exact ⟨ky', r, sk_pr ky s hs ky' hc, pr_refl _, .inl rfl⟩
    · rw [List.mem_map] at hq
      obtain ⟨s, hs, rfl⟩ := hq
      simp only at hb
      cases hc : s.2 with
      | none => rw [hc] at hb; cases hb
      | some r' =>
        rw [hc] at hb
        simp only [Option.map_some, Option.some.injEq] at hb
        rw [← hb]
        simp only [pr]
        exact ⟨ky, r', pr_refl _, sk_pr r s hs r' hc, .inl rfl⟩
theorem le_step {l : List Cc} {L : List (List Cc)} (h : stR l = some L) {s : List Cc} (hs : s ∈ L) (hO : leO l s = true) : leR l s = true := by
  obtain ⟨x, k, y, ky, t1, t2⟩ := leO_good hO
  refine le_of t1 t2 hO ?_
  unfold stR at h
  rw [t1] at h
  simp only at h
  have hm := coll_mem h s hs
  rw [List.mem_map] at hm
  obtain ⟨q, hq, hg⟩ := hm
  unfold tgd at hg
  cases hc : q.2 with
  | none => rw [hc] at hg; cases hg
  | some p =>
    rw [hc] at hg
    simp only at hg
    split at hg
    · simp only [Option.some.injEq] at hg
      have hpr : pr (.cons x k .nil) (.cons p.1 p.2 .nil) := by
        unfold sh at hq
        rcases List.mem_append.1 hq with hq | hq
        · split at hq
          · rename_i hrd
            rw [List.mem_singleton] at hq
            subst hq
            simp only at hc
            simp only [pr]
            exact ⟨k, .nil, pr_refl _, rfl, .inr ⟨hrd, by rw [← ctrO_T hc]⟩⟩
          · cases hq
        · rw [List.mem_map] at hq
          obtain ⟨u, hu, rfl⟩ := hq
          simp only at hc
          cases hu2 : u.2 with
          | none => rw [hu2] at hc; cases hc
          | some k' =>
            rw [hu2] at hc
            simp only [Option.map_some, Option.some.injEq] at hc
            rw [← hc]
            simp only [pr]
            exact ⟨k', .nil, sk_pr k u hu k' hu2, rfl, .inl rfl⟩
      have := flat_inj (gs_ard (pr_gs (ok_gs (treeT_flat t1).2.1) hpr)) (gs_ard (ok_gs (treeT_flat t2).2.1)) rfl (by rw [← (treeT_flat t2).1, ← hg]; simp [F.flat])
      rw [this] at hpr
      exact hpr
    · cases hg
theorem sk_any : ∀ a : F, (sk a).isEmpty = !anyR a
  | .nil => rfl
  | .cons y ky r => by
    rw [sk_cons]
    have h1 := sk_any ky
    have h2 := sk_any r
    simp only [anyR]
    cases hr : redx y ky <;> cases hk : anyR ky <;> cases hq : anyR r <;> rw [hk] at h1 <;> rw [hq] at h2 <;> simp_all
end Go.Proofs.Ytjmgnljjeogdlaa.W

/-
  Some texts of this proof in one: TeSb, TeBb.
-/
import Derived.Test.YtjmgnljjeogdlaaJu
import Derived.Test.YtjmgnljjeogdlaaJo
/-
  The specification's SubstTerm, where l3Subst's contract is given. Conditions: at most 1048576 cells.
-/
namespace Go.Proofs.Ytjmgnljjeogdlaa.W
open Go.ChangeShapes Go.WideShapes Go.ChangeAt Go.RowKit
set_option linter.unusedVariables false

theorem l3Tree_form (ad : Option Addr) (c : Nat) (l : List Cc) (w : World) (hl : l.length ≤ 1048576) (h : CRow w ad l) :
    Calls Try.prog 26 #[.slice ad l.length c] w fun e w' => ∃ k n sad sn sc, e = .returned (.tuple #[.agg #[.int .i64 k, .int .i64 n, .slice sad sn sc], .bool (goodT l)]) ∧ Below w.heap.size w w' := by
  refine (l3Tree_any ad c l w hl h).mono ?_
  rintro e w' ⟨hb, ho⟩
  unfold goodT
  cases ht : treeT l with
  | none =>
    rw [ht] at ho
    obtain ⟨k, n, sad, sn, sc, rfl⟩ := ho
    exact ⟨k, n, sad, sn, sc, rfl, hb⟩
  | some a =>
    rw [ht] at ho
    obtain ⟨x, k, s, -, rfl, hK⟩ := ho
    obtain ⟨sad, sc, rfl⟩ := hK.form
    exact ⟨x.k, x.n, sad, _, sc, rfl, hb⟩

set_option maxRecDepth 20000 in
set_option maxHeartbeats 2000000 in
theorem specSubst_bad (ad sad : Option Addr) (c sc : Nat) (l ls : List Cc) (K : Int) (w : World) (hl : l.length ≤ 1048576) (h : CRow w ad l) (hls : ls.length ≤ 1048576) (hs : CRow w sad ls) (hb : goodT l = false ∨ goodT ls = false ∨ inB K 0 99 = false) :
    Calls Try.prog 7 #[.slice ad l.length c, .int .i64 K, .slice sad ls.length sc] w fun e w' => RS w none e w' := by
  have HRS := hide hs
  have HC := hide (l3Tree_form ad c l w hl h)
  have HCS := hide (fun (w' : World) (hb : Below w.heap.size w w') => l3Tree_form sad sc ls w' hls (HRS.out.below hb))
  have Hf := hide (l1In_any K 0 99)
  obtain ⟨b1, hb1⟩ : ∃ b1, b1 = goodT l := ⟨_, rfl⟩
  obtain ⟨b2, hb2⟩ : ∃ b2, b2 = goodT ls := ⟨_, rfl⟩
  obtain ⟨b3, hb3⟩ : ∃ b3, b3 = inB K 0 99 := ⟨_, rfl⟩
  rw [← hb1] at HC hb
  rw [← hb2] at HCS hb
  rw [← hb3] at Hf hb
  clear h hs hb1 hb2 hb3
  go_enter Try.func7, Try.ntmps7
  go_wp2_with fail
  refine Calls.mono HC.out ?_
  rintro e w1 ⟨xk, xn, pad, pn, pc, rfl, hB1⟩
  clear HC
  go_wp2_with fail
  refine Calls.mono (HCS.out _ (hB1.alloc hB1.size _)) ?_
  rintro e w2 ⟨yk, yn, qad, qn, qc, rfl, hb2⟩
  have hB2 : Below w.heap.size w w2 := (hB1.alloc hB1.size _).trans (hb2.mono (hB1.alloc hB1.size _).size)
  clear HCS hb2
  cases b1 with
  | false =>
    clear hb
    go_wp2_with fail
    exact bodyPost_ret (v := .tuple #[.slice none 0 0, .bool false]) (by simp [results, Try.results7, go_sem]) rfl ⟨_, rfl, World.ownsRow_nil _ _ _ _, hB2.alloc hB2.size _⟩
  | true =>
    cases b2 with
    | false =>
      clear hb
      go_wp2_with fail
      exact bodyPost_ret (v := .tuple #[.slice none 0 0, .bool false]) (by simp [results, Try.results7, go_sem]) rfl ⟨_, rfl, World.ownsRow_nil _ _ _ _, hB2.alloc hB2.size _⟩
    | true =>
      obtain rfl : b3 = false := by
        rcases hb with h | h | h
        · cases h
        · cases h
        · exact h
      clear hb
      go_wp2_with fail
      refine (Hf.out _).mono ?_
      rintro e w3 ⟨rfl, hw3⟩
      obtain rfl := hw3.symm
      go_wp2_with fail
      exact bodyPost_ret (v := .tuple #[.slice none 0 0, .bool false]) (by simp [results, Try.results7, go_sem]) rfl ⟨_, rfl, World.ownsRow_nil _ _ _ _, hB2.alloc hB2.size _⟩

theorem specSubst_any (HPG : ∀ k, L3PGoal k) (ad sad : Option Addr) (c sc : Nat) (l ls : List Cc) (K : Int) (w : World) (hl : l.length ≤ 1048576) (h : CRow w ad l) (hls : ls.length ≤ 1048576) (hs : CRow w sad ls) :
    Calls Try.prog 7 #[.slice ad l.length c, .int .i64 K, .slice sad ls.length sc] w fun e w' => RS w (sbR l K ls) e w' := by
  cases ht : treeT l with
  | none =>
    have hr : sbR l K ls = none := by unfold sbR; rw [ht]
    rw [hr]
    exact specSubst_bad ad sad c sc l ls K w hl h hls hs (.inl (by unfold goodT; rw [ht]; rfl))
  | some a =>
    obtain ⟨x, k, rfl⟩ := F.len_1 (treeT_flat ht).2.2.1
    cases hts : treeT ls with
    | none =>
      have hr : sbR l K ls = none := by unfold sbR; rw [ht, hts]
      rw [hr]
      exact specSubst_bad ad sad c sc l ls K w hl h hls hs (.inr (.inl (by unfold goodT; rw [hts]; rfl)))
    | some b =>
      obtain ⟨sx, sk, rfl⟩ := F.len_1 (treeT_flat hts).2.2.1
      cases hk : inB K 0 99 with
      | false =>
        have hr : sbR l K ls = none := by unfold sbR; rw [ht, hts]; simp only; rw [hk]; simp
        rw [hr]
        exact specSubst_bad ad sad c sc l ls K w hl h hls hs (.inr (.inr hk))
      | true =>
        have h5 : 0 ≤ K ∧ K ≤ 99 := by simpa [inB] using hk
        obtain ⟨Kn, rfl⟩ := Int.eq_ofNat_of_zero_le h5.1
        exact specSubst_good HPG ad sad c sc l ls Kn x sx k sk w hl h hls hs ht hts (by omega)
end Go.Proofs.Ytjmgnljjeogdlaa.W

/-
  The program's SubstTerm. Conditions: at most 1048576 cells.
-/
namespace Go.Proofs.Ytjmgnljjeogdlaa.W
open Go.ChangeShapes Go.WideShapes Go.ChangeAt Go.RowKit
set_option linter.unusedVariables false

set_option maxRecDepth 20000 in
set_option maxHeartbeats 2000000 in
theorem implSubst_bad (ad sad : Option Addr) (c sc : Nat) (l ls : List Cc) (K : Int) (w : World) (hl : l.length ≤ 1048576) (h : CRow w ad l) (hls : ls.length ≤ 1048576) (hs : CRow w sad ls) (hb : goodT l = false ∨ goodT ls = false ∨ inB K 0 99 = false) :
    Calls Try.prog 6 #[.slice ad l.length c, .int .i64 K, .slice sad ls.length sc] w fun e w' => RS w none e w' := by
  have HRS := hide hs
  have HG := hide (implGoodT_any ad c l w hl h)
  have HGS := hide (fun (w' : World) (hb : Below w.heap.size w w') => implGoodT_any sad sc ls w' hls (HRS.out.below hb))
  have Hf := hide (isFar_any K)
  clear h hs
  by_cases hg : goodT l = true
  · rw [hg] at HG
    by_cases hgs : goodT ls = true
    · rw [hgs] at HGS
      have h3 : inB K 0 99 = false := by
        rcases hb with h | h | h
        · rw [hg] at h; cases h
        · rw [hgs] at h; cases h
        · exact h
      rw [h3] at Hf
      clear hb hg hgs h3
      go_enter Try.func6, Try.ntmps6
      go_wp2_with fail
      refine Calls.mono HG.out ?_
      rintro e w1 ⟨rfl, hB1⟩
      go_wp2_with fail
      refine Calls.mono (HGS.out w1 hB1) ?_
      rintro e w2 ⟨rfl, hb2⟩
      have hB2 : Below w.heap.size w w2 := hB1.trans (hb2.mono hB1.size)
      clear hb2
      go_wp2_with fail
      refine (Hf.out _).mono ?_
      rintro e w2' ⟨rfl, hw2⟩
      obtain rfl := hw2.symm
      go_wp2_with fail
      exact bodyPost_ret (v := .tuple #[.slice none 0 0, .bool false]) (by simp [results, Try.results6, go_sem]) rfl ⟨_, rfl, World.ownsRow_nil _ _ _ _, hB2⟩
    · rw [Bool.not_eq_true] at hgs
      rw [hgs] at HGS
      clear hb hg hgs
      go_enter Try.func6, Try.ntmps6
      go_wp2_with fail
      refine Calls.mono HG.out ?_
      rintro e w1 ⟨rfl, hB1⟩
      go_wp2_with fail
      refine Calls.mono (HGS.out w1 hB1) ?_
      rintro e w2 ⟨rfl, hb2⟩
      have hB2 : Below w.heap.size w w2 := hB1.trans (hb2.mono hB1.size)
      clear hb2
      go_wp2_with fail
      exact bodyPost_ret (v := .tuple #[.slice none 0 0, .bool false]) (by simp [results, Try.results6, go_sem]) rfl ⟨_, rfl, World.ownsRow_nil _ _ _ _, hB2⟩
  · rw [Bool.not_eq_true] at hg
    rw [hg] at HG
    clear hb hg
    go_enter Try.func6, Try.ntmps6
    go_wp2_with fail
    refine Calls.mono HG.out ?_
    rintro e w1 ⟨rfl, hB1⟩
    go_wp2_with fail
    exact bodyPost_ret (v := .tuple #[.slice none 0 0, .bool false]) (by simp [results, Try.results6, go_sem]) rfl ⟨_, rfl, World.ownsRow_nil _ _ _ _, hB1⟩

set_option maxRecDepth 20000 in
set_option maxHeartbeats 2000000 in
theorem implSubst_good (ad sad : Option Addr) (c sc : Nat) (l ls : List Cc) (K : Nat) (x sx : Cc) (k sk : F) (w : World) (hl : l.length ≤ 1048576) (hc : l.length ≤ c) (h : CRow w ad l) (hls : ls.length ≤ 1048576) (hsc : ls.length ≤ sc) (hs : CRow w sad ls) (ht : treeT l = some (.cons x k .nil)) (hts : treeT ls = some (.cons sx sk .nil)) (hK : K ≤ 99) :
    Calls Try.prog 6 #[.slice ad l.length c, .int .i64 (K : Int), .slice sad ls.length sc] w fun e w' => RS w (sbR l (K : Int) ls) e w' := by
  have HR := hide h
  have HRS := hide hs
  have hg : goodT l = true := by unfold goodT; rw [ht]; rfl
  have hgs : goodT ls = true := by unfold goodT; rw [hts]; rfl
  have HG := hide (implGoodT_any ad c l w hl h)
  have HGS := hide (fun (w' : World) (hb : Below w.heap.size w w') => implGoodT_any sad sc ls w' hls (HRS.out.below hb))
  rw [hg] at HG
  rw [hgs] at HGS
  have Hf := hide (isFar_any (K : Int))
  rw [show inB (K : Int) 0 99 = true by simp [inB]; omega] at Hf
  have HS := hide (fun (w' : World) (hb : Below w.heap.size w w') => substituted_any ad sad c sc l ls K x sx k sk w' hl hc (HR.out.below hb) hls hsc (HRS.out.below hb) ht hts hK)
  have hr0 : sbR l (K : Int) ls = sbU l K ls x k sx sk := by
    unfold sbR sbU
    rw [ht, hts]
    simp only [Int.toNat_natCast]
    rw [show inB (K : Int) 0 99 = true by simp [inB]; omega]
    simp
  rw [hr0]
  have hlen : ∀ cs, sbU l K ls x k sx sk = some cs → cs.length ≤ 1048576 := by
    intro cs hcs
    unfold sbU at hcs
    split at hcs
    · rename_i h6
      simp only [Option.some.injEq] at hcs
      subst hcs
      obtain ⟨t1, t2, -, -, -⟩ := treeT_flat ht
      obtain ⟨u1, -, -, -, -⟩ := treeT_flat hts
      have h9 := sbf_flat K sx sk (.cons x k .nil) 0 0 0 t2
      have h10 : usf (K + 0) 0 0 (.cons x k .nil) = us1 K x k := by rw [usf_cons, binds_0]; simp [usf]
      have h11 : sbf K sx sk 0 0 0 (.cons x k .nil) = .cons (sbr K sx 0 x) (sbk K sx sk 0 x k) .nil := by rw [sbf_cons, binds_0]; rfl
      rw [h10, h11, ← t1] at h9
      have h12 : ls.length - 1 = sk.flat.length := by rw [u1]; simp [F.flat]
      rw [h12] at h6
      have h13 : (F.cons (sbr K sx 0 x) (sbk K sx sk 0 x k) .nil).flat = sbr K sx 0 x :: (sbk K sx sk 0 x k).flat := by simp [F.flat]
      rw [h13] at h9
      omega
    · cases hcs
  obtain ⟨R, hR⟩ : ∃ R, R = sbU l K ls x k sx sk := ⟨_, rfl⟩
  rw [← hR] at HS hlen ⊢
  clear h hs ht hts hg hgs hr0 hR
  go_enter Try.func6, Try.ntmps6
  go_wp2_with fail
  refine Calls.mono HG.out ?_
  rintro e w1 ⟨rfl, hB1⟩
  go_wp2_with fail
  refine Calls.mono (HGS.out w1 hB1) ?_
  rintro e w2 ⟨rfl, hb2⟩
  have hB2 : Below w.heap.size w w2 := hB1.trans (hb2.mono hB1.size)
  clear hb2
  go_wp2_with fail
  refine (Hf.out _).mono ?_
  rintro e w2' ⟨rfl, hw2⟩
  obtain rfl := hw2.symm
  clear HG HGS Hf hw2
  go_wp2_with fail
  refine Calls.mono (HS.out w2 hB2) ?_
  rintro e w3 ⟨s3, rfl, ho3, hb3⟩
  have hB3 : Below w.heap.size w w3 := hB2.trans (hb3.mono hB2.size)
  clear HS hb3
  cases R with
  | none =>
    obtain ⟨rad, rc, rfl⟩ := iOwn_form ho3
    clear ho3
    go_wp2_with fail
    exact bodyPost_ret (v := .tuple #[.slice none 0 0, .bool false]) (by simp [results, Try.results6, go_sem]) rfl ⟨_, rfl, World.ownsRow_nil _ _ _ _, hB3⟩
  | some cs =>
    have hlc := hlen cs rfl
    have ho3' : w3.ownsRow w2.heap.size 62 2 s3 cs.length (cv cs) := ho3
    have HO3 := hide (iOwn_lower ho3' hB2.size)
    obtain ⟨rad, rc, rfl, hrc, hrow⟩ := cOwn_row ho3'
    have HGC := hide (implGoodT_any rad rc cs w3 hlc hrow)
    obtain ⟨G, hG⟩ : ∃ G, G = goodT cs := ⟨_, rfl⟩
    rw [← hG] at HGC
    have HGe := hide hG
    clear ho3 ho3' hrow hG hlen
    obtain ⟨CN, hCN⟩ : ∃ CN, CN = cs.length := ⟨_, rfl⟩
    rw [← hCN] at HGC HO3 ⊢
    have HCN := hide hCN
    clear hCN
    go_wp2_with fail
    refine Calls.mono HGC.out ?_
    rintro e w4 ⟨rfl, hb4⟩
    have hB4 : Below w.heap.size w w4 := hB3.trans (hb4.mono hB3.size)
    have HO4 := hide (tOwn_keep HO3.out (fun k _ hk => hb4.block k hk))
    clear HGC hb4 HO3
    cases G with
    | true =>
      go_wp2_with fail
      refine bodyPost_ret (v := .tuple #[.slice rad CN rc, .bool true]) (by simp [results, Try.results6, go_sem]) rfl ⟨.slice rad CN rc, ?_, ?_, hB4⟩
      · show _ = Ending.returned (.tuple #[_, .bool (goodT cs)]); rw [← HGe.out]
      · have : rL (some cs) = cs := by show gd cs = cs; unfold gd; rw [if_pos HGe.out.symm]
        rw [this, ← HCN.out]; exact HO4.out
    | false =>
      go_wp2_with fail
      refine bodyPost_ret (v := .tuple #[.slice none 0 0, .bool false]) (by simp [results, Try.results6, go_sem]) rfl ⟨.slice none 0 0, ?_, ?_, hB4⟩
      · show _ = Ending.returned (.tuple #[_, .bool (goodT cs)]); rw [← HGe.out]
      · have : rL (some cs) = [] := by show gd cs = []; unfold gd; rw [if_neg (by rw [← HGe.out]; simp)]
        rw [this]; exact World.ownsRow_nil _ _ _ _

theorem implSubst_any (ad sad : Option Addr) (c sc : Nat) (l ls : List Cc) (K : Int) (w : World) (hl : l.length ≤ 1048576) (hc : l.length ≤ c) (h : CRow w ad l) (hls : ls.length ≤ 1048576) (hsc : ls.length ≤ sc) (hs : CRow w sad ls) :
    Calls Try.prog 6 #[.slice ad l.length c, .int .i64 K, .slice sad ls.length sc] w fun e w' => RS w (sbR l K ls) e w' := by
  cases ht : treeT l with
  | none =>
    have hr : sbR l K ls = none := by unfold sbR; rw [ht]
    rw [hr]
    exact implSubst_bad ad sad c sc l ls K w hl h hls hs (.inl (by unfold goodT; rw [ht]; rfl))
  | some a =>
    obtain ⟨x, k, rfl⟩ := F.len_1 (treeT_flat ht).2.2.1
    cases hts : treeT ls with
    | none =>
      have hr : sbR l K ls = none := by unfold sbR; rw [ht, hts]
      rw [hr]
      exact implSubst_bad ad sad c sc l ls K w hl h hls hs (.inr (.inl (by unfold goodT; rw [hts]; rfl)))
    | some b =>
      obtain ⟨sx, sk, rfl⟩ := F.len_1 (treeT_flat hts).2.2.1
      cases hk : inB K 0 99 with
      | false =>
        have hr : sbR l K ls = none := by unfold sbR; rw [ht, hts]; simp only; rw [hk]; simp
        rw [hr]
        exact implSubst_bad ad sad c sc l ls K w hl h hls hs (.inr (.inr hk))
      | true =>
        have h5 : 0 ≤ K ∧ K ≤ 99 := by simpa [inB] using hk
        obtain ⟨Kn, rfl⟩ := Int.eq_ofNat_of_zero_le h5.1
        exact implSubst_good ad sad c sc l ls Kn x sx k sk w hl hc h hls hsc hs ht hts (by omega)
end Go.Proofs.Ytjmgnljjeogdlaa.W

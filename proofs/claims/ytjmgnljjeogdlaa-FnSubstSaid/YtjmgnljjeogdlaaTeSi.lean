/-
  The program's ShiftTerm. Conditions: at most 1048576 cells.
-/
import Derived.Test.YtjmgnljjeogdlaaJn
import Derived.Test.YtjmgnljjeogdlaaJg
namespace Go.Proofs.Ytjmgnljjeogdlaa.W
open Go.ChangeShapes Go.WideShapes Go.ChangeAt Go.RowKit
set_option linter.unusedVariables false

theorem shV_len (by_ : Int) (f : Nat) : ∀ s n d, (shV by_ f s n d).len = 1 := fun _ _ _ => rfl

set_option maxRecDepth 20000 in
set_option maxHeartbeats 2000000 in
theorem implShift_good (ad : Option Addr) (c : Nat) (l : List Cc) (by_ : Int) (f : Nat) (x : Cc) (k : F) (w : World) (hl : l.length ≤ 1048576) (hc : l.length ≤ c) (h : CRow w ad l) (ht : treeT l = some (.cons x k .nil)) (hb1 : -50 ≤ by_) (hb2 : by_ ≤ 50) (hf : f ≤ 99) :
    Calls Try.prog 11 #[.slice ad l.length c, .int .i64 by_, .int .i64 (f : Int)] w fun e w' => RS w (shR l by_ (f : Int)) e w' := by
  have HR := hide h
  have hg : goodT l = true := by unfold goodT; rw [ht]; rfl
  have HT := hide (treeT_flat ht)
  have HG := hide (implGoodT_any ad c l)
  rw [hg] at HG
  have Hf := hide (isFar_any (f : Int))
  rw [show inB (f : Int) 0 99 = true by simp [inB]; omega] at Hf
  have hr0 : shR l by_ (f : Int) = if (!Bd by_ f (fr1 0 x k [])) = true then some (shc by_ f x :: (shf by_ x.k f 0 k).flat) else none := by
    unfold shR
    rw [ht]
    simp only [Int.toNat_natCast]
    rw [show inB by_ (-50) 50 = true by simp [inB]; omega, show inB (f : Int) 0 99 = true by simp [inB]; omega]
    rfl
  obtain ⟨R, hR⟩ : ∃ R, R = shR l by_ (f : Int) := ⟨_, rfl⟩
  rw [← hR] at hr0 ⊢
  have HR0 := hide hr0
  clear h ht hg hR hr0
  have hfi : (f : Int) ≤ 99 := by omega
  go_enter Try.func11, Try.ntmps11
  go_wp2_with fail
  obtain ⟨bb, hbb⟩ : ∃ bb, bb = w.heap.size := ⟨_, rfl⟩
  obtain ⟨w0, hw0⟩ : ∃ w0, w0 = (w.alloc (.cells #[.int .i64 by_] 3)).alloc (.cells #[.int .i64 (f : Int)] 3) := ⟨_, rfl⟩
  have hB0 : Below w.heap.size w w0 := by rw [hw0]; exact ((Below.refl _ _).alloc (Nat.le_refl _) _).alloc (by simp) _
  have k0 : w0.heap[w.heap.size]? = some (inO by_) := by rw [hw0, heap_alloc_old _ _ (by simp)]; exact heap_alloc_new _ _
  have k1 : w0.heap[w.heap.size + 1]? = some (inO (f : Int)) := by rw [hw0]; have := heap_alloc_new (w.alloc (.cells #[.int .i64 by_] 3)) (.cells #[.int .i64 (f : Int)] 3); simpa [inO] using this
  have hsz0 : w0.heap.size = w.heap.size + 1 + 1 := by rw [hw0]; simp
  rw [← hw0]
  clear hw0 hbb
  refine (HG.out w0 hl (HR.out.below hB0)).mono ?_
  rintro e w1 ⟨rfl, hb1⟩
  have hB1 : Below w.heap.size w w1 := hB0.trans (hb1.mono hB0.size)
  have hsz1 := hb1.size
  have k01 := (hb1.block _ (by omega)).trans k0
  have k11 := (hb1.block _ (by omega)).trans k1
  have c01 : w1.cell? ⟨w.heap.size, 0, none⟩ = some (.int .i64 by_) := (cell_of_blk k01 0).trans rfl
  have c11 : w1.cell? ⟨w.heap.size + 1, 0, none⟩ = some (.int .i64 (f : Int)) := (cell_of_blk k11 0).trans rfl
  have K0 := hide k01
  have K1 := hide k11
  clear hb1 k0 k1 k01 k11 hB0
  have hn1 : ¬ by_ < -50 := by omega
  have hn2 : ¬ (50 : Int) < by_ := by omega
  go_wp2_with fail
  refine (Hf.out _).mono ?_
  rintro e w1' ⟨rfl, hw1⟩
  obtain rfl := hw1.symm
  go_wp2_with fail
  obtain ⟨t1, t2, t3, t4, t5⟩ := HT.out
  obtain ⟨w2, hw2⟩ : ∃ w2, w2 = w1.alloc (.cells #[.bool false] 4) := ⟨_, rfl⟩
  rw [← hw2]
  have hB12 : Below w1.heap.size w1 w2 := by rw [hw2]; exact (Below.refl _ _).alloc (Nat.le_refl _) _
  have hbk : w2.heap[w1.heap.size]? = some (boO false) := by rw [hw2]; exact heap_alloc_new _ _
  have hB2 : Below w.heap.size w w2 := hB1.trans (hB12.mono hB1.size)
  have hR2 := HR.out.below hB2
  have hpo := partOf_any (.cons x k .nil) ad c w2 t2 t3 (by rw [← t1]; exact hl) (by rw [← t1]; exact hc) (by rw [← t1]; exact hR2)
  rw [← t1] at hpo
  have HPo := hide hpo
  have HO2 : Hid (shO by_ f w1.heap.size (w.heap.size + 1) w.heap.size false w2) := hide ⟨hbk, (hB12.block _ (by omega)).trans K1.out, (hB12.block _ (by omega)).trans K0.out⟩
  have hcb : w1.heap.size < w2.heap.size := (Array.getElem?_eq_some_iff.1 hbk).1
  obtain ⟨g1, l1, o1, -⟩ := ok_cons t2
  have hkf : k.flat.length + 1 ≤ 600 := by rw [t1] at t4; simpa [F.flat] using t4
  have hwv := withVariables_any (σ := Bool) 33 #[.pointer (some ⟨w.heap.size + 1, 0, none⟩), .pointer (some ⟨w1.heap.size, 0, none⟩), .pointer (some ⟨w.heap.size, 0, none⟩)] w1.heap.size (shO by_ f w1.heap.size (w.heap.size + 1) w.heap.size) (shV by_ f) (shB by_ f) fnShift (chgShift by_ f hb1 hb2 hf _ _ _ (by omega) (by omega)) (shV_len by_ f) k x false 0 g1 l1 o1 (by omega)
  have hpt : pvT (.cons x k .nil) = pv x.k x.n (pvs k) := rfl
  rw [← hpt] at hwv
  have hst1 : (W.w1 (shV by_ f) (shB by_ f) 0 x k false).1 = .cons (shc by_ f x) (shf by_ x.k f 0 k) .nil := by
    unfold W.w1
    rw [shift_tree by_ f _ 0 0 0 false t2, Nat.add_zero]
    simp [shf, binds_0]
  have hst2 : (W.w1 (shV by_ f) (shB by_ f) 0 x k false).2 = Bd by_ f (fr1 0 x k []) := by
    have := shift_bits by_ f (.cons x k .nil) 0 0 0 [] t2
    unfold W.w1
    rw [show (false : Bool) = Bd by_ f [] from rfl, this, fre_cons]
    rfl
  have hfit : (F.cons (shc by_ f x) (shf by_ x.k f 0 k) .nil).fit := by
    have := shf_fit by_ (.cons x k .nil) 0 f 0 (F.ok_fit t2)
    simpa [shf, binds_0] using this
  have hmc := mcT hfit rfl
  have hfl : (F.cons (shc by_ f x) (shf by_ x.k f 0 k) .nil).flat = shc by_ f x :: (shf by_ x.k f 0 k).flat := by simp [F.flat]
  rw [hfl] at hmc
  unfold WVC at hwv
  rw [hst1, hst2] at hwv
  obtain ⟨T, u, hV⟩ := pvT_iface (a := F.cons (shc by_ f x) (shf by_ x.k f 0 k) .nil) rfl
  obtain ⟨T0, u0, hV0⟩ := pvT_iface (a := .cons x k .nil) rfl
  rw [hV] at hwv hmc
  rw [hV0, show ((0 : Nat) : Int) = 0 from rfl] at hwv
  rw [hV0] at HPo
  have hlen : (shc by_ f x :: (shf by_ x.k f 0 k).flat).length ≤ 1048576 := by rw [List.length_cons, shf_flat]; omega
  obtain ⟨cs, hcs⟩ : ∃ cs, cs = shc by_ f x :: (shf by_ x.k f 0 k).flat := ⟨_, rfl⟩
  obtain ⟨BB, hBB⟩ : ∃ BB, BB = Bd by_ f (fr1 0 x k []) := ⟨_, rfl⟩
  rw [← hcs] at hmc hlen HR0
  rw [← hBB] at hwv HR0
  have HWV := hide hwv
  have HMC := hide hmc
  clear hw2 hbk hR2 hpo t1 t2 t3 t4 t5 HT HG g1 l1 o1 hkf hwv hpt hst1 hst2 hfit hmc hfl hV hV0 hcs hBB Hf c01 c11
  refine Calls.mono HPo.out ?_
  rintro e w3 ⟨rfl, hb3⟩
  have HO3 : Hid (shO by_ f w1.heap.size (w.heap.size + 1) w.heap.size false w3) := hide ⟨(hb3.block _ hcb).trans HO2.out.1, (hb3.block _ (by omega)).trans HO2.out.2.1, (hb3.block _ (by omega)).trans HO2.out.2.2⟩
  have hcb3 : w1.heap.size < w3.heap.size := Nat.lt_of_lt_of_le hcb hb3.size
  have hB3 : Below w.heap.size w w3 := hB2.trans (hb3.mono hB2.size)
  clear hb3 HPo hB12 HO2
  go_wp2_with fail
  refine Calls.mono (HWV.out _ hcb3 (shO.inv HO3.out)) ?_
  rintro e w4 ⟨rfl, hi4, ho4⟩
  have hb4 := hi4.get.1
  have c4 : w4.cell? ⟨w1.heap.size, 0, none⟩ = some (.bool BB) := (cell_of_blk hb4 0).trans rfl
  have hB4 : Below w.heap.size w w4 := hB3.trans (ho4.below (by have := hB3.size; omega) (by omega))
  clear hi4 ho4 hb4 HO3 HWV
  cases BB with
  | true =>
    have hR : R = none := HR0.out
    have HRn := hide hR
    clear hR
    go_wp2_with fail
    exact bodyPost_ret (v := .tuple #[.slice none 0 0, .bool false]) (by simp [results, Try.results11, go_sem]) rfl (by rw [HRn.out]; exact ⟨_, rfl, World.ownsRow_nil _ _ _ _, hB4⟩)
  | false =>
    have hR : R = some cs := HR0.out
    have HRn := hide hR
    clear hR
    go_wp2_with fail
    refine Calls.mono (goodCells_any _ cs HMC.out hlen _) ?_
    rintro e w5 ⟨s5, rfl, ho5, hb5⟩
    have hB5 : Below w.heap.size w w5 := hB4.trans (hb5.mono hB4.size)
    obtain ⟨rad, rc, rfl⟩ := iOwn_form ho5
    have HO5 := hide (iOwn_lower ho5 hB4.size)
    clear ho5 hb5
    obtain ⟨RN, hRN⟩ : ∃ RN, RN = (gd cs).length := ⟨_, rfl⟩
    obtain ⟨RB, hRB⟩ : ∃ RB, RB = goodT cs := ⟨_, rfl⟩
    have HRN := hide hRN
    have HRB := hide hRB
    rw [← hRN, ← hRB]
    clear hRN hRB
    go_wp2_with fail
    refine bodyPost_ret (v := .tuple #[.slice rad RN rc, .bool RB]) (by simp [results, Try.results11, go_sem]) rfl ?_
    rw [HRn.out]
    exact ⟨.slice rad RN rc, by show _ = Ending.returned (.tuple #[_, .bool (goodT cs)]); rw [← HRB.out], by rw [HRN.out]; exact HO5.out, hB5⟩

set_option maxRecDepth 20000 in
set_option maxHeartbeats 2000000 in
theorem implShift_bad (ad : Option Addr) (c : Nat) (l : List Cc) (by_ f : Int) (w : World) (hl : l.length ≤ 1048576) (h : CRow w ad l) (hb : treeT l = none ∨ by_ < -50 ∨ 50 < by_ ∨ inB f 0 99 = false) :
    Calls Try.prog 11 #[.slice ad l.length c, .int .i64 by_, .int .i64 f] w fun e w' => RS w none e w' := by
  have HR := hide h
  have HG := hide (implGoodT_any ad c l)
  have Hf := hide (isFar_any f)
  clear h
  by_cases hg : goodT l = true
  · rw [hg] at HG
    have hb' : by_ < -50 ∨ 50 < by_ ∨ inB f 0 99 = false := by
      rcases hb with h | h
      · unfold goodT at hg; rw [h] at hg; cases hg
      · exact h
    clear hb hg
    by_cases h1 : by_ < -50
    · clear hb'
      go_enter Try.func11, Try.ntmps11
      go_wp2_with fail
      obtain ⟨w0, hw0⟩ : ∃ w0, w0 = (w.alloc (.cells #[.int .i64 by_] 3)).alloc (.cells #[.int .i64 f] 3) := ⟨_, rfl⟩
      have hB0 : Below w.heap.size w w0 := by rw [hw0]; exact ((Below.refl _ _).alloc (Nat.le_refl _) _).alloc (by simp) _
      have k0 : w0.heap[w.heap.size]? = some (inO by_) := by rw [hw0, heap_alloc_old _ _ (by simp)]; exact heap_alloc_new _ _
      have k1 : w0.heap[w.heap.size + 1]? = some (inO f) := by rw [hw0]; have := heap_alloc_new (w.alloc (.cells #[.int .i64 by_] 3)) (.cells #[.int .i64 f] 3); simpa [inO] using this
      have hsz0 : w0.heap.size = w.heap.size + 1 + 1 := by rw [hw0]; simp
      rw [← hw0]
      clear hw0
      refine (HG.out w0 hl (HR.out.below hB0)).mono ?_
      rintro e w1 ⟨rfl, hb1⟩
      have hB1 : Below w.heap.size w w1 := hB0.trans (hb1.mono hB0.size)
      have c01 : w1.cell? ⟨w.heap.size, 0, none⟩ = some (.int .i64 by_) := (cell_of_blk ((hb1.block _ (by omega)).trans k0) 0).trans rfl
      have c11 : w1.cell? ⟨w.heap.size + 1, 0, none⟩ = some (.int .i64 f) := (cell_of_blk ((hb1.block _ (by omega)).trans k1) 0).trans rfl
      clear hb1 k0 k1 hB0
      go_wp2_with fail
      exact bodyPost_ret (v := .tuple #[.slice none 0 0, .bool false]) (by simp [results, Try.results11, go_sem]) rfl ⟨_, rfl, World.ownsRow_nil _ _ _ _, hB1⟩
    · by_cases h2 : 50 < by_
      · clear hb'
        go_enter Try.func11, Try.ntmps11
        go_wp2_with fail
        obtain ⟨w0, hw0⟩ : ∃ w0, w0 = (w.alloc (.cells #[.int .i64 by_] 3)).alloc (.cells #[.int .i64 f] 3) := ⟨_, rfl⟩
        have hB0 : Below w.heap.size w w0 := by rw [hw0]; exact ((Below.refl _ _).alloc (Nat.le_refl _) _).alloc (by simp) _
        have k0 : w0.heap[w.heap.size]? = some (inO by_) := by rw [hw0, heap_alloc_old _ _ (by simp)]; exact heap_alloc_new _ _
        have k1 : w0.heap[w.heap.size + 1]? = some (inO f) := by rw [hw0]; have := heap_alloc_new (w.alloc (.cells #[.int .i64 by_] 3)) (.cells #[.int .i64 f] 3); simpa [inO] using this
        have hsz0 : w0.heap.size = w.heap.size + 1 + 1 := by rw [hw0]; simp
        rw [← hw0]
        clear hw0
        refine (HG.out w0 hl (HR.out.below hB0)).mono ?_
        rintro e w1 ⟨rfl, hb1⟩
        have hB1 : Below w.heap.size w w1 := hB0.trans (hb1.mono hB0.size)
        have c01 : w1.cell? ⟨w.heap.size, 0, none⟩ = some (.int .i64 by_) := (cell_of_blk ((hb1.block _ (by omega)).trans k0) 0).trans rfl
        have c11 : w1.cell? ⟨w.heap.size + 1, 0, none⟩ = some (.int .i64 f) := (cell_of_blk ((hb1.block _ (by omega)).trans k1) 0).trans rfl
        clear hb1 k0 k1 hB0
        go_wp2_with fail
        exact bodyPost_ret (v := .tuple #[.slice none 0 0, .bool false]) (by simp [results, Try.results11, go_sem]) rfl ⟨_, rfl, World.ownsRow_nil _ _ _ _, hB1⟩
      · have h3 : inB f 0 99 = false := by
          rcases hb' with h | h | h
          · omega
          · omega
          · exact h
        rw [h3] at Hf
        clear hb' h3
        go_enter Try.func11, Try.ntmps11
        go_wp2_with fail
        obtain ⟨w0, hw0⟩ : ∃ w0, w0 = (w.alloc (.cells #[.int .i64 by_] 3)).alloc (.cells #[.int .i64 f] 3) := ⟨_, rfl⟩
        have hB0 : Below w.heap.size w w0 := by rw [hw0]; exact ((Below.refl _ _).alloc (Nat.le_refl _) _).alloc (by simp) _
        have k0 : w0.heap[w.heap.size]? = some (inO by_) := by rw [hw0, heap_alloc_old _ _ (by simp)]; exact heap_alloc_new _ _
        have k1 : w0.heap[w.heap.size + 1]? = some (inO f) := by rw [hw0]; have := heap_alloc_new (w.alloc (.cells #[.int .i64 by_] 3)) (.cells #[.int .i64 f] 3); simpa [inO] using this
        have hsz0 : w0.heap.size = w.heap.size + 1 + 1 := by rw [hw0]; simp
        rw [← hw0]
        clear hw0
        refine (HG.out w0 hl (HR.out.below hB0)).mono ?_
        rintro e w1 ⟨rfl, hb1⟩
        have hB1 : Below w.heap.size w w1 := hB0.trans (hb1.mono hB0.size)
        have c01 : w1.cell? ⟨w.heap.size, 0, none⟩ = some (.int .i64 by_) := (cell_of_blk ((hb1.block _ (by omega)).trans k0) 0).trans rfl
        have c11 : w1.cell? ⟨w.heap.size + 1, 0, none⟩ = some (.int .i64 f) := (cell_of_blk ((hb1.block _ (by omega)).trans k1) 0).trans rfl
        clear hb1 k0 k1 hB0
        go_wp2_with fail
        refine (Hf.out _).mono ?_
        rintro e w1' ⟨rfl, hw1⟩
        obtain rfl := hw1.symm
        go_wp2_with fail
        exact bodyPost_ret (v := .tuple #[.slice none 0 0, .bool false]) (by simp [results, Try.results11, go_sem]) rfl ⟨_, rfl, World.ownsRow_nil _ _ _ _, hB1⟩
  · rw [Bool.not_eq_true] at hg
    rw [hg] at HG
    clear hb hg
    go_enter Try.func11, Try.ntmps11
    go_wp2_with fail
    obtain ⟨w0, hw0⟩ : ∃ w0, w0 = (w.alloc (.cells #[.int .i64 by_] 3)).alloc (.cells #[.int .i64 f] 3) := ⟨_, rfl⟩
    have hB0 : Below w.heap.size w w0 := by rw [hw0]; exact ((Below.refl _ _).alloc (Nat.le_refl _) _).alloc (by simp) _
    have k0 : w0.heap[w.heap.size]? = some (inO by_) := by rw [hw0, heap_alloc_old _ _ (by simp)]; exact heap_alloc_new _ _
    have k1 : w0.heap[w.heap.size + 1]? = some (inO f) := by rw [hw0]; have := heap_alloc_new (w.alloc (.cells #[.int .i64 by_] 3)) (.cells #[.int .i64 f] 3); simpa [inO] using this
    have hsz0 : w0.heap.size = w.heap.size + 1 + 1 := by rw [hw0]; simp
    rw [← hw0]
    clear hw0
    refine (HG.out w0 hl (HR.out.below hB0)).mono ?_
    rintro e w1 ⟨rfl, hb1⟩
    have hB1 : Below w.heap.size w w1 := hB0.trans (hb1.mono hB0.size)
    have c01 : w1.cell? ⟨w.heap.size, 0, none⟩ = some (.int .i64 by_) := (cell_of_blk ((hb1.block _ (by omega)).trans k0) 0).trans rfl
    have c11 : w1.cell? ⟨w.heap.size + 1, 0, none⟩ = some (.int .i64 f) := (cell_of_blk ((hb1.block _ (by omega)).trans k1) 0).trans rfl
    clear hb1 k0 k1 hB0
    go_wp2_with fail
    exact bodyPost_ret (v := .tuple #[.slice none 0 0, .bool false]) (by simp [results, Try.results11, go_sem]) rfl ⟨_, rfl, World.ownsRow_nil _ _ _ _, hB1⟩

theorem implShift_any (ad : Option Addr) (c : Nat) (l : List Cc) (by_ f : Int) (w : World) (hl : l.length ≤ 1048576) (hc : l.length ≤ c) (h : CRow w ad l) :
    Calls Try.prog 11 #[.slice ad l.length c, .int .i64 by_, .int .i64 f] w fun e w' => RS w (shR l by_ f) e w' := by
  by_cases hbad : treeT l = none ∨ by_ < -50 ∨ 50 < by_ ∨ inB f 0 99 = false
  · have hr : shR l by_ f = none := by
      unfold shR
      rcases hbad with h | h | h | h
      · rw [h]
      all_goals
        cases treeT l with
        | none => rfl
        | some a =>
          cases a with
          | nil => rfl
          | cons x k r =>
            simp only
            rw [if_neg]
            first
              | (rw [h]; simp; done)
              | (rw [show inB by_ (-50) 50 = false by simp [inB]; omega]; simp; done)
    rw [hr]
    exact implShift_bad ad c l by_ f w hl h hbad
  · have h1 : treeT l ≠ none := fun e => hbad (.inl e)
    have h2 : -50 ≤ by_ := Int.not_lt.1 (fun h => hbad (.inr (.inl h)))
    have h3 : by_ ≤ 50 := Int.not_lt.1 (fun h => hbad (.inr (.inr (.inl h))))
    have h4 : inB f 0 99 = true := by simpa using (fun h => hbad (.inr (.inr (.inr h))) : ¬ inB f 0 99 = false)
    have h5 : 0 ≤ f ∧ f ≤ 99 := by simpa [inB] using h4
    obtain ⟨fn, rfl⟩ := Int.eq_ofNat_of_zero_le h5.1
    cases ht : treeT l with
    | none => exact absurd ht h1
    | some a =>
      obtain ⟨x, k, rfl⟩ := F.len_1 (treeT_flat ht).2.2.1
      exact implShift_good ad c l by_ fn x k w hl hc h ht h2 h3 (by omega)
end Go.Proofs.Ytjmgnljjeogdlaa.W

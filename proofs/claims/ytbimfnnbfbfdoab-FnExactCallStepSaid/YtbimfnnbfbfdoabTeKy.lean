/-
  The specification's CallStep. Conditions: at most 1048576 cells.
-/
import Derived.Test.YtbimfnnbfbfdoabTeKx
import Derived.Test.YtbimfnnbfbfdoabTeKe
import Derived.Test.YtbimfnnbfbfdoabTeT
namespace Go.Proofs.Ytbimfnnbfbfdoab.W
open Go.ChangeShapes Go.WideShapes Go.ChangeAt Go.RowKit
set_option linter.unusedVariables false

theorem cl_len {x : Cc} {k : F} (hok : okT x k) (hl : k.flat.length + 1 ≤ 600) {p : Cc × F} (h : cl x k = some p) : p.2.flat.length + 1 ≤ 1200 := by
  rcases step_one hok with ⟨-, h2⟩ | ⟨-, pre, y, ky, post, h1, h2, h3, h4, h5⟩
  · rw [h2] at h; cases h
  · rw [h] at h5
    cases hc : ctrO y ky with
    | none => rw [hc] at h5; cases h5
    | some q =>
      rw [hc] at h5
      simp only [Option.map_some, Option.some.injEq] at h5
      have e1 := congrArg List.length h1
      have e2 := congrArg List.length h5
      simp at e1 e2
      have := ctrO_len h3 h4 (by omega) hc
      omega

set_option maxRecDepth 20000 in
set_option maxHeartbeats 2000000 in
theorem specCall_any (ad : Option Addr) (c : Nat) (l : List Cc) (w : World) (hl : l.length ≤ 1048576) (h : CRow w ad l) :
    Calls Try.prog 22 #[.slice ad l.length c] w fun e w' => RS w (clR l) e w' := by
  have HC := hide (l3Tree_any ad c l w hl h)
  clear h
  cases ht : treeT l with
  | none =>
    have hr : clR l = none := by unfold clR; rw [ht]
    rw [hr]
    rw [ht] at HC
    clear ht hr
    go_enter Try.func22, Try.ntmps22
    go_wp2_with fail
    refine Calls.mono HC.out ?_
    rintro e w1 ⟨hb1, k, n, sad, sn, sc, rfl⟩
    clear HC
    go_wp2_with fail
    exact bodyPost_ret (v := .tuple #[.slice none 0 0, .bool false]) (by simp [results, Try.results22, go_sem]) rfl ⟨_, rfl, World.ownsRow_nil _ _ _ _, hb1.alloc hb1.size _⟩
  | some t =>
    obtain ⟨e1, ho, e3, e4, -⟩ := treeT_flat ht
    obtain ⟨x, k, rfl⟩ := F.len_1 e3
    obtain ⟨g1, l1, o1, -⟩ := ho
    have hok : okT x k := ⟨g1, l1, o1⟩
    have hr : clR l = (cl x k).map fun p => p.1 :: p.2.flat := by unfold clR; rw [ht]
    have hkl : k.flat.length + 1 ≤ 600 := by rw [e1] at e4; simpa [F.flat] using e4
    rw [hr]
    rw [ht] at HC
    have HCl := hide (fun (s : Value) (P : Nat → Prop) (w' : World) (hT : KidT w' P k s) => l4Call_any k x s P w' hok hkl hT)
    have HLen := hide (fun p (hp : cl x k = some p) => cl_len hok hkl hp)
    obtain ⟨CL, hCL⟩ : ∃ CL, CL = cl x k := ⟨_, rfl⟩
    rw [← hCL] at HCl HLen ⊢
    clear ht hr e1 e3 e4 g1 l1 o1 hok hCL
    go_enter Try.func22, Try.ntmps22
    go_wp2_with fail
    refine Calls.mono HC.out ?_
    rintro e w1 ⟨hb1, x', k', s, hxe, rfl, hT⟩
    simp only [F.cons.injEq, and_true] at hxe
    obtain ⟨rfl, rfl⟩ := hxe
    have HT := hide hT
    obtain ⟨sad, sc, rfl⟩ := hT.form
    clear HC hT
    have hB1 : Below w.heap.size w (w1.alloc (.cells #[.int .i64 x.k, .int .i64 x.n, .slice sad k.len sc] 40)) := hb1.alloc hb1.size _
    have HK := hide (HCl.out _ _ _ (HT.out.below ((Below.refl _ _).alloc (Nat.le_refl _) (.cells #[.int .i64 x.k, .int .i64 x.n, .slice sad k.len sc] 40))))
    obtain ⟨KN, hKN⟩ : ∃ KN, KN = k.len := ⟨_, rfl⟩
    rw [← hKN] at HK hB1 ⊢
    clear hKN HCl HT
    go_wp2_with fail
    refine Calls.mono HK.out ?_
    rintro e w2 ⟨hto, hb2⟩
    have hB2 : Below w.heap.size w w2 := hB1.trans (hb2.mono hB1.size)
    clear HK hb2
    cases CL with
    | none =>
      obtain rfl : e = .returned (.tuple #[.agg #[.int .i64 0, .int .i64 0, .slice none 0 0], .bool false]) := hto
      go_wp2_with fail
      exact bodyPost_ret (v := .tuple #[.slice none 0 0, .bool false]) (by simp [results, Try.results22, go_sem]) rfl ⟨_, rfl, World.ownsRow_nil _ _ _ _, hB2.alloc hB2.size _⟩
    | some p =>
      obtain ⟨s2, rfl, hK2⟩ : ∃ s', e = .returned (.tuple #[.agg #[.int .i64 p.1.k, .int .i64 p.1.n, s'], .bool true]) ∧ KidT w2 _ p.2 s' := hto
      have hpl := HLen.out p rfl
      have HTl := hide (fun (w' : World) (hb : Below w2.heap.size w2 w') => l3Tell_any p.1 p.2 s2 _ w' (by omega) (hK2.below hb))
      obtain ⟨pad, pc2, hpf⟩ := hK2.form
      subst hpf
      obtain ⟨PN, hPN⟩ : ∃ PN, PN = p.2.len := ⟨_, rfl⟩
      rw [← hPN] at HTl ⊢
      clear hK2 hPN HLen hpl
      go_wp2_with fail
      refine Calls.mono (HTl.out _ ((Below.refl _ _).alloc (Nat.le_refl _) _)) ?_
      rintro e w3 ⟨s3, rfl, ho3, hb3⟩
      have hB3 : Below w.heap.size w w3 := (hB2.alloc hB2.size _).trans (hb3.mono (hB2.alloc hB2.size _).size)
      have HO3 := hide (iOwn_lower ho3 (hB2.alloc hB2.size _).size)
      obtain ⟨rad, rc, rfl⟩ := iOwn_form ho3
      clear ho3 hb3 HTl
      obtain ⟨Z, hZ⟩ : ∃ Z, Z = p.1 :: p.2.flat := ⟨_, rfl⟩
      have hmap : Option.map (fun p : Cc × F => p.1 :: p.2.flat) (some p) = some Z := by rw [hZ]; rfl
      rw [← hZ] at HO3 ⊢
      obtain ⟨RN, hRN⟩ : ∃ RN, RN = (gd Z).length := ⟨_, rfl⟩
      obtain ⟨RB, hRB⟩ : ∃ RB, RB = goodT Z := ⟨_, rfl⟩
      have HRN := hide hRN
      have HRB := hide hRB
      have HMap := hide hmap
      rw [← hRN, ← hRB]
      rw [← hRN] at HO3
      clear hRN hRB hZ hmap
      go_wp2_with fail
      refine bodyPost_ret (v := .tuple #[.slice rad RN rc, .bool RB]) (by simp [results, Try.results22, go_sem]) rfl ?_
      rw [HMap.out]
      exact ⟨.slice rad RN rc, by rw [HRB.out]; rfl, by show w3.ownsRow _ _ 2 _ (gd Z).length (cv (gd Z)); rw [← HRN.out]; exact HO3.out, hB3⟩
end Go.Proofs.Ytbimfnnbfbfdoab.W

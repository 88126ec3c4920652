/-
  The specification's reader of expressions, whole: contracts of l2Read, l2Tree and GoodExpr. Conditions: at most 1048576 parts, texts of at most 1048576 bytes.
-/
import Derived.Test.YtjffignbiabmaaaDoorTree
namespace Go.Proofs.YtjffignbiabmaaaDoor.W
open Go.ChangeShapes Go.WideShapes Go.ChangeAt Go.RowKit
set_option linter.unusedVariables false

theorem heap3_1 (w : World) (A B C : Obj) : (((w.alloc A).alloc B).alloc C).heap[w.heap.size + 1]? = some B := by
  rw [heap_alloc_old _ _ (by simp)]
  have := heap_alloc_new (w.alloc A) B
  simpa using this

set_option maxRecDepth 20000 in
set_option maxHeartbeats 4000000 in
theorem l2Read_k1 (f : Nat) (ad : Option Addr) (c : Nat) (l : List Xx) (at_ : Nat) (w : World) (n : Int) (t : ByteArray) (hl : l.length ≤ 1048576) (hR : Row w ad l) (hlt : at_ < l.length) (hx : l[at_] = ⟨1, n, t⟩) :
    RdGoal (f + 1) ad c l at_ w := by
  unfold RdGoal
  have hlt' : (at_ : Int) < (l.length : Int) := by omega
  have hnle : ¬ l.length ≤ at_ := by omega
  obtain ⟨b, o, rfl, hb, p0, p1, p2⟩ := hR.tok (Below.refl _ _) hlt
  rw [hx] at p0 p1 p2
  simp only at p0 p1 p2
  have hd : l.drop at_ = ⟨1, n, t⟩ :: l.drop (at_ + 1) := by rw [← hx]; exact List.drop_eq_getElem_cons hlt
  rw [hd]
  clear hx hd hR
  have hlen : ((l.length - (l.drop (at_ + 1)).length : Nat) : Int) = (at_ : Int) + 1 := by rw [List.length_drop]; omega
  by_cases hg : 0 ≤ n ∧ n ≤ 999999999
  · have hin : inB n 0 999999999 = true := by simp [inB, hg]
    by_cases ht : t.toList.isEmpty = true
    · have hgx : goodX ⟨1, n, t⟩ = true := by simp [goodX, hin]; simpa using ht
      rw [rd_leaf hgx rfl]
      clear hgx
      go_enter Tryd.func89, Tryd.ntmps89
      go_wp2_with fail
      refine (l1In_any _ _ _ _).mono ?_
      rintro e w' ⟨rfl, rfl⟩
      rw [hin]
      go_wp2_with fail
      go_loopw [1, 8] (fun a8 m8 w' => a8 = .int .i64 ((at_ : Int) + 1) ∧ m8 = .int .i64 0 ∧ w' = (((w.alloc (.cells #[.int .i64 0, .int .i64 0, .string ⟨#[]⟩, .slice none 0 0] 79)).alloc (.cells #[.int .i64 1, .int .i64 n, .string t] 90)).alloc (.cells #[.int .i64 1, .int .i64 n, .string t, .slice none 0 0] 79))) (fun _ m8 _ => (intOf m8).toNat)
      case atStart => exact ⟨rfl, rfl, rfl⟩
      case round =>
        obtain ⟨rfl, rfl, rfl⟩ := hrel
        go_wp2_with fail
        refine bodyPost_ret (v := .tuple #[.agg #[.int .i64 1, .int .i64 n, .string t, .slice none 0 0], .int .i64 ((at_ : Int) + 1)]) (by simp [results, Tryd.results89, go_sem]) rfl ⟨?_, .slice none 0 0, by show _ = Ending.returned (.tuple #[.agg #[.int .i64 1, .int .i64 n, .string t, .slice none 0 0], _]); rw [hlen], rfl⟩
        exact (((Below.refl _ _).alloc (Nat.le_refl _) _).alloc (by simp) _).alloc (by simp; omega) _
    · rw [Bool.not_eq_true] at ht
      have hgx : goodX ⟨1, n, t⟩ = false := by simp [goodX, hin]; intro hc; rw [hc] at ht; simp at ht
      rw [rd_bad hgx]
      clear hgx
      go_enter Tryd.func89, Tryd.ntmps89
      go_wp2_with fail
      refine (l1In_any _ _ _ _).mono ?_
      rintro e w' ⟨rfl, rfl⟩
      rw [hin]
      go_wp2_with fail
      exact bodyPost_ret (v := .tuple #[.agg #[.int .i64 0, .int .i64 0, .string ⟨#[]⟩, .slice none 0 0], .int .i64 0]) (by simp [results, Tryd.results89, go_sem]) rfl ⟨(((Below.refl _ _).alloc (Nat.le_refl _) _).alloc (by simp) _).alloc (by simp; omega) _, rfl⟩
  · have hin : inB n 0 999999999 = false := by
      rw [Bool.eq_false_iff]; intro hc; simp [inB] at hc; exact hg hc
    have hgx : goodX ⟨1, n, t⟩ = false := by simp [goodX, hin]
    rw [rd_bad hgx]
    clear hgx
    go_enter Tryd.func89, Tryd.ntmps89
    go_wp2_with fail
    refine (l1In_any _ _ _ _).mono ?_
    rintro e w' ⟨rfl, rfl⟩
    rw [hin]
    go_wp2_with fail
    exact bodyPost_ret (v := .tuple #[.agg #[.int .i64 0, .int .i64 0, .string ⟨#[]⟩, .slice none 0 0], .int .i64 0]) (by simp [results, Tryd.results89, go_sem]) rfl ⟨(((Below.refl _ _).alloc (Nat.le_refl _) _).alloc (by simp) _).alloc (by simp; omega) _, rfl⟩

set_option maxRecDepth 20000 in
set_option maxHeartbeats 4000000 in
theorem l2Read_k2 (f : Nat) (ad : Option Addr) (c : Nat) (l : List Xx) (at_ : Nat) (w : World) (n : Int) (t : ByteArray) (hl : l.length ≤ 1048576) (hR : Row w ad l) (hlt : at_ < l.length) (hst : t.size ≤ 1048576) (hx : l[at_] = ⟨2, n, t⟩) :
    RdGoal (f + 1) ad c l at_ w := by
  unfold RdGoal
  have hlt' : (at_ : Int) < (l.length : Int) := by omega
  have hnle : ¬ l.length ≤ at_ := by omega
  obtain ⟨b, o, rfl, hb, p0, p1, p2⟩ := hR.tok (Below.refl _ _) hlt
  rw [hx] at p0 p1 p2
  simp only at p0 p1 p2
  have hd : l.drop at_ = ⟨2, n, t⟩ :: l.drop (at_ + 1) := by rw [← hx]; exact List.drop_eq_getElem_cons hlt
  rw [hd]
  clear hx hd hR
  have hlen : ((l.length - (l.drop (at_ + 1)).length : Nat) : Int) = (at_ : Int) + 1 := by rw [List.length_drop]; omega
  have hgt : goodB 2 0 t 0 = nameB t := by rw [good_2 (by omega) (by omega)]; simp
  by_cases hm : nameB t = true
  · rw [hm] at hgt
    by_cases hn : n = 0
    · subst hn
      have hgx : goodX ⟨2, 0, t⟩ = true := by simp [goodX, hm]
      rw [rd_leaf hgx rfl]
      clear hgx
      go_enter Tryd.func89, Tryd.ntmps89
      go_wp2_with fail
      refine (specGood_any _ _ _ _ _ hst).mono ?_
      rintro e w1 ⟨rfl, hb1⟩
      rw [hgt]
      have H01 := hide ((hb1.block w.heap.size (by simp; omega)).trans (heap3_0 _ _ _ _))
      have H11 := hide ((hb1.block (w.heap.size + 1) (by simp)).trans (heap3_1 _ _ _ _))
      have H21 := hide ((hb1.block (w.heap.size + 1 + 1) (by simp)).trans (heap3_2 _ _ _ _))
      have z0 := cell_of_blk H01.out 0
      have z1 := cell_of_blk H01.out 1
      have z2 := cell_of_blk H01.out 2
      have z3 := cell_of_blk H01.out 3
      have fz := unfrozen_of_blk H01.out
      have x1 := cell_of_blk H11.out 1
      have y0 := cell_of_blk H21.out 0
      have y1 := cell_of_blk H21.out 1
      have y2 := cell_of_blk H21.out 2
      have y3 := cell_of_blk H21.out 3
      simp only [List.getElem?_toArray, List.getElem?_cons_zero, List.getElem?_cons_succ] at z0 z1 z2 z3 y0 y1 y2 y3 x1
      have hB : Below w.heap.size w w1 := ((((Below.refl _ _).alloc (Nat.le_refl _) _).alloc (by simp) _).alloc (by simp; omega) _).trans (hb1.mono (by simp; omega))
      clear hb1
      go_wp2_with fail
      go_loopw [1, 8] (fun a8 m8 w' => a8 = .int .i64 ((at_ : Int) + 1) ∧ m8 = .int .i64 0 ∧ w' = w1) (fun _ m8 _ => (intOf m8).toNat)
      case atStart => exact ⟨rfl, rfl, rfl⟩
      case round =>
        obtain ⟨rfl, rfl, rfl⟩ := hrel
        go_wp2_with fail
        refine bodyPost_ret (v := .tuple #[.agg #[.int .i64 2, .int .i64 0, .string t, .slice none 0 0], .int .i64 ((at_ : Int) + 1)]) (by simp [results, Tryd.results89, go_sem, *]) rfl ⟨?_, .slice none 0 0, by show _ = Ending.returned (.tuple #[.agg #[.int .i64 2, .int .i64 0, .string t, .slice none 0 0], _]); rw [hlen], rfl⟩
        exact (((hB.setCell (p := ⟨w.heap.size, 0, none⟩) (Nat.le_refl _) _).setCell (p := ⟨w.heap.size, 1, none⟩) (Nat.le_refl _) _).setCell (p := ⟨w.heap.size, 2, none⟩) (Nat.le_refl _) _).setCell (p := ⟨w.heap.size, 3, none⟩) (Nat.le_refl _) _
    · have hgx : goodX ⟨2, n, t⟩ = false := by simp [goodX, hn]
      rw [rd_bad hgx]
      clear hgx
      have hn' : (n == 0) = false := by simp [hn]
      go_enter Tryd.func89, Tryd.ntmps89
      go_wp2_with fail
      refine (specGood_any _ _ _ _ _ hst).mono ?_
      rintro e w1 ⟨rfl, hb1⟩
      rw [hgt]
      have H01 := hide ((hb1.block w.heap.size (by simp; omega)).trans (heap3_0 _ _ _ _))
      have H11 := hide ((hb1.block (w.heap.size + 1) (by simp)).trans (heap3_1 _ _ _ _))
      have H21 := hide ((hb1.block (w.heap.size + 1 + 1) (by simp)).trans (heap3_2 _ _ _ _))
      have z0 := cell_of_blk H01.out 0
      have z1 := cell_of_blk H01.out 1
      have z2 := cell_of_blk H01.out 2
      have z3 := cell_of_blk H01.out 3
      have fz := unfrozen_of_blk H01.out
      have x1 := cell_of_blk H11.out 1
      have y0 := cell_of_blk H21.out 0
      have y1 := cell_of_blk H21.out 1
      have y2 := cell_of_blk H21.out 2
      have y3 := cell_of_blk H21.out 3
      simp only [List.getElem?_toArray, List.getElem?_cons_zero, List.getElem?_cons_succ] at z0 z1 z2 z3 y0 y1 y2 y3 x1
      have hB : Below w.heap.size w w1 := ((((Below.refl _ _).alloc (Nat.le_refl _) _).alloc (by simp) _).alloc (by simp; omega) _).trans (hb1.mono (by simp; omega))
      clear hb1
      go_wp2_with fail
      exact bodyPost_ret (v := .tuple #[.agg #[.int .i64 0, .int .i64 0, .string ⟨#[]⟩, .slice none 0 0], .int .i64 0]) (by simp [results, Tryd.results89, go_sem, *]) rfl ⟨(((hB.setCell (p := ⟨w.heap.size, 0, none⟩) (Nat.le_refl _) _).setCell (p := ⟨w.heap.size, 1, none⟩) (Nat.le_refl _) _).setCell (p := ⟨w.heap.size, 2, none⟩) (Nat.le_refl _) _).setCell (p := ⟨w.heap.size, 3, none⟩) (Nat.le_refl _) _, rfl⟩
  · rw [Bool.not_eq_true] at hm
    rw [hm] at hgt
    have hgx : goodX ⟨2, n, t⟩ = false := by simp [goodX, hm]
    rw [rd_bad hgx]
    clear hgx
    go_enter Tryd.func89, Tryd.ntmps89
    go_wp2_with fail
    refine (specGood_any _ _ _ _ _ hst).mono ?_
    rintro e w1 ⟨rfl, hb1⟩
    rw [hgt]
    have H01 := hide ((hb1.block w.heap.size (by simp; omega)).trans (heap3_0 _ _ _ _))
    have H11 := hide ((hb1.block (w.heap.size + 1) (by simp)).trans (heap3_1 _ _ _ _))
    have H21 := hide ((hb1.block (w.heap.size + 1 + 1) (by simp)).trans (heap3_2 _ _ _ _))
    have z0 := cell_of_blk H01.out 0
    have z1 := cell_of_blk H01.out 1
    have z2 := cell_of_blk H01.out 2
    have z3 := cell_of_blk H01.out 3
    have fz := unfrozen_of_blk H01.out
    have x1 := cell_of_blk H11.out 1
    have y0 := cell_of_blk H21.out 0
    have y1 := cell_of_blk H21.out 1
    have y2 := cell_of_blk H21.out 2
    have y3 := cell_of_blk H21.out 3
    simp only [List.getElem?_toArray, List.getElem?_cons_zero, List.getElem?_cons_succ] at z0 z1 z2 z3 y0 y1 y2 y3 x1
    have hB : Below w.heap.size w w1 := ((((Below.refl _ _).alloc (Nat.le_refl _) _).alloc (by simp) _).alloc (by simp; omega) _).trans (hb1.mono (by simp; omega))
    clear hb1
    go_wp2_with fail
    exact bodyPost_ret (v := .tuple #[.agg #[.int .i64 0, .int .i64 0, .string ⟨#[]⟩, .slice none 0 0], .int .i64 0]) (by simp [results, Tryd.results89, go_sem, *]) rfl ⟨(((hB.setCell (p := ⟨w.heap.size, 0, none⟩) (Nat.le_refl _) _).setCell (p := ⟨w.heap.size, 1, none⟩) (Nat.le_refl _) _).setCell (p := ⟨w.heap.size, 2, none⟩) (Nat.le_refl _) _).setCell (p := ⟨w.heap.size, 3, none⟩) (Nat.le_refl _) _, rfl⟩

set_option maxRecDepth 20000 in
set_option maxHeartbeats 4000000 in
theorem l2Read_kx (f : Nat) (ad : Option Addr) (c : Nat) (l : List Xx) (at_ : Nat) (w : World) (k : Int) (n : Int) (t : ByteArray) (hl : l.length ≤ 1048576) (hR : Row w ad l) (hlt : at_ < l.length) (h1 : k ≠ 1) (h2 : k ≠ 2) (h3 : k ≠ 3) (h4 : k ≠ 4) (h5 : k ≠ 5) (hx : l[at_] = ⟨k, n, t⟩) :
    RdGoal (f + 1) ad c l at_ w := by
  unfold RdGoal
  have hlt' : (at_ : Int) < (l.length : Int) := by omega
  have hnle : ¬ l.length ≤ at_ := by omega
  obtain ⟨b, o, rfl, hb, p0, p1, p2⟩ := hR.tok (Below.refl _ _) hlt
  rw [hx] at p0 p1 p2
  simp only at p0 p1 p2
  have hd : l.drop at_ = ⟨k, n, t⟩ :: l.drop (at_ + 1) := by rw [← hx]; exact List.drop_eq_getElem_cons hlt
  rw [hd]
  clear hx hd hR
  have hlen : ((l.length - (l.drop (at_ + 1)).length : Nat) : Int) = (at_ : Int) + 1 := by rw [List.length_drop]; omega
  have hgx : goodX ⟨k, n, t⟩ = false := by simp [goodX, h1, h2, h3, h4, h5]
  rw [rd_bad hgx]
  clear hgx
  go_enter Tryd.func89, Tryd.ntmps89
  go_wp2_with fail
  exact bodyPost_ret (v := .tuple #[.agg #[.int .i64 0, .int .i64 0, .string ⟨#[]⟩, .slice none 0 0], .int .i64 0]) (by simp [results, Tryd.results89, go_sem]) rfl ⟨(((Below.refl _ _).alloc (Nat.le_refl _) _).alloc (by simp) _).alloc (by simp; omega) _, rfl⟩

set_option maxHeartbeats 1000000 in
theorem l2Read_none (f : Nat) (ad : Option Addr) (c : Nat) (l : List Xx) (at_ : Nat) (w : World) (hl : l.length ≤ 1048576) (hge : l.length ≤ at_) (ha : at_ ≤ l.length) : RdGoal f ad c l at_ w := by
  unfold RdGoal
  have hr : rd f (l.drop at_) = none := by
    rw [List.drop_eq_nil_of_le hge]
    cases f <;> rfl
  rw [hr]
  have hge' : ¬ (at_ : Int) < (l.length : Int) := by omega
  go_enter Tryd.func89, Tryd.ntmps89
  go_wp2_with fail
  exact bodyPost_ret (v := .tuple #[.agg #[.int .i64 0, .int .i64 0, .string ⟨#[]⟩, .slice none 0 0], .int .i64 0]) (by simp [results, Tryd.results89, go_sem]) rfl ⟨(Below.refl _ _).alloc (Nat.le_refl _) _, rfl⟩

theorem l2Read_any : ∀ (f : Nat) (ad : Option Addr) (c : Nat) (l : List Xx) (at_ : Nat) (w : World), l.length ≤ 1048576 → (∀ x ∈ l, x.t.size ≤ 1048576) → Row w ad l → at_ ≤ l.length → l.length - at_ ≤ f → RdGoal f ad c l at_ w
  | 0, ad, c, l, at_, w, hl, _, _, ha, hf => l2Read_none 0 ad c l at_ w hl (by omega) ha
  | f + 1, ad, c, l, at_, w, hl, hs, h, ha, hf => by
    by_cases hlt : at_ < l.length
    · have ih : RdIH f ad c l := fun at' w' h1 h2 h3 => l2Read_any f ad c l at' w' hl hs h1 h2 h3
      have hsz := hs _ (List.getElem_mem hlt)
      obtain ⟨x, hx⟩ : ∃ x, l[at_] = x := ⟨_, rfl⟩
      rw [hx] at hsz
      obtain ⟨k, n, t⟩ := x
      by_cases h1 : k = 1
      · subst h1; exact l2Read_k1 f ad c l at_ w n t hl h hlt hx
      by_cases h2 : k = 2
      · subst h2; exact l2Read_k2 f ad c l at_ w n t hl h hlt hsz hx
      by_cases h3 : k = 3
      · subst h3; exact l2Read_k3 f ad c l at_ w n t ih hl h hlt hf hx
      by_cases h4 : k = 4
      · subst h4; exact l2Read_k4 f ad c l at_ w n t ih hl h hlt hf hx
      by_cases h5 : k = 5
      · subst h5; exact l2Read_k5 f ad c l at_ w n t ih hl h hlt hf hx
      exact l2Read_kx f ad c l at_ w k n t hl h hlt h1 h2 h3 h4 h5 hx
    · exact l2Read_none (f + 1) ad c l at_ w hl (by omega) ha

/-- What l2Tree tells. -/
def TrOut (w' : World) (lo : Nat) (e : Ending) : Option E → Prop
  | none => ∃ (k n : Int) (t : ByteArray) (sad : Option Addr) (sn sc : Nat), e = .returned (.tuple #[.agg #[.int .i64 k, .int .i64 n, .string t, .slice sad sn sc], .bool false])
  | some t => ∃ s, e = .returned (.tuple #[.agg #[.int .i64 t.head.k, .int .i64 t.head.n, .string t.head.t, s], .bool true]) ∧ TrK w' lo t s

set_option maxRecDepth 20000 in
set_option maxHeartbeats 2000000 in
theorem l2Tree_any (ad : Option Addr) (c : Nat) (l : List Xx) (w : World) (hl : l.length ≤ 1048576) (hs : ∀ x ∈ l, x.t.size ≤ 1048576) (h : Row w ad l) :
    Calls Tryd.prog 52 #[.slice ad l.length c] w fun e w' => Below w.heap.size w w' ∧ TrOut w' w.heap.size e (treeE l) := by
  have HR := hide h
  have HS := hide hs
  clear h hs
  by_cases h40 : 40 < l.length
  · have ht : treeE l = none := by unfold treeE; rw [if_neg (by omega)]
    rw [ht]
    have h40' : (40 : Int) < (l.length : Int) := by omega
    go_enter Tryd.func52, Tryd.ntmps52
    go_wp2_with fail
    exact bodyPost_ret (v := .tuple #[.agg #[.int .i64 0, .int .i64 0, .string ⟨#[]⟩, .slice none 0 0], .bool false]) (by simp [results, Tryd.results52, go_sem]) rfl ⟨(Below.refl _ _).alloc (Nat.le_refl _) _, _, _, _, _, _, _, rfl⟩
  · have h40' : (l.length : Int) ≤ 40 := by omega
    obtain ⟨T, hT⟩ : ∃ T, T = treeE l := ⟨_, rfl⟩
    rw [← hT]
    have HT := hide hT
    clear hT
    go_enter Tryd.func52, Tryd.ntmps52
    go_wp2_with fail
    refine Calls.mono (l2Read_any 40 ad c l 0 _ hl HS.out (HR.out.below ((Below.refl _ _).alloc (Nat.le_refl _) _)) (by omega) (by omega)) ?_
    rintro e w1 ⟨hb1, ho1⟩
    rw [List.drop_zero] at ho1
    have H0 := hide ((hb1.block w.heap.size (by simp)).trans (heap_alloc_new _ _))
    have hB1 : Below w.heap.size w w1 := ((Below.refl _ _).alloc (Nat.le_refl _) _).trans (hb1.mono (by simp))
    have hsz1 : w.heap.size < w1.heap.size := by have := hb1.size; simp at this; omega
    clear hb1
    have z0 := cell_of_blk H0.out 0
    have z1 := cell_of_blk H0.out 1
    have z2 := cell_of_blk H0.out 2
    have z3 := cell_of_blk H0.out 3
    have fz := unfrozen_of_blk H0.out
    simp only [List.getElem?_toArray, List.getElem?_cons_zero, List.getElem?_cons_succ] at z0 z1 z2 z3
    cases hr : rd 40 l with
    | none =>
      rw [hr] at ho1
      have e1 : T = none := by
        rw [HT.out]; unfold treeE; rw [if_pos (by omega), hr]
      subst e1
      have ho1' : e = .returned (.tuple #[.agg #[.int .i64 0, .int .i64 0, .string ⟨#[]⟩, .slice none 0 0], .int .i64 0]) := ho1
      subst ho1'
      clear ho1
      go_wp2_with fail
      exact bodyPost_ret (v := .tuple #[.agg #[.int .i64 0, .int .i64 0, .string ⟨#[]⟩, .slice none 0 0], .bool false]) (by simp [results, Tryd.results52, go_sem, *]) rfl ⟨((((hB1.setCell (p := ⟨w.heap.size, 0, none⟩) (Nat.le_refl _) _).setCell (p := ⟨w.heap.size, 1, none⟩) (Nat.le_refl _) _).setCell (p := ⟨w.heap.size, 2, none⟩) (Nat.le_refl _) _).setCell (p := ⟨w.heap.size, 3, none⟩) (Nat.le_refl _) _).alloc (by simp; omega) _, _, _, _, _, _, _, rfl⟩
    | some q =>
      obtain ⟨t, r⟩ := q
      rw [hr] at ho1
      obtain ⟨s, rfl, hTr⟩ := ho1
      have HTr := hide hTr
      obtain ⟨sad, sn, sc, rfl⟩ := hTr.form
      clear hTr
      have hrl := (rd_rest (l := l) (p := 0) (by rw [List.drop_zero]; exact hr)).2
      obtain ⟨x, hx⟩ : ∃ x, x = t.head := ⟨_, rfl⟩
      rw [← hx]
      have HX := hide hx
      clear hx
      by_cases hr0 : r.length = 0
      · have e1 : T = some t := by
          rw [HT.out]; unfold treeE; rw [if_pos (by omega), hr, List.length_eq_zero_iff.1 hr0]
        subst e1
        have he : ((l.length - r.length : Nat) : Int) = (l.length : Int) := by omega
        rw [he]
        have hpos : (0 : Int) < (l.length : Int) := by omega
        clear hr
        go_wp2_with fail
        refine bodyPost_ret (v := .tuple #[.agg #[.int .i64 x.k, .int .i64 x.n, .string x.t, .slice sad sn sc], .bool true]) (by simp [results, Tryd.results52, go_sem, *]) rfl ⟨((((hB1.setCell (p := ⟨w.heap.size, 0, none⟩) (Nat.le_refl _) _).setCell (p := ⟨w.heap.size, 1, none⟩) (Nat.le_refl _) _).setCell (p := ⟨w.heap.size, 2, none⟩) (Nat.le_refl _) _).setCell (p := ⟨w.heap.size, 3, none⟩) (Nat.le_refl _) _).alloc (by simp; omega) _, .slice sad sn sc, by rw [← HX.out], ?_⟩
        refine TrK.lower (lo := w.heap.size + 1) (by omega) (TrK.keep (w := w1) (by simp [World.setCell]) (fun k hk1 hk2 => ?_) (by have := HTr.out; simpa using this))
        have hkn : k ≠ w.heap.size := by omega
        rw [heap_alloc_old _ _ (by simp [World.setCell]; omega), Below.heap_setCell _ _ _ _ hkn, Below.heap_setCell _ _ _ _ hkn, Below.heap_setCell _ _ _ _ hkn, Below.heap_setCell _ _ _ _ hkn]
      · have e1 : T = none := by
          rw [HT.out]; unfold treeE; rw [if_pos (by omega), hr]
          cases r with
          | nil => simp at hr0
          | cons y r => rfl
        subst e1
        have hne : ¬ ((l.length - r.length : Nat) : Int) = (l.length : Int) := by omega
        have hpos : (0 : Int) < ((l.length - r.length : Nat) : Int) := by omega
        obtain ⟨E1, hE1⟩ : ∃ E1, E1 = l.length - r.length := ⟨_, rfl⟩
        rw [← hE1] at hne hpos ⊢
        have hnb : ((E1 : Int) == (l.length : Int)) = false := by simp; omega
        clear hr hE1
        go_wp2_with fail
        exact bodyPost_ret (v := .tuple #[.agg #[.int .i64 x.k, .int .i64 x.n, .string x.t, .slice sad sn sc], .bool false]) (by simp [results, Tryd.results52, go_sem, *]) rfl ⟨((((hB1.setCell (p := ⟨w.heap.size, 0, none⟩) (Nat.le_refl _) _).setCell (p := ⟨w.heap.size, 1, none⟩) (Nat.le_refl _) _).setCell (p := ⟨w.heap.size, 2, none⟩) (Nat.le_refl _) _).setCell (p := ⟨w.heap.size, 3, none⟩) (Nat.le_refl _) _).alloc (by simp; omega) _, _, _, _, _, _, _, rfl⟩
end Go.Proofs.YtjffignbiabmaaaDoor.W

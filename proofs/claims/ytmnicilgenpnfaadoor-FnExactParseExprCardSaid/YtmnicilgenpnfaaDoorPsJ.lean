/-
  Trees told as parts by the specification: the contract of l2Flat. Conditions: at most 1048576 parts.
-/
import Derived.Test.YtmnicilgenpnfaaDoorPsG
import Derived.Deep.AppendLies
namespace Go.Proofs.YtmnicilgenpnfaaDoor.W
open Go.ChangeShapes Go.WideShapes Go.ChangeAt Go.RowKit
set_option linter.unusedVariables false
set_option linter.unusedSimpArgs false

def kidsOf : E → List E
  | .leaf _ => []
  | .one _ a => [a]
  | .two _ a b => [a, b]
def fl (l : List E) : List Xx := l.flatMap E.flat
theorem flat_kids (e : E) : e.flat = e.head :: fl (kidsOf e) := by cases e <;> simp [E.flat, E.head, kidsOf, fl]
theorem TrP.mono {w : World} {P P' : Nat → Prop} (hP : ∀ k, P k → k < w.heap.size → P' k) : ∀ {e : E} {s : Value}, TrP w P e s → TrP w P' e s
  | .leaf _, _, h => h
  | .one _ _, _, ⟨sa, h1, g, cap, a1, a2, a3, a4⟩ => ⟨sa, TrP.mono hP h1, g, cap, a1, hP g a2 a3, a3, a4⟩
  | .two _ _ _, _, ⟨sa, sb, h1, h2, g, cap, a1, a2, a3, a4⟩ => ⟨sa, sb, TrP.mono hP h1, TrP.mono hP h2, g, cap, a1, hP g a2 a3, a3, a4⟩
theorem TrP.len {w : World} {P : Nat → Prop} {e : E} {s : Value} (h : TrP w P e s) : ∃ ad c, s = .slice ad (kidsOf e).length c := by
  cases e with
  | leaf x => exact ⟨none, 0, h⟩
  | one x a => obtain ⟨sa, h1, g, cap, a1, _⟩ := h; exact ⟨_, _, a1⟩
  | two x a b => obtain ⟨sa, sb, h1, h2, g, cap, a1, _⟩ := h; exact ⟨_, _, a1⟩
/-- A kid's four cells. -/
theorem TrP.kid {w : World} {P : Nat → Prop} {e : E} {s : Value} (h : TrP w P e s) {j : Nat} (hj : j < (kidsOf e).length) :
    ∃ g cap sj, s = .slice (some ⟨g, 0, none⟩) (kidsOf e).length cap ∧ P g ∧ g < w.heap.size ∧ TrP w P (kidsOf e)[j] sj ∧ w.cell? ⟨g, j * 4, none⟩ = some (.int .i64 (kidsOf e)[j].head.k) ∧ w.cell? ⟨g, j * 4 + 1, none⟩ = some (.int .i64 (kidsOf e)[j].head.n) ∧ w.cell? ⟨g, j * 4 + 2, none⟩ = some (.string (kidsOf e)[j].head.t) ∧ w.cell? ⟨g, j * 4 + 3, none⟩ = some sj := by
  cases e with
  | leaf x => exact absurd hj (by simp [kidsOf])
  | one x a =>
    obtain ⟨sa, h1, g, cap, a1, a2, a3, a4⟩ := h
    have hj0 : j = 0 := by simp [kidsOf] at hj; omega
    subst hj0
    exact ⟨g, cap, sa, a1, a2, a3, h1, a4 0 _ rfl, a4 1 _ rfl, a4 2 _ rfl, a4 3 _ rfl⟩
  | two x a b =>
    obtain ⟨sa, sb, h1, h2, g, cap, a1, a2, a3, a4⟩ := h
    have hj0 : j = 0 ∨ j = 1 := by simp [kidsOf] at hj; omega
    rcases hj0 with rfl | rfl
    · exact ⟨g, cap, sa, a1, a2, a3, h1, a4 0 _ rfl, a4 1 _ rfl, a4 2 _ rfl, a4 3 _ rfl⟩
    · exact ⟨g, cap, sb, a1, a2, a3, h2, a4 4 _ rfl, a4 5 _ rfl, a4 6 _ rfl, a4 7 _ rfl⟩
theorem grownA2 (w : World) (o : Obj) (r : Option Nat) : w.grownBy (w.alloc o) r := World.grownBy_alloc w o r
theorem grownT2 {w w1 w2 : World} {r r' : Option Nat} (h1 : w.grownBy w1 r) (h2 : w1.grownBy w2 r') (hr : ∀ k, r' = some k → r = some k ∨ w.heap.size ≤ k) : w.grownBy w2 r :=
  ⟨h2.os.trans h1.os, h2.tape.trans h1.tape, h2.output.trans h1.output, Nat.le_trans h1.size h2.size, fun k hk hne => (h2.block k (Nat.lt_of_lt_of_le hk h1.size) (fun e => by
    rcases hr k e.symm with h | h
    · exact hne h.symm
    · omega)).trans (h1.block k hk hne)⟩
theorem apartT2 {w w1 : World} {v v1 v2 : Value} (h1 : Apart w v v1) (h2 : Apart w1 v1 v2) (hs : w.heap.size ≤ w1.heap.size) : Apart w v v2 := fun g hg => by
  rcases h2 g hg with h | h
  · exact h1 g h
  · exact .inr (by omega)
theorem x3_one (k n : Int) (t : ByteArray) : ∀ u ∈ [Value.int .i64 k, .int .i64 n, .string t], u.oneCell' = true := by
  intro u hu
  simp only [List.mem_cons, List.not_mem_nil, or_false] at hu
  rcases hu with rfl | rfl | rfl <;> rfl
theorem x3_news {w : World} {g : Nat} {k n : Int} {s : ByteArray} {t : TypeId} (h : w.heap[g]? = some (.cells #[.int .i64 k, .int .i64 n, .string s] t (0, 0))) : ∀ j u, [Value.int .i64 k, .int .i64 n, .string s][j]? = some u → w.cell? ((⟨g, 0, none⟩ : Addr).add j) = some u := by
  intro j u hu
  rw [Addr.add_lit, Nat.zero_add, cell_of_blk h, ← hu]
  simp

def L2F (e : E) : Prop := ∀ (s v : Value) (base n : Nat) (xs : List Value) (P : Nat → Prop) (w : World), (∀ g, P g → g < w.heap.size → v.ownBlock ≠ some g) → n + e.flat.length ≤ 1048576 → base ≤ w.heap.size → TrP w P e s → w.ownsRow base 47 3 v n xs →
    Calls Tryd.prog 12 #[l2v e.head s, v] w fun r w' => ∃ v', r = .returned v' ∧ w'.ownsRow base 47 3 v' (n + e.flat.length) (xs ++ xcv e.flat) ∧ w.grownBy w' v.ownBlock ∧ Apart w v v'

set_option maxRecDepth 20000 in
set_option maxHeartbeats 8000000 in
theorem l2Flat_step (e : E) (ih : ∀ k ∈ kidsOf e, L2F k) : L2F e := by
  intro s v base n xs P w hsep hn hb hT hown
  have IH := hide ih
  have HT := hide hT
  have HO := hide hown
  have HSep := hide hsep
  obtain ⟨sad, sc, rfl⟩ := hT.len
  obtain ⟨ad, c, rfl⟩ := own_form' hown
  obtain ⟨i0, hi0, hz0, hz1, hz2⟩ := infoParts infoEx
  have Hi := hide hi0
  rw [flat_kids] at hn ⊢
  rw [List.length_cons] at hn ⊢
  have M1 : Hid (n + 1 ≤ maxLen) := hide (by unfold maxLen; omega)
  clear ih hT hown hsep hi0
  obtain ⟨KS, hKS⟩ : ∃ KS, KS = kidsOf e := ⟨_, rfl⟩
  rw [← hKS] at HT IH hn ⊢
  have HKS := hide hKS
  have hk2 : KS.length ≤ 2 := by rw [hKS]; cases e <;> simp [kidsOf]
  obtain ⟨KL, hKL⟩ : ∃ KL, KL = KS.length := ⟨_, rfl⟩
  rw [← hKL] at HT ⊢
  have HKL := hide hKL
  rw [← hKL] at hk2
  obtain ⟨x, hx⟩ : ∃ x, x = e.head := ⟨_, rfl⟩
  rw [← hx]
  clear hKS hKL hx
  obtain ⟨xk, xn, xt⟩ := x
  unfold l2v
  simp only
  go_enter Tryd.func12, Tryd.ntmps12
  go_wp2_with (at_builtin; refine wpList_append_sep rfl _ _ 22 rfl base 47 i0 (.agg #[.int .i64 0, .int .i64 0, .string ⟨#[]⟩]) 3 32 Tryd.underlying22 Hi.out hz0 hz1 hz2 rfl (by decide) _ n xs rfl ((HO.out.alloc _).alloc _) ⟨w.heap.size + 1, 0, none⟩ 1 1 [.int .i64 xk, .int .i64 xn, .string xt] rfl rfl (x3_news (by have := heap_alloc_new (w.alloc (.cells #[.int .i64 xk, .int .i64 xn, .string xt, .slice sad KL sc] 36)) (.cells #[.int .i64 xk, .int .i64 xn, .string xt] 47); simpa using this)) (x3_one _ _ _) M1.out (by omega) (by simp; omega) ?_)
  intro v1 w1 hown1 hgrow1 hap1
  obtain ⟨ad1, c1, rfl⟩ := own_form' hown1
  have hol : ∀ k, (Value.slice ad n c).ownBlock = some k → k < w.heap.size := fun k hk => (HO.out.lt k hk).2
  have HO1 := hide hown1
  have g1 : w.grownBy w1 (Value.slice ad n c).ownBlock := grownT2 (grownA2 w (.cells #[.int .i64 xk, .int .i64 xn, .string xt, .slice sad KL sc] 36) _) (grownT2 (grownA2 _ (.cells #[.int .i64 xk, .int .i64 xn, .string xt] 47) _) hgrow1 (fun k hk => .inl hk)) (fun k hk => .inl hk)
  have HG1 := hide g1
  have HA1 : Hid (Apart w (.slice ad n c) (.slice ad1 (n + 1) c1)) := hide (fun g hg => by
    rcases hap1 g hg with h | h
    · exact .inl h
    · right; simp at h; omega)
  have y3 : w1.cell? ⟨w.heap.size, 3, none⟩ = some (.slice sad KL sc) := hgrow1.cell (a := ⟨w.heap.size, 3, none⟩) (by simp) (fun e => by have := hol w.heap.size e.symm; omega)
  have HP : Hid (TrP w (fun g => P g ∧ g < w.heap.size) e (.slice sad KL sc)) := hide (TrP.mono (fun g h1 h2 => ⟨h1, h2⟩) HT.out)
  clear hown1 hgrow1 hap1 g1
  go_wp2_with fail
  clear y3
  go_loopw [1, 20] (fun v1 i w' => ∃ j : Nat, j ≤ KL ∧ i = .int .i64 (j : Int) ∧ w'.ownsRow base 47 3 v1 (n + (1 + (fl (KS.take j)).length)) (xs ++ xcv (⟨xk, xn, xt⟩ :: fl (KS.take j))) ∧ w.grownBy w' (Value.slice ad n c).ownBlock ∧ Apart w (.slice ad n c) v1) (fun _ i _ => KL - (intOf i).toNat)
  case atStart => exact ⟨0, by omega, rfl, HO1.out, HG1.out, HA1.out⟩
  case round =>
    obtain ⟨j, hj, rfl, hown, hg, hap⟩ := hrel
    obtain ⟨rad, rc, hform⟩ := own_form' hown
    subst hform
    have HOr := hide hown
    have HGr := hide hg
    have HAr := hide hap
    clear hown hg hap HO1 HG1 HA1
    have hj0 : (0 : Int) ≤ (j : Int) := by omega
    by_cases hlt : j < KL
    · have hlt' : (j : Int) < (KL : Int) := by omega
      have hltK : j < KS.length := by rw [← HKL.out]; exact hlt
      have hs1 : fl (KS.take (j + 1)) = fl (KS.take j) ++ (KS[j]).flat := by
        unfold fl
        rw [List.take_add_one, List.getElem?_eq_getElem hltK, List.flatMap_append]
        simp [List.flatMap_cons]
      have hle : (fl (KS.take (j + 1))).length ≤ (fl KS).length := by
        have : fl KS = fl (KS.take (j + 1)) ++ fl (KS.drop (j + 1)) := by unfold fl; rw [← List.flatMap_append, List.take_append_drop]
        rw [this]; simp
      have hk := HP.out
      obtain ⟨g, cap, sy, he, hPg, hg, hTy, p0, p1, p2, p3⟩ := TrP.kid hk (j := j) (by rw [← HKS.out]; exact hltK)
      simp only [Value.slice.injEq] at he
      obtain ⟨rfl, -, rfl⟩ := he
      simp only [← HKS.out] at hTy p0 p1 p2
      have hIj := IH.out KS[j] (List.getElem_mem hltK)
      obtain ⟨y, hy⟩ : ∃ y, y = KS[j] := ⟨_, rfl⟩
      rw [← hy] at hTy p0 p1 p2 hs1 hIj
      have hng : (Value.slice ad n c).ownBlock ≠ some g := HSep.out g hPg.1 hPg.2
      have q0 := HGr.out.cell p0 (fun e => hng e.symm)
      have q1 := HGr.out.cell p1 (fun e => hng e.symm)
      have q2 := HGr.out.cell p2 (fun e => hng e.symm)
      have q3 := HGr.out.cell p3 (fun e => hng e.symm)
      have hszr := HGr.out.size
      have hTr : TrP wr (fun g => P g ∧ g < w.heap.size) y sy := hTy.keep hszr (fun g h1 h2 => HGr.out.block g h2 (fun e => HSep.out g h1.1 h1.2 e.symm))
      obtain ⟨sya, syn, syc, rfl⟩ := hTr.form
      obtain ⟨NN, hNN⟩ : ∃ NN, NN = n + (1 + (fl (KS.take j)).length) := ⟨_, rfl⟩
      have hnn : NN + y.flat.length ≤ 1048576 := by rw [hs1, List.length_append] at hle; omega
      have hnn2 : NN + y.flat.length = n + (1 + (fl (KS.take (j + 1))).length) := by rw [hs1, List.length_append]; omega
      rw [← hNN] at HOr HAr ⊢
      have HC := hide (hIj (.slice sya syn syc) (.slice rad NN rc) base NN (xs ++ xcv (⟨xk, xn, xt⟩ :: fl (KS.take j))) (fun g => P g ∧ g < w.heap.size) (wr.alloc (.cells #[.int .i64 y.head.k, .int .i64 y.head.n, .string y.head.t, .slice sya syn syc] 36)) (fun g h1 _ e => by
        rcases HAr.out g e with h | h
        · exact HSep.out g h1.1 h1.2 h
        · omega) hnn (by simp; omega) (hTr.keep (by simp) (fun k _ h => heap_alloc_old wr _ h)) (HOr.out.alloc _))
      have HS1 := hide hs1
      have HN2 := hide hnn2
      obtain ⟨YN, hYN⟩ : ∃ YN, YN = y.flat := ⟨_, rfl⟩
      rw [← hYN] at HC HS1 HN2
      obtain ⟨hd, hhd⟩ : ∃ hd, hd = y.head := ⟨_, rfl⟩
      rw [← hhd] at HC q0 q1 q2
      obtain ⟨yk, yn, yt⟩ := hd
      unfold l2v at HC
      simp only at HC q0 q1 q2
      clear p0 p1 p2 p3 hTy hTr hIj hy hs1 hle hk hYN hhd hnn hnn2 hNN
      go_wp2_with fail
      refine Calls.mono HC.out ?_
      rintro e w2 ⟨v2, rfl, ho2, hg2, ha2⟩
      obtain ⟨ad2, c2, rfl⟩ := own_form' ho2
      have HO2 := hide ho2
      have HG2 : Hid (w.grownBy w2 (Value.slice ad n c).ownBlock) := hide (grownT2 (grownT2 HGr.out (grownA2 wr _ _) (fun k hk => .inl hk)) hg2 (fun k hk => HAr.out k hk))
      have HA2 : Hid (Apart w (.slice ad n c) (.slice ad2 (NN + YN.length) c2)) := hide (apartT2 HAr.out ha2 (by simp; omega))
      clear ho2 hg2 ha2 HC q0 q1 q2 q3
      go_wp2_with fail
      refine ⟨⟨j + 1, by omega, by go_num, ?_, HG2.out, HA2.out⟩, by simp [intOf]; omega⟩
      have h3 := HO2.out
      rw [← HN2.out, HS1.out]
      have e2 : xs ++ xcv (⟨xk, xn, xt⟩ :: (fl (KS.take j) ++ YN)) = xs ++ xcv (⟨xk, xn, xt⟩ :: fl (KS.take j)) ++ xcv YN := by rw [← List.cons_append, xcv_app, List.append_assoc]
      rw [e2]
      exact h3
    · have hlt' : ¬ (j : Int) < (KL : Int) := by omega
      have hjk : KS.take j = KS := List.take_of_length_le (by rw [← HKL.out]; omega)
      rw [hjk] at HOr HAr ⊢
      have hc2 : n + (1 + (fl KS).length) = n + ((fl KS).length + 1) := by omega
      rw [hc2] at HOr HAr ⊢
      clear hjk hc2
      go_wp2_with fail
      go_ret
      exact ⟨_, rfl, HOr.out, HGr.out, HAr.out⟩
theorem l2Flat_any (e : E) : L2F e := by
  induction e with
  | leaf x => exact l2Flat_step (.leaf x) (fun k hk => absurd hk (by simp [kidsOf]))
  | one x a iha =>
    refine l2Flat_step (.one x a) (fun k hk => ?_)
    simp only [kidsOf, List.mem_singleton] at hk
    rw [hk]; exact iha
  | two x a b iha ihb =>
    refine l2Flat_step (.two x a b) (fun k hk => ?_)
    simp only [kidsOf, List.mem_cons, List.mem_singleton, List.not_mem_nil, or_false] at hk
    rcases hk with hk | hk
    · rw [hk]; exact iha
    · rw [hk]; exact ihb
end Go.Proofs.YtmnicilgenpnfaaDoor.W

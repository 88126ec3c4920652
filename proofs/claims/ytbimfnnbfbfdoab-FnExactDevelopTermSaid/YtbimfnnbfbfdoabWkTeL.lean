/-
  TeL for terms whose variables may be up to 900000 (written by build/weak.py).
-/
import Derived.Test.YtbimfnnbfbfdoabTeL
import Derived.Test.YtbimfnnbfbfdoabWkP
import Derived.Test.YtbimfnnbfbfdoabWkTeJ
namespace Go.Proofs.Ytbimfnnbfbfdoab.V
open Go.Proofs.Ytbimfnnbfbfdoab.W
open Go.ChangeShapes Go.WideShapes Go.ChangeAt Go.RowKit
set_option linter.unusedVariables false

set_option maxRecDepth 20000 in
theorem subst_size (K LS L1 : Nat) (sx : Cc) (sk : F) (hL : (LS : Int) - 1 = (L1 : Int)) (hL1 : L1 ≤ 599) : ∀ (a : F) (pk : Int) (d i : Nat) (z : Int), a.okw → 0 ≤ z → z + ((a.flat.length * 599 : Nat) : Int) ≤ 1000000000 →
    (wv (sbV K LS sx sk) (sbB K LS) pk d i a z).2 = z + ((usf (K + d) pk i a * L1 : Nat) : Int)
  | .nil, _, _, _, z, _, _, _ => by simp [wv, usf]
  | .cons x k r, pk, d, i, z, h, hz, hb => by
    obtain ⟨g1, l1, o1, r1⟩ := ok_cons h
    have hfl : (F.cons x k r).flat.length = 1 + k.flat.length + r.flat.length := by simp [F.flat]; omega
    rw [hfl] at hb
    rw [usf_cons, us_mul, Nat.add_assoc K d (binds pk i)]
    by_cases hx : x.k = 1
    · have hk0 : k = .nil := F.len_0 (by rw [l1, hx]; rfl)
      simp only [wv, hx, if_true]
      by_cases he : x.n = ((K + (d + binds pk i) : Nat) : Int)
      · have hu : us1 (K + (d + binds pk i)) x k = 1 := if_pos ⟨hx, he⟩
        have hs : sbB K LS z x.n (d + binds pk i) = z + (L1 : Int) := by
          unfold sbB
          rw [if_neg (by omega), if_neg (by omega), hL, IntWalk.i64_in _ ⟨by omega, by omega⟩]
        rw [hs, hu, subst_size K LS L1 sx sk hL hL1 r pk d (i + 1) _ r1 (by omega) (by omega)]
        omega
      · have hu : us1 (K + (d + binds pk i)) x k = 0 := by unfold us1; rw [if_neg (fun hc => he hc.2), hk0]; rfl
        have hs : sbB K LS z x.n (d + binds pk i) = z := by
          unfold sbB
          split
          · rfl
          · rw [if_pos (by omega)]
        rw [hs, hu, subst_size K LS L1 sx sk hL hL1 r pk d (i + 1) _ r1 hz (by omega)]
        omega
    · have hu : us1 (K + (d + binds pk i)) x k = usf (K + (d + binds pk i)) x.k 0 k := if_neg (fun hc => hx hc.1)
      have hul := usf_le k x.k (K + (d + binds pk i)) 0
      have hm : usf (K + (d + binds pk i)) x.k 0 k * L1 ≤ k.flat.length * 599 := Nat.mul_le_mul hul hL1
      simp only [wv, hx, if_false]
      rw [subst_size K LS L1 sx sk hL hL1 k x.k (d + binds pk i) 0 z o1 hz (by omega), hu, subst_size K LS L1 sx sk hL hL1 r pk d (i + 1) _ r1 (by omega) (by omega)]
      omega
set_option maxRecDepth 20000 in
theorem subst_tree (K LS L1 : Nat) (sx : Cc) (sk : F) (hL : (LS : Int) - 1 = (L1 : Int)) (hL1 : L1 ≤ 599) : ∀ (a : F) (pk : Int) (d i : Nat) (z : Int), a.okw → 0 ≤ z → z + ((a.flat.length * 599 : Nat) : Int) ≤ 1000000000 →
    z + ((usf (K + d) pk i a * L1 : Nat) : Int) ≤ 600 → (wv (sbV K LS sx sk) (sbB K LS) pk d i a z).1 = sbf K sx sk pk d i a
  | .nil, _, _, _, z, _, _, _, _ => rfl
  | .cons x k r, pk, d, i, z, h, hz, hb, h6 => by
    obtain ⟨g1, l1, o1, r1⟩ := ok_cons h
    have hfl : (F.cons x k r).flat.length = 1 + k.flat.length + r.flat.length := by simp [F.flat]; omega
    rw [hfl] at hb
    rw [usf_cons, us_mul, Nat.add_assoc K d (binds pk i)] at h6
    rw [sbf_cons]
    by_cases hx : x.k = 1
    · have hk0 : k = .nil := F.len_0 (by rw [l1, hx]; rfl)
      simp only [wv, hx, if_true]
      by_cases he : x.n = ((K + (d + binds pk i) : Nat) : Int)
      · have hu : us1 (K + (d + binds pk i)) x k = 1 := if_pos ⟨hx, he⟩
        have hs : sbB K LS z x.n (d + binds pk i) = z + (L1 : Int) := by
          unfold sbB
          rw [if_neg (by omega), if_neg (by omega), hL, IntWalk.i64_in _ ⟨by omega, by omega⟩]
        rw [hu] at h6
        have hg : sbV K LS sx sk z x.n (d + binds pk i) = .cons (shc ((d + binds pk i : Nat) : Int) 0 sx) (shf ((d + binds pk i : Nat) : Int) sx.k 0 0 sk) .nil := by
          unfold sbV
          rw [if_neg (by omega), if_neg (by omega), hL, IntWalk.i64_in _ ⟨by omega, by omega⟩, if_neg (by omega)]
        rw [hs, hg, subst_tree K LS L1 sx sk hL hL1 r pk d (i + 1) _ r1 (by omega) (by omega) (by omega)]
        show F.cons _ _ _ = _
        congr 1
        · unfold sbr; rw [if_pos hx, if_pos (by rw [he]; omega)]
        · unfold sbk; rw [if_pos hx, if_pos (by rw [he]; omega)]
      · have hu : us1 (K + (d + binds pk i)) x k = 0 := by unfold us1; rw [if_neg (fun hc => he hc.2), hk0]; rfl
        have hs : sbB K LS z x.n (d + binds pk i) = z := by
          unfold sbB
          split
          · rfl
          · rw [if_pos (by omega)]
        rw [hu] at h6
        rw [hs, subst_tree K LS L1 sx sk hL hL1 r pk d (i + 1) _ r1 hz (by omega) (by omega)]
        have hkz : sbk K sx sk (d + binds pk i) x k = .nil := by unfold sbk; rw [if_pos hx, if_neg (by intro hc; apply he; rw [hc]; omega)]
        rw [hkz]
        by_cases hlow : x.n - ((d + binds pk i : Nat) : Int) < (K : Int)
        · have hg : sbV K LS sx sk z x.n (d + binds pk i) = .cons ⟨1, x.n⟩ .nil .nil := by unfold sbV; rw [if_pos hlow]
          rw [hg]
          show F.cons _ _ _ = _
          congr 1
          unfold sbr
          rw [if_pos hx, if_neg (by omega), if_neg (by omega)]
          obtain ⟨xk, xn⟩ := x
          simp only at hx
          rw [hx]
        · have hhi : (K : Int) < x.n - ((d + binds pk i : Nat) : Int) := by omega
          have hg : sbV K LS sx sk z x.n (d + binds pk i) = .cons ⟨1, x.n - 1⟩ .nil .nil := by unfold sbV; rw [if_neg hlow, if_pos hhi]
          rw [hg]
          show F.cons _ _ _ = _
          congr 1
          unfold sbr
          rw [if_pos hx, if_neg (by omega), if_pos (by omega)]
    · have hu : us1 (K + (d + binds pk i)) x k = usf (K + (d + binds pk i)) x.k 0 k := if_neg (fun hc => hx hc.1)
      have hul := usf_le k x.k (K + (d + binds pk i)) 0
      have hm : usf (K + (d + binds pk i)) x.k 0 k * L1 ≤ k.flat.length * 599 := Nat.mul_le_mul hul hL1
      rw [hu] at h6
      simp only [wv, hx, if_false]
      rw [subst_tree K LS L1 sx sk hL hL1 k x.k (d + binds pk i) 0 z o1 hz (by omega) (by omega), subst_size K LS L1 sx sk hL hL1 k x.k (d + binds pk i) 0 z o1 hz (by omega), subst_tree K LS L1 sx sk hL hL1 r pk d (i + 1) _ r1 (by omega) (by omega) (by omega)]
      have e1 : sbr K sx (d + binds pk i) x = x := by unfold sbr; rw [if_neg hx]
      have e2 : sbk K sx sk (d + binds pk i) x k = sbf K sx sk x.k (d + binds pk i) 0 k := by unfold sbk; rw [if_neg hx]
      rw [e1, e2]
end Go.Proofs.Ytbimfnnbfbfdoab.V

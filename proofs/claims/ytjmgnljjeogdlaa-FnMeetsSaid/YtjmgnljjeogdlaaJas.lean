/-
  Some texts of this proof in one: DrD, SbA, PrA, PrB.
-/
import Derived.Test.YtjmgnljjeogdlaaJae
import Derived.Test.YtjmgnljjeogdlaaJar
import Derived.Deep.RegionHeld3
import Derived.BigQuiet
import Derived.OpenShut
import Derived.ChangeSlices
import Derived.Test.YtjmgnljjeogdlaaJad
import Derived.Test.YtjmgnljjeogdlaaJaf
/-
  The laws' own loop: a contract of same; bytes that came in. Conditions: at most 1048576 cells.
-/
namespace Go.Proofs.Ytjmgnljjeogdlaa.W
open Go.ChangeShapes Go.WideShapes Go.ChangeAt Go.RowKit
set_option linter.unusedVariables false
set_option linter.unusedSimpArgs false

set_option maxRecDepth 20000 in
set_option maxHeartbeats 2000000 in
theorem same_any (a1 a2 : Option Addr) (c1 c2 : Nat) (l1 l2 : List Cc) (w : World) (hl1 : l1.length ≤ 1048576) (hl2 : l2.length ≤ 1048576) (h1 : CRow w a1 l1) (h2 : CRow w a2 l2) :
    Calls Try.prog 8 #[.slice a1 l1.length c1, .slice a2 l2.length c2] w fun e w' => e = .returned (.bool (sameR l1 l2)) ∧ Below w.heap.size w w' := by
  have H1 := hide h1
  have H2 := hide h2
  clear h1 h2
  obtain ⟨R, hR⟩ : ∃ R, R = sameR l1 l2 := ⟨_, rfl⟩
  rw [← hR]
  have HR := hide hR
  clear hR
  by_cases hlen : l1.length = l2.length
  · have hlen' : (l1.length : Int) = (l2.length : Int) := by omega
    rw [← hlen]
    clear hlen'
    go_enter Try.func8, Try.ntmps8
    have HL := hide hlen
    clear hlen hl2
    go_wp2_with fail
    go_loopw [13] (fun i w' => ∃ j : Nat, j ≤ l1.length ∧ i = .int .i64 j ∧ R = sameR (l1.drop j) (l2.drop j) ∧ Below w.heap.size w w') (fun i _ => l1.length - (intOf i).toNat)
    case atStart => exact ⟨0, by omega, rfl, by rw [HR.out]; rfl, Below.refl _ _⟩
    case round =>
      obtain ⟨j, hj, rfl, hr, hB⟩ := hrel
      by_cases hlt : j < l1.length
      · have hlt' : (j : Int) < (l1.length : Int) := by omega
        have hlt2 : j < l2.length := by have := HL.out; omega
        obtain ⟨b, o, rfl, hb, p0, p1⟩ := H1.out.tok hB hlt
        obtain ⟨b', o', rfl, hb', q0, q1⟩ := H2.out.tok hB hlt2
        rw [List.drop_eq_getElem_cons hlt, List.drop_eq_getElem_cons hlt2] at hr
        obtain ⟨x, hx⟩ : ∃ x, x = l1[j] := ⟨_, rfl⟩
        obtain ⟨y, hy⟩ : ∃ y, y = l2[j] := ⟨_, rfl⟩
        rw [← hx] at p0 p1 hr
        rw [← hy] at q0 q1 hr
        have hs : R = (decide (x.k = y.k) && (decide (x.n = y.n) && sameR (l1.drop (j + 1)) (l2.drop (j + 1)))) := hr
        have HS := hide hs
        clear hx hy hr hs H1 H2
        by_cases hxy : x.k = y.k ∧ x.n = y.n
        · obtain ⟨e1, e2⟩ := hxy
          rw [e1] at p0 
          rw [e2] at p1
          go_wp2_with fail
          go_quiet (fail)
          go_wp2_with fail
          refine ⟨⟨j + 1, by omega, by go_num, ?_, ⟨hB.os, hB.tape, hB.output, hB.size, hB.block⟩⟩, by simp [intOf]; omega⟩
          rw [HS.out, decide_eq_true e1, decide_eq_true e2]; rfl
        · have hf : R = false := by
            rw [HS.out]
            by_cases h1 : x.k = y.k
            · have h2 : ¬ x.n = y.n := fun h => hxy ⟨h1, h⟩
              rw [decide_eq_false h2]; simp
            · rw [decide_eq_false h1]; simp
          subst hf
          clear HS HR
          by_cases h1 : x.k = y.k
          · have h2 : (x.n == y.n) = false := by simpa using fun h => hxy ⟨h1, h⟩
            rw [h1] at p0
            clear hxy h1
            go_wp2_with fail
            go_quiet (fail)
            go_wp2_with fail
            go_ret
            exact ⟨rfl, ⟨hB.os, hB.tape, hB.output, hB.size, hB.block⟩⟩
          · have h2 : (x.k == y.k) = false := by simpa using h1
            clear hxy h1
            go_wp2_with fail
            go_quiet (fail)
            go_wp2_with fail
            go_ret
            exact ⟨rfl, ⟨hB.os, hB.tape, hB.output, hB.size, hB.block⟩⟩
      · obtain rfl : j = l1.length := by omega
        have hl2 : l2.length = l1.length := HL.out.symm
        have hf : R = true := by rw [hr, List.drop_length, List.drop_eq_nil_of_le (by omega)]; rfl
        subst hf
        clear hl2 hr HR
        go_wp2_with fail
        go_ret
        exact ⟨rfl, hB⟩
  · have hf : R = false := by
      rw [HR.out, ← Bool.not_eq_true, sameR_iff]
      intro e
      exact hlen (by rw [e])
    subst hf
    have hlen' : ¬ (l1.length : Int) = (l2.length : Int) := by omega
    have hlb : ((l1.length : Int) == (l2.length : Int)) = false := by simp; omega
    have hlb2 : ((l1.length : Int) != (l2.length : Int)) = true := by simp; omega
    go_enter Try.func8, Try.ntmps8
    go_wp2_with fail
    go_ret
    exact ⟨rfl, Below.refl _ _⟩


theorem blk_lt {w : World} {a : Addr} {v : Value} (h : w.cell? a = some v) : a.block < w.heap.size := by
  unfold World.cell? at h
  split at h
  · rename_i hb; exact (Array.getElem?_eq_some_iff.1 hb).1
  · cases h
theorem cells8 : Try.prog.cellsOf 5 = 1 := by kernel_rfl

set_option maxRecDepth 20000 in
theorem open_byte {H : Type} {enc : TypeId × Value → H} {W : World} {sp : Nat → Bool} {held : Bool} {fuel : Nat} {ad : Option Addr} {len cap : Nat} {x : DataW H × List MemPlace}
    (h : DataW.trod enc Try.prog W 0 sp held fuel 22 [.slice ad len cap] = some x) :
    len ≤ maxLen ∧ BRow W ad len := by
  rcases Go.ChangeShapes.open_ints Try.underlying22 Try.underlying5 cells8 h with ⟨hcs, hx⟩ | ⟨a, len', cap', zs, hcs, hb, hl, hm, hz, hx, hcell, hwz⟩
  · simp at hcs
    obtain ⟨rfl, rfl, rfl⟩ := hcs
    exact ⟨by omega, .inl rfl⟩
  · simp at hcs
    obtain ⟨rfl, rfl, rfl⟩ := hcs
    have hz2 : len ≤ zs.length := by rw [hz]; split <;> omega
    refine ⟨by omega, ?_⟩
    clear hz
    by_cases h0 : len = 0
    · exact .inl h0
    · obtain ⟨ab, ao, spot⟩ := a
      have hspot : spot = none := by simpa [Addr.add] using World.cell?_spot (hcell 0 (by omega))
      subst hspot
      have hlt : ab < W.heap.size := by
        have := hcell 0 (by omega)
        rw [Addr.add_lit] at this
        exact blk_lt this
      refine .inr ⟨ab, ao, rfl, hlt, hlt, fun i hi => ?_⟩
      have hcj := hcell i (by omega)
      rw [Addr.add_lit] at hcj
      have hb := Go.range_u8 hwz i
      rw [List.getD_eq_getElem?_getD] at hcj
      exact ⟨_, hb.1, hb.2, hcj⟩
end Go.Proofs.Ytjmgnljjeogdlaa.W

/-
  Terms put in the place of variables: what is put in the one order or the other is the same (the substitution lemma), and which variables are left. No program here.
-/
namespace Go.Proofs.Ytjmgnljjeogdlaa.W
set_option linter.unusedVariables false
set_option linter.unusedSimpArgs false

/-- Variables have nothing behind them, and are not below 0. -/
def F.nv : F → Prop
  | .nil => True
  | .cons x k r => (x.k = 1 → k = .nil ∧ 0 ≤ x.n) ∧ k.nv ∧ r.nv
theorem binds0 (i : Nat) : binds 0 i = 0 := by unfold binds; simp
theorem shc_kV (b : Int) (f : Nat) (x : Cc) : (shc b f x).k = x.k := by unfold shc; split <;> rfl
theorem shc_shc {c d j f : Nat} (h1 : j ≤ f) (h2 : f ≤ j + c) (x : Cc) : shc (d : Int) f (shc (c : Int) j x) = shc ((c + d : Nat) : Int) j x := by
  obtain ⟨xk, xn⟩ := x
  unfold shc
  by_cases hx : xk = 1
  · subst hx
    by_cases hn : (j : Int) ≤ xn
    · have h3 : (f : Int) ≤ xn + (c : Int) := by omega
      simp only [hn, h3, and_self, if_true, Cc.mk.injEq, true_and]
      omega
    · have h3 : ¬ (f : Int) ≤ xn := by omega
      simp only [hn, h3, and_false, if_false]
  · simp [hx]
theorem shf_shf {c d : Nat} : ∀ (a : F) (pk : Int) (j f i : Nat), j ≤ f → f ≤ j + c → shf (d : Int) pk f i (shf (c : Int) pk j i a) = shf ((c + d : Nat) : Int) pk j i a
  | .nil, _, _, _, _, _, _ => rfl
  | .cons x k r, pk, j, f, i, h1, h2 => by
    simp only [shf, shc_kV]
    rw [shc_shc (by omega) (by omega), shf_shf k x.k _ _ 0 (by omega) (by omega), shf_shf r pk j f (i + 1) h1 h2]
theorem sbf_nil (K : Nat) (sx : Cc) (sk : F) (pk : Int) (d i : Nat) : sbf K sx sk pk d i .nil = .nil := rfl
theorem sbr_lt {K : Nat} {sx : Cc} {d : Nat} {n : Int} (h : n < (K : Int) + (d : Int)) : sbr K sx d ⟨1, n⟩ = ⟨1, n⟩ := by
  unfold sbr; simp only [if_true]; rw [if_neg (by omega), if_neg (by omega)]
theorem sbr_eq {K : Nat} {sx : Cc} {d : Nat} {n : Int} (h : n = (K : Int) + (d : Int)) : sbr K sx d ⟨1, n⟩ = shc (d : Int) 0 sx := by
  unfold sbr; simp only [if_true]; rw [if_pos h]
theorem sbr_gt {K : Nat} {sx : Cc} {d : Nat} {n : Int} (h : (K : Int) + (d : Int) < n) : sbr K sx d ⟨1, n⟩ = ⟨1, n - 1⟩ := by
  unfold sbr; simp only [if_true]; rw [if_neg (by omega), if_pos h]
theorem sbk_eq {K : Nat} {sx : Cc} {sk : F} {d : Nat} {n : Int} (k : F) (h : n = (K : Int) + (d : Int)) : sbk K sx sk d ⟨1, n⟩ k = shf (d : Int) sx.k 0 0 sk := by
  unfold sbk; simp only [if_true]; rw [if_pos h]
theorem sbk_ne {K : Nat} {sx : Cc} {sk : F} {d : Nat} {n : Int} (k : F) (h : n ≠ (K : Int) + (d : Int)) : sbk K sx sk d ⟨1, n⟩ k = .nil := by
  unfold sbk; simp only [if_true]; rw [if_neg h]
theorem sbr_no {K : Nat} {sx : Cc} {d : Nat} {x : Cc} (h : x.k ≠ 1) : sbr K sx d x = x := by unfold sbr; rw [if_neg h]
theorem sbk_no {K : Nat} {sx : Cc} {sk : F} {d : Nat} {x : Cc} {k : F} (h : x.k ≠ 1) : sbk K sx sk d x k = sbf K sx sk x.k d 0 k := by unfold sbk; rw [if_neg h]
theorem shc_no {b : Int} {f : Nat} {x : Cc} (h : x.k ≠ 1) : shc b f x = x := by unfold shc; rw [if_neg (fun hc => h hc.1)]
theorem shc_lt {b : Int} {f : Nat} {n : Int} (h : n < (f : Int)) : shc b f ⟨1, n⟩ = ⟨1, n⟩ := by unfold shc; rw [if_neg (by simp only; omega)]
theorem shc_ge {b : Int} {f : Nat} {n : Int} (h : (f : Int) ≤ n) : shc b f ⟨1, n⟩ = ⟨1, n + b⟩ := by unfold shc; rw [if_pos ⟨rfl, h⟩]
/-- What is put in and then shifted is shifted and then put in. -/
theorem sbf_shf {ux : Cc} {uk : F} {d : Nat} : ∀ (a : F) (pk : Int) (c i : Nat), a.nv → sbf 0 ux uk pk (c + d) i (shf (d : Int) pk c i a) = shf (d : Int) pk c i (sbf 0 ux uk pk c i a)
  | .nil, _, _, _, _ => rfl
  | .cons x k r, pk, c, i, ⟨hv, hk, hr⟩ => by
    have ir := sbf_shf (ux := ux) (uk := uk) (d := d) r pk c (i + 1) hr
    simp only [shf, sbf_cons]
    obtain ⟨b, hb⟩ : ∃ b, b = c + binds pk i := ⟨_, rfl⟩
    rw [show c + d + binds pk i = b + d by omega, ← hb, ir]
    by_cases hx : x.k = 1
    · obtain ⟨rfl, hn0⟩ := hv hx
      obtain ⟨xk, n⟩ := x
      simp only at hx hn0
      subst hx
      simp only [shf]
      rcases Int.lt_trichotomy n (b : Int) with h | h | h
      · rw [shc_lt h, sbr_lt (by omega), sbk_ne _ (by omega), sbr_lt (by omega), sbk_ne _ (by omega), shc_lt h]; rfl
      · rw [shc_ge (by omega), sbr_eq (by omega), sbk_eq _ (by omega), sbr_eq (by omega), sbk_eq _ (by omega), shc_shc (by omega) (by omega), shc_kV, shf_shf uk _ 0 b 0 (by omega) (by omega)]
      · rw [shc_ge (by omega), sbr_gt (by omega), sbk_ne _ (by omega), sbr_gt (by omega), sbk_ne _ (by omega), shc_ge (by omega)]
        simp only [shf]
        congr 2
        omega
    · rw [shc_no hx, sbr_no hx, sbk_no hx, sbr_no hx, sbk_no hx, shc_no hx, sbf_shf k x.k b 0 hk]
/-- What was shifted one further loses that where nothing is found. -/
theorem sbf_over {ex : Cc} {ek : F} {d : Nat} : ∀ (a : F) (pk : Int) (j i : Nat), a.nv → sbf 0 ex ek pk (d + j) i (shf ((d + 1 : Nat) : Int) pk j i a) = shf (d : Int) pk j i a
  | .nil, _, _, _, _ => rfl
  | .cons x k r, pk, j, i, ⟨hv, hk, hr⟩ => by
    have ir := sbf_over (ex := ex) (ek := ek) (d := d) r pk j (i + 1) hr
    simp only [shf, sbf_cons]
    obtain ⟨b, hb⟩ : ∃ b, b = j + binds pk i := ⟨_, rfl⟩
    rw [show d + j + binds pk i = d + b by omega, ← hb, ir]
    by_cases hx : x.k = 1
    · obtain ⟨rfl, hn0⟩ := hv hx
      obtain ⟨xk, n⟩ := x
      simp only at hx hn0
      subst hx
      simp only [shf]
      by_cases h : n < (b : Int)
      · rw [shc_lt h, sbr_lt (by omega), sbk_ne _ (by omega), shc_lt h]
      · rw [shc_ge (by omega), sbr_gt (by omega), sbk_ne _ (by omega), shc_ge (by omega)]
        congr 2
        omega
    · rw [shc_no hx, sbr_no hx, sbk_no hx, shc_no hx, sbf_over k x.k b 0 hk]
/-- The substitution lemma. -/
theorem sbf_sbf {sx ux : Cc} {sk uk : F} (hs : (F.cons sx sk .nil).nv) (hu : (F.cons ux uk .nil).nv) : ∀ (a : F) (pk : Int) (d i : Nat), a.nv →
    sbf 0 ux uk pk d i (sbf 0 sx sk pk d i a) = sbf 0 (sbr 0 ux 0 sx) (sbk 0 ux uk 0 sx sk) pk d i (sbf 1 (shc 1 0 ux) (shf 1 ux.k 0 0 uk) pk d i a)
  | .nil, _, _, _, _ => rfl
  | .cons x k r, pk, d, i, ⟨hv, hk, hr⟩ => by
    have ir := sbf_sbf hs hu r pk d (i + 1) hr
    simp only [sbf_cons]
    obtain ⟨b, hb⟩ : ∃ b, b = d + binds pk i := ⟨_, rfl⟩
    rw [← hb, ir]
    by_cases hx : x.k = 1
    · obtain ⟨rfl, hn0⟩ := hv hx
      obtain ⟨xk, n⟩ := x
      simp only at hx hn0
      subst hx
      rcases Int.lt_trichotomy n (b : Int) with h | h | h
      · have r0 : ∀ (K : Nat) (sx : Cc), sbr K sx b ⟨1, n⟩ = ⟨1, n⟩ := fun K sx => sbr_lt (by omega)
        have k0 : ∀ (K : Nat) (sx : Cc) (sk k : F), sbk K sx sk b ⟨1, n⟩ k = .nil := fun K sx sk k => sbk_ne _ (by omega)
        simp only [r0, k0]
      · have hB := sbf_shf (ux := ux) (uk := uk) (d := b) (.cons sx sk .nil) 0 0 0 hs
        simp only [shf, sbf_cons, sbf_nil, binds0, Nat.add_zero, Nat.zero_add, F.cons.injEq, and_true] at hB
        have r0 : ∀ (sx : Cc), sbr 0 sx b ⟨1, n⟩ = shc (b : Int) 0 sx := fun sx => sbr_eq (by omega)
        have k0 : ∀ (sx : Cc) (sk k : F), sbk 0 sx sk b ⟨1, n⟩ k = shf (b : Int) sx.k 0 0 sk := fun sx sk k => sbk_eq _ (by omega)
        have r1 : ∀ (sx : Cc), sbr 1 sx b ⟨1, n⟩ = ⟨1, n⟩ := fun sx => sbr_lt (by omega)
        have k1 : ∀ (sx : Cc) (sk k : F), sbk 1 sx sk b ⟨1, n⟩ k = .nil := fun sx sk k => sbk_ne _ (by omega)
        simp only [r0, k0, r1, k1]
        rw [hB.1, hB.2]
      · by_cases h1 : n = (b : Int) + 1
        · have hC := sbf_over (ex := sbr 0 ux 0 sx) (ek := sbk 0 ux uk 0 sx sk) (d := b) (.cons ux uk .nil) 0 0 0 hu
          simp only [shf, sbf_cons, sbf_nil, binds0, Nat.add_zero, Nat.zero_add, F.cons.injEq, and_true] at hC
          have e1 : shc (b : Int) 0 (shc 1 0 ux) = shc ((b + 1 : Nat) : Int) 0 ux := by
            have := shc_shc (c := 1) (d := b) (j := 0) (f := 0) (by omega) (by omega) ux
            rw [show 1 + b = b + 1 by omega] at this
            exact this
          have e2 : shf (b : Int) ux.k 0 0 (shf 1 ux.k 0 0 uk) = shf ((b + 1 : Nat) : Int) ux.k 0 0 uk := by
            have := shf_shf (c := 1) (d := b) uk ux.k 0 0 0 (by omega) (by omega)
            rw [show 1 + b = b + 1 by omega] at this
            exact this
          have r0 : ∀ (sx : Cc), sbr 0 sx b ⟨1, n⟩ = ⟨1, (b : Int)⟩ := fun sx => by rw [sbr_gt (by omega)]; congr 1; omega
          have k0 : ∀ (sx : Cc) (sk k : F), sbk 0 sx sk b ⟨1, n⟩ k = .nil := fun sx sk k => sbk_ne _ (by omega)
          have r2 : ∀ (sx : Cc), sbr 0 sx b ⟨1, (b : Int)⟩ = shc (b : Int) 0 sx := fun sx => sbr_eq (by omega)
          have k2 : ∀ (sx : Cc) (sk k : F), sbk 0 sx sk b ⟨1, (b : Int)⟩ k = shf (b : Int) sx.k 0 0 sk := fun sx sk k => sbk_eq _ (by omega)
          have r1 : ∀ (sx : Cc), sbr 1 sx b ⟨1, n⟩ = shc (b : Int) 0 sx := fun sx => sbr_eq (by omega)
          have k1 : ∀ (sx : Cc) (sk k : F), sbk 1 sx sk b ⟨1, n⟩ k = shf (b : Int) sx.k 0 0 sk := fun sx sk k => sbk_eq _ (by omega)
          simp only [r0, k0, r1, k1, r2, k2, shc_kV, e1, e2]
          rw [hC.1, hC.2]
        · have r0 : ∀ (K : Nat) (sx : Cc), K ≤ 1 → sbr K sx b ⟨1, n⟩ = ⟨1, n - 1⟩ := fun K sx hK => sbr_gt (by omega)
          have k0 : ∀ (K : Nat) (sx : Cc) (sk k : F), K ≤ 1 → sbk K sx sk b ⟨1, n⟩ k = .nil := fun K sx sk k hK => sbk_ne _ (by omega)
          have r2 : ∀ (sx : Cc), sbr 0 sx b ⟨1, n - 1⟩ = ⟨1, n - 1 - 1⟩ := fun sx => sbr_gt (by omega)
          have k2 : ∀ (sx : Cc) (sk k : F), sbk 0 sx sk b ⟨1, n - 1⟩ k = .nil := fun sx sk k => sbk_ne _ (by omega)
          simp only [r0 0 _ (by omega), r0 1 _ (by omega), k0 0 _ _ _ (by omega), k0 1 _ _ _ (by omega), r2, k2]
    · rw [sbr_no hx, sbk_no hx, sbr_no hx, sbk_no hx, sbr_no hx, sbk_no hx, sbr_no hx, sbk_no hx, sbf_sbf hs hu k x.k b 0 hk]
theorem ok_nv : ∀ {a : F}, a.ok → a.nv
  | .nil, _ => trivial
  | .cons x k r, h => ⟨fun hx => ⟨F.len_0 (by rw [h.2.1, hx]; rfl), by
      have := h.1
      unfold goodC at this
      simp [hx, inB] at this
      omega⟩, ok_nv h.2.2.1, ok_nv h.2.2.2⟩

/-- A variable that is bound nowhere. -/
def hv (pk : Int) (d : Nat) : Nat → F → Int → Prop
  | _, .nil, _ => False
  | i, .cons x k r, n => (x.k = 1 ∧ x.n = n + ((d + binds pk i : Nat) : Int)) ∨ hv x.k (d + binds pk i) 0 k n ∨ hv pk d (i + 1) r n
theorem mem_putV (l : List Int) (n m : Int) : m ∈ put l n ↔ m = n ∨ m ∈ l := by
  unfold put
  split
  · rename_i h
    constructor
    · exact .inr
    · rintro (rfl | h2)
      · exact List.mem_of_getElem? h
      · exact h2
  · constructor
    · intro h
      rcases List.mem_append.1 h with h | h
      · exact .inr (List.mem_of_mem_take h)
      · rcases List.mem_cons.1 h with h | h
        · exact .inl h
        · exact .inr (List.mem_of_mem_drop h)
    · rintro (rfl | h)
      · simp
      · rw [← List.take_append_drop (putAt l n) l] at h
        rcases List.mem_append.1 h with h | h
        · exact List.mem_append.2 (.inl h)
        · exact List.mem_append.2 (.inr (List.mem_cons_of_mem _ h))
theorem mem_fre : ∀ (a : F) (pk : Int) (d i : Nat) (o : List Int) (n : Int), a.nv → 0 ≤ n → (n ∈ fre pk d i a o ↔ n ∈ o ∨ hv pk d i a n)
  | .nil, pk, d, i, o, n, _, _ => by simp [fre, hv]
  | .cons x k r, pk, d, i, o, n, ⟨hx, hk, hr⟩, hn => by
    rw [fre_cons, mem_fre r pk d (i + 1) _ n hr hn]
    unfold fr1
    simp only [hv]
    split
    · rename_i h
      obtain ⟨rfl, -⟩ := hx h.1
      rw [mem_putV]
      simp only [hv, false_or]
      constructor
      · rintro ((h1 | h1) | h1)
        · exact .inr (.inl ⟨h.1, by omega⟩)
        · exact .inl h1
        · exact .inr (.inr h1)
      · rintro (h1 | ⟨-, h1⟩ | h1)
        · exact .inl (.inr h1)
        · exact .inl (.inl (by omega))
        · exact .inr h1
    · rename_i h
      rw [mem_fre k x.k _ 0 o n hk hn]
      constructor
      · rintro ((h1 | h1) | h1)
        · exact .inl h1
        · exact .inr (.inr (.inl h1))
        · exact .inr (.inr (.inr h1))
      · rintro (h1 | ⟨h2, h1⟩ | h1 | h1)
        · exact .inl (.inl h1)
        · exact absurd ⟨h2, by omega⟩ h
        · exact .inl (.inr h1)
        · exact .inr h1
theorem fre_pos : ∀ (a : F) (pk : Int) (d i : Nat) (o : List Int), (∀ n ∈ o, (0 : Int) ≤ n) → ∀ n ∈ fre pk d i a o, (0 : Int) ≤ n
  | .nil, pk, d, i, o, ho, n, h => ho n h
  | .cons x k r, pk, d, i, o, ho, n, h => by
    rw [fre_cons] at h
    refine fre_pos r pk d (i + 1) _ (fun m hm => ?_) n h
    unfold fr1 at hm
    split at hm
    · rename_i h2
      rcases (mem_putV _ _ _).1 hm with h3 | h3
      · omega
      · exact ho m h3
    · exact fre_pos k x.k _ 0 o ho m hm
theorem hv_shf {c : Nat} : ∀ (a : F) (pk : Int) (j i : Nat) (n : Int), 0 ≤ n → hv pk (c + j) i (shf (c : Int) pk j i a) n → hv pk j i a n
  | .nil, _, _, _, _, _, h => h
  | .cons x k r, pk, j, i, n, hn, h => by
    simp only [shf, hv, shc_kV] at h ⊢
    rw [show c + j + binds pk i = c + (j + binds pk i) by omega] at h
    rcases h with ⟨h1, h2⟩ | h | h
    · refine .inl ⟨h1, ?_⟩
      obtain ⟨xk, xn⟩ := x
      simp only at h1
      subst h1
      by_cases hc : xn < ((j + binds pk i : Nat) : Int)
      · rw [shc_lt hc] at h2; simp only at h2 ⊢; omega
      · rw [shc_ge (by omega)] at h2; simp only at h2 ⊢; omega
    · exact .inr (.inl (hv_shf k x.k _ 0 n hn h))
    · exact .inr (.inr (hv_shf r pk j (i + 1) n hn h))
/-- Which variables what is put together has. -/
theorem hv_sbf {K : Nat} {sx : Cc} {sk : F} : ∀ (a : F) (pk : Int) (d i : Nat) (n : Int), 0 ≤ n → a.nv → hv pk d i (sbf K sx sk pk d i a) n →
    (hv pk d i a n ∧ n < (K : Int)) ∨ (hv pk d i a (n + 1) ∧ (K : Int) ≤ n) ∨ (hv pk d i a (K : Int) ∧ hv 0 0 0 (.cons sx sk .nil) n)
  | .nil, _, _, _, _, _, _, h => absurd h id
  | .cons x k r, pk, d, i, n, hn, ⟨hx, hk, hr⟩, h => by
    have hR := fun h => hv_sbf (K := K) (sx := sx) (sk := sk) r pk d (i + 1) n hn hr h
    have hQ := fun (c : Nat) (h : hv x.k c 0 (sbf K sx sk x.k c 0 k) n) => hv_sbf (K := K) (sx := sx) (sk := sk) k x.k c 0 n hn hk h
    obtain ⟨Z, hZ⟩ : ∃ Z, Z = hv 0 0 0 (.cons sx sk .nil) n := ⟨_, rfl⟩
    rw [← hZ]
    simp only [← hZ] at hR hQ
    simp only [sbf_cons, hv] at h ⊢
    obtain ⟨b, hb⟩ : ∃ b, b = d + binds pk i := ⟨_, rfl⟩
    rw [← hb] at h ⊢
    by_cases hx1 : x.k = 1
    · obtain ⟨rfl, hn0⟩ := hx hx1
      obtain ⟨xk, m⟩ := x
      simp only at hx1 hn0
      subst hx1
      rcases Int.lt_trichotomy m ((K : Int) + (b : Int)) with h1 | h1 | h1
      · rw [sbr_lt h1, sbk_ne _ (by omega)] at h
        rcases h with h | h | h
        · exact .inl ⟨.inl h, by have := h.2; simp only at this; omega⟩
        · exact absurd h id
        · rcases hR h with h | h | h
          · exact .inl ⟨.inr (.inr h.1), h.2⟩
          · exact .inr (.inl ⟨.inr (.inr h.1), h.2⟩)
          · exact .inr (.inr ⟨.inr (.inr h.1), h.2⟩)
      · rw [sbr_eq h1, sbk_eq _ h1, shc_kV] at h
        have hs : hv 0 (b + 0) 0 (shf (b : Int) 0 0 0 (.cons sx sk .nil)) n → Z := fun h => by rw [hZ]; exact hv_shf _ 0 0 0 n hn h
        simp only [shf, hv, binds0, Nat.add_zero, shc_kV, or_false] at hs
        rcases h with h | h | h
        · exact .inr (.inr ⟨.inl ⟨rfl, by simp only; omega⟩, hs (.inl h)⟩)
        · exact .inr (.inr ⟨.inl ⟨rfl, by simp only; omega⟩, hs (.inr h)⟩)
        · rcases hR h with h | h | h
          · exact .inl ⟨.inr (.inr h.1), h.2⟩
          · exact .inr (.inl ⟨.inr (.inr h.1), h.2⟩)
          · exact .inr (.inr ⟨.inr (.inr h.1), h.2⟩)
      · rw [sbr_gt h1, sbk_ne _ (by omega)] at h
        rcases h with h | h | h
        · exact .inr (.inl ⟨.inl ⟨rfl, by have := h.2; simp only at this ⊢; omega⟩, by have := h.2; simp only at this; omega⟩)
        · exact absurd h id
        · rcases hR h with h | h | h
          · exact .inl ⟨.inr (.inr h.1), h.2⟩
          · exact .inr (.inl ⟨.inr (.inr h.1), h.2⟩)
          · exact .inr (.inr ⟨.inr (.inr h.1), h.2⟩)
    · rw [sbr_no hx1, sbk_no hx1] at h
      rcases h with h | h | h
      · exact absurd h.1 hx1
      · rcases hQ b h with h | h | h
        · exact .inl ⟨.inr (.inl h.1), h.2⟩
        · exact .inr (.inl ⟨.inr (.inl h.1), h.2⟩)
        · exact .inr (.inr ⟨.inr (.inl h.1), h.2⟩)
      · rcases hR h with h | h | h
        · exact .inl ⟨.inr (.inr h.1), h.2⟩
        · exact .inr (.inl ⟨.inr (.inr h.1), h.2⟩)
        · exact .inr (.inr ⟨.inr (.inr h.1), h.2⟩)
end Go.Proofs.Ytjmgnljjeogdlaa.W

/-
  Terms shifted and put in the place of variables: how these go together at any depth. No program here.
-/
namespace Go.Proofs.Ytjmgnljjeogdlaa.W
set_option linter.unusedVariables false
set_option linter.unusedSimpArgs false

theorem sbf_shf' {ux : Cc} {uk : F} {d : Nat} : ∀ (a : F) (pk : Int) (f c i : Nat), f ≤ c → a.nv → sbf 0 ux uk pk (c + d) i (shf (d : Int) pk f i a) = shf (d : Int) pk f i (sbf 0 ux uk pk c i a)
  | .nil, _, _, _, _, _, _ => rfl
  | .cons x k r, pk, f, c, i, hfc, ⟨hv, hk, hr⟩ => by
    have ir := sbf_shf' (ux := ux) (uk := uk) (d := d) r pk f c (i + 1) hfc hr
    simp only [shf, sbf_cons]
    obtain ⟨b, hb⟩ : ∃ b, b = c + binds pk i := ⟨_, rfl⟩
    obtain ⟨e, he⟩ : ∃ e, e = f + binds pk i := ⟨_, rfl⟩
    have heb : e ≤ b := by omega
    rw [show c + d + binds pk i = b + d by omega, ← hb, ← he, ir]
    by_cases hx : x.k = 1
    · obtain ⟨rfl, hn0⟩ := hv hx
      obtain ⟨xk, n⟩ := x
      simp only at hx hn0
      subst hx
      simp only [shf]
      rcases Int.lt_trichotomy n (b : Int) with h | h | h
      · by_cases h2 : n < (e : Int)
        · rw [shc_lt h2, sbr_lt (by omega), sbk_ne _ (by omega), sbr_lt (by omega), sbk_ne _ (by omega), shc_lt h2]; rfl
        · rw [shc_ge (by omega), sbr_lt (by omega), sbk_ne _ (by omega), sbr_lt (by omega), sbk_ne _ (by omega), shc_ge (by omega)]; rfl
      · rw [shc_ge (by omega), sbr_eq (by omega), sbk_eq _ (by omega), sbr_eq (by omega), sbk_eq _ (by omega), shc_shc (by omega) (by omega), shc_kV, shf_shf uk _ 0 e 0 (by omega) (by omega)]
      · rw [shc_ge (by omega), sbr_gt (by omega), sbk_ne _ (by omega), sbr_gt (by omega), sbk_ne _ (by omega), shc_ge (by omega)]
        simp only [shf]
        congr 2
        omega
    · rw [shc_no hx, sbr_no hx, sbk_no hx, sbr_no hx, sbk_no hx, shc_no hx, sbf_shf' k x.k e b 0 heb hk]
theorem sbf_over' {ex : Cc} {ek : F} {D : Nat} : ∀ (a : F) (pk : Int) (j q i : Nat), j ≤ D → a.nv → sbf 0 ex ek pk (j + q) i (shf ((D + 1 : Nat) : Int) pk q i a) = shf (D : Int) pk q i a
  | .nil, _, _, _, _, _, _ => rfl
  | .cons x k r, pk, j, q, i, hj, ⟨hv, hk, hr⟩ => by
    have ir := sbf_over' (ex := ex) (ek := ek) (D := D) r pk j q (i + 1) hj hr
    simp only [shf, sbf_cons]
    obtain ⟨b, hb⟩ : ∃ b, b = q + binds pk i := ⟨_, rfl⟩
    rw [show j + q + binds pk i = j + b by omega, ← hb, ir]
    by_cases hx : x.k = 1
    · obtain ⟨rfl, hn0⟩ := hv hx
      obtain ⟨xk, n⟩ := x
      simp only at hx hn0
      subst hx
      simp only [shf]
      by_cases h : n < (b : Int)
      · rw [shc_lt h, sbr_lt (by omega), sbk_ne _ (by omega), shc_lt h]
      · rw [shc_ge (by omega), sbr_gt (by omega), sbk_ne _ (by omega), shc_ge (by omega)]
        congr 2
        omega
    · rw [shc_no hx, sbr_no hx, sbk_no hx, shc_no hx, sbf_over' k x.k j b 0 hj hk]
theorem shc_comm {e j f q : Nat} (x : Cc) : shc (e : Int) (f + j + q) (shc (j : Int) q x) = shc (j : Int) q (shc (e : Int) (f + q) x) := by
  obtain ⟨xk, n⟩ := x
  by_cases hx : xk = 1
  · subst hx
    by_cases h1 : n < (q : Int)
    · rw [shc_lt h1, shc_lt (by omega), shc_lt (by omega), shc_lt h1]
    · by_cases h2 : n < ((f + q : Nat) : Int)
      · rw [shc_ge (by omega), shc_lt (by omega), shc_lt h2, shc_ge (by omega)]
      · rw [shc_ge (by omega), shc_ge (by omega), shc_ge (by omega), shc_ge (by omega)]
        congr 1
        omega
  · simp only [shc_no (x := ⟨xk, n⟩) hx]
theorem shf_comm0 {e j f : Nat} : ∀ (a : F) (pk : Int) (q i : Nat), shf (e : Int) pk (f + j + q) i (shf (j : Int) pk q i a) = shf (j : Int) pk q i (shf (e : Int) pk (f + q) i a)
  | .nil, _, _, _ => rfl
  | .cons x k r, pk, q, i => by
    simp only [shf, shc_kV]
    rw [show f + j + q + binds pk i = f + j + (q + binds pk i) by omega, show f + q + binds pk i = f + (q + binds pk i) by omega, shc_comm, shf_comm0 k x.k _ 0, shf_comm0 r pk q (i + 1)]
/-- A term put in, then another one. -/
theorem sbf_comm {sx zx : Cc} {sk zk : F} {d : Nat} (hs : (F.cons sx sk .nil).nv) (hz : (F.cons zx zk .nil).nv) : ∀ (a : F) (pk : Int) (j i : Nat), a.nv →
    sbf 0 sx sk pk (d + j) i (sbf 0 zx zk pk j i a) = sbf 0 (sbr 0 sx d zx) (sbk 0 sx sk d zx zk) pk j i (sbf 0 sx sk pk (d + 1 + j) i a)
  | .nil, _, _, _, _ => rfl
  | .cons x k r, pk, j, i, ⟨hv, hk, hr⟩ => by
    have ir := sbf_comm (d := d) hs hz r pk j (i + 1) hr
    simp only [sbf_cons]
    obtain ⟨b, hb⟩ : ∃ b, b = j + binds pk i := ⟨_, rfl⟩
    rw [show d + j + binds pk i = d + b by omega, show d + 1 + j + binds pk i = d + 1 + b by omega, ← hb, ir]
    by_cases hx : x.k = 1
    · obtain ⟨rfl, hn0⟩ := hv hx
      obtain ⟨xk, n⟩ := x
      simp only at hx hn0
      subst hx
      rcases Int.lt_trichotomy n (b : Int) with h | h | h
      · have r0 : ∀ (D : Nat) (sx : Cc), b ≤ D → sbr 0 sx D ⟨1, n⟩ = ⟨1, n⟩ := fun D sx hD => sbr_lt (by omega)
        have k0 : ∀ (D : Nat) (sx : Cc) (sk k : F), b ≤ D → sbk 0 sx sk D ⟨1, n⟩ k = .nil := fun D sx sk k hD => sbk_ne _ (by omega)
        simp only [r0 b _ (by omega), r0 (d + b) _ (by omega), r0 (d + 1 + b) _ (by omega), k0 b _ _ _ (by omega), k0 (d + b) _ _ _ (by omega), k0 (d + 1 + b) _ _ _ (by omega)]
      · have hB := sbf_shf' (ux := sx) (uk := sk) (d := b) (.cons zx zk .nil) 0 0 d 0 (by omega) hz
        simp only [shf, sbf_cons, sbf_nil, binds0, Nat.add_zero, Nat.zero_add, F.cons.injEq, and_true] at hB
        have r0 : ∀ (sx : Cc), sbr 0 sx b ⟨1, n⟩ = shc (b : Int) 0 sx := fun sx => sbr_eq (by omega)
        have k0 : ∀ (sx : Cc) (sk k : F), sbk 0 sx sk b ⟨1, n⟩ k = shf (b : Int) sx.k 0 0 sk := fun sx sk k => sbk_eq _ (by omega)
        have r1 : ∀ (sx : Cc), sbr 0 sx (d + 1 + b) ⟨1, n⟩ = ⟨1, n⟩ := fun sx => sbr_lt (by omega)
        have k1 : ∀ (sx : Cc) (sk k : F), sbk 0 sx sk (d + 1 + b) ⟨1, n⟩ k = .nil := fun sx sk k => sbk_ne _ (by omega)
        simp only [r1, k1, r0, k0]
        rw [hB.1, hB.2]
      · have g0 : ∀ (sx : Cc), sbr 0 sx b ⟨1, n⟩ = ⟨1, n - 1⟩ := fun sx => sbr_gt (by omega)
        have gk0 : ∀ (sx : Cc) (sk k : F), sbk 0 sx sk b ⟨1, n⟩ k = .nil := fun sx sk k => sbk_ne _ (by omega)
        rcases Int.lt_trichotomy n ((d + 1 + b : Nat) : Int) with h1 | h1 | h1
        · have r1 : sbr 0 sx (d + b) ⟨1, n - 1⟩ = ⟨1, n - 1⟩ := sbr_lt (by omega)
          have k1 : ∀ k, sbk 0 sx sk (d + b) ⟨1, n - 1⟩ k = .nil := fun k => sbk_ne _ (by omega)
          have r2 : sbr 0 sx (d + 1 + b) ⟨1, n⟩ = ⟨1, n⟩ := sbr_lt (by omega)
          have k2 : ∀ k, sbk 0 sx sk (d + 1 + b) ⟨1, n⟩ k = .nil := fun k => sbk_ne _ (by omega)
          simp only [r2, k2, g0, gk0, r1, k1]
        · have hC := sbf_over' (ex := sbr 0 sx d zx) (ek := sbk 0 sx sk d zx zk) (D := d + b) (.cons sx sk .nil) 0 b 0 0 (by omega) hs
          simp only [shf, sbf_cons, sbf_nil, binds0, Nat.add_zero, Nat.zero_add, F.cons.injEq, and_true] at hC
          have r1 : sbr 0 sx (d + b) ⟨1, n - 1⟩ = shc ((d + b : Nat) : Int) 0 sx := sbr_eq (by omega)
          have k1 : ∀ k, sbk 0 sx sk (d + b) ⟨1, n - 1⟩ k = shf ((d + b : Nat) : Int) sx.k 0 0 sk := fun k => sbk_eq _ (by omega)
          have r2 : sbr 0 sx (d + 1 + b) ⟨1, n⟩ = shc ((d + b + 1 : Nat) : Int) 0 sx := by rw [sbr_eq (by omega)]; congr 1; omega
          have k2 : ∀ k, sbk 0 sx sk (d + 1 + b) ⟨1, n⟩ k = shf ((d + b + 1 : Nat) : Int) sx.k 0 0 sk := fun k => by rw [sbk_eq _ (by omega)]; congr 1; omega
          simp only [r2, k2, g0, gk0, r1, k1]
          rw [hC.1, hC.2]
        · have r1 : sbr 0 sx (d + b) ⟨1, n - 1⟩ = ⟨1, n - 1 - 1⟩ := sbr_gt (by omega)
          have k1 : ∀ k, sbk 0 sx sk (d + b) ⟨1, n - 1⟩ k = .nil := fun k => sbk_ne _ (by omega)
          have r2 : sbr 0 sx (d + 1 + b) ⟨1, n⟩ = ⟨1, n - 1⟩ := sbr_gt (by omega)
          have k2 : ∀ k, sbk 0 sx sk (d + 1 + b) ⟨1, n⟩ k = .nil := fun k => sbk_ne _ (by omega)
          have r3 : ∀ sx, sbr 0 sx b ⟨1, n - 1⟩ = ⟨1, n - 1 - 1⟩ := fun sx => sbr_gt (by omega)
          have k3 : ∀ sx sk k, sbk 0 sx sk b ⟨1, n - 1⟩ k = .nil := fun sx sk k => sbk_ne _ (by omega)
          simp only [r2, k2, g0, gk0, r1, k1, r3, k3]
    · rw [sbr_no hx, sbk_no hx, sbr_no hx, sbk_no hx, sbr_no hx, sbk_no hx, sbr_no hx, sbk_no hx, sbf_comm hs hz k x.k b 0 hk]
/-- A term put in, then all shifted. -/
theorem shf_comm {zx : Cc} {zk : F} {e f : Nat} : ∀ (a : F) (pk : Int) (j i : Nat), a.nv →
    shf (e : Int) pk (f + j) i (sbf 0 zx zk pk j i a) = sbf 0 (shc (e : Int) f zx) (shf (e : Int) zx.k f 0 zk) pk j i (shf (e : Int) pk (f + 1 + j) i a)
  | .nil, _, _, _, _ => rfl
  | .cons x k r, pk, j, i, ⟨hv, hk, hr⟩ => by
    have ir := shf_comm (zx := zx) (zk := zk) (e := e) (f := f) r pk j (i + 1) hr
    simp only [shf, sbf_cons]
    obtain ⟨b, hb⟩ : ∃ b, b = j + binds pk i := ⟨_, rfl⟩
    rw [show f + j + binds pk i = f + b by omega, show f + 1 + j + binds pk i = f + 1 + b by omega, ← hb, ir]
    by_cases hx : x.k = 1
    · obtain ⟨rfl, hn0⟩ := hv hx
      obtain ⟨xk, n⟩ := x
      simp only at hx hn0
      subst hx
      simp only [shf]
      rcases Int.lt_trichotomy n (b : Int) with h | h | h
      · rw [sbr_lt (by omega), sbk_ne _ (by omega), shc_lt (by omega), shc_lt (by omega), sbr_lt (by omega), sbk_ne _ (by omega)]; rfl
      · have e1 := shc_comm (e := e) (j := b) (f := f) (q := 0) zx
        have e2 := shf_comm0 (e := e) (j := b) (f := f) zk zx.k 0 0
        simp only [Nat.add_zero] at e1 e2
        rw [sbr_eq (by omega), sbk_eq _ (by omega), shc_lt (n := n) (by omega), sbr_eq (by omega), sbk_eq _ (by omega), shc_kV, shc_kV, e1, e2]
      · by_cases h1 : n < ((f + 1 + b : Nat) : Int)
        · rw [sbr_gt (by omega), sbk_ne _ (by omega), shc_lt (by omega), shc_lt (by omega), sbr_gt (by omega), sbk_ne _ (by omega)]; rfl
        · rw [sbr_gt (by omega), sbk_ne _ (by omega), shc_ge (by omega), shc_ge (by omega), sbr_gt (by omega), sbk_ne _ (by omega)]
          simp only [shf]
          congr 2
          omega
    · rw [sbr_no hx, sbk_no hx, shc_no hx, sbr_no (by rw [shc_no hx]; exact hx), shc_no hx, sbk_no hx, shf_comm k x.k b 0 hk]
end Go.Proofs.Ytjmgnljjeogdlaa.W

/-
  Some redexes contracted at once, without bounds; all of them: what some make comes, at once, to what all make (Takahashi). No program here.
-/
namespace Go.Proofs.Ytjmgnljjeogdlaa.W
set_option linter.unusedVariables false
set_option linter.unusedSimpArgs false

/-- Terms of the right form. -/
def F.gs : F → Prop
  | .nil => True
  | .cons x k r => k.len = ar x.k ∧ (x.k = 1 → 0 ≤ x.n) ∧ k.gs ∧ r.gs
theorem gs_nv : ∀ {a : F}, a.gs → a.nv
  | .nil, _ => trivial
  | .cons x k r, h => ⟨fun hx => ⟨F.len_0 (by rw [h.1, hx]; rfl), h.2.1 hx⟩, gs_nv h.2.2.1, gs_nv h.2.2.2⟩
theorem gs_one {x : Cc} {k r : F} (h : (F.cons x k r).gs) : (F.cons x k .nil).gs := ⟨h.1, h.2.1, h.2.2.1, trivial⟩
theorem shf_gs {e : Nat} : ∀ {a : F} {pk : Int} {f i : Nat}, a.gs → (shf (e : Int) pk f i a).gs
  | .nil, _, _, _, _ => trivial
  | .cons x k r, pk, f, i, h => by
    refine ⟨by rw [shc_kV, shf_len]; exact h.1, fun hx => ?_, shf_gs h.2.2.1, shf_gs h.2.2.2⟩
    rw [shc_kV] at hx
    have := h.2.1 hx
    unfold shc
    split
    · simp only; omega
    · exact this
theorem sbf_gs {sx : Cc} {sk : F} (hs : (F.cons sx sk .nil).gs) : ∀ {a : F} {pk : Int} {d i : Nat}, a.gs → (sbf 0 sx sk pk d i a).gs
  | .nil, _, _, _, _ => trivial
  | .cons x k r, pk, d, i, h => by
    rw [sbf_cons]
    obtain ⟨b, hb⟩ : ∃ b, b = d + binds pk i := ⟨_, rfl⟩
    rw [← hb]
    have ir := sbf_gs hs (a := r) (pk := pk) (d := d) (i := i + 1) h.2.2.2
    by_cases hx : x.k = 1
    · obtain ⟨rfl, hn0⟩ := (gs_nv h).1 hx
      obtain ⟨xk, n⟩ := x
      simp only at hx hn0
      subst hx
      rcases Int.lt_trichotomy n (b : Int) with h1 | h1 | h1
      · rw [sbr_lt (by omega), sbk_ne _ (by omega)]; exact ⟨rfl, fun _ => hn0, trivial, ir⟩
      · rw [sbr_eq (by omega), sbk_eq _ (by omega)]
        have := shf_gs (e := b) (pk := 0) (f := 0) (i := 0) hs
        simp only [shf, binds0, Nat.add_zero] at this
        exact ⟨this.1, this.2.1, this.2.2.1, ir⟩
      · rw [sbr_gt (by omega), sbk_ne _ (by omega)]; exact ⟨rfl, fun _ => by simp only; omega, trivial, ir⟩
    · rw [sbr_no hx, sbk_no hx]
      exact ⟨by rw [sbf_len]; exact h.1, h.2.1, sbf_gs hs h.2.2.1, ir⟩
/-- What a redex comes to. -/
def ctrT (x : Cc) : F → Cc × F
  | .nil => (x, .nil)
  | .cons y ky r =>
    if x.k = 4 then (match ky, r with | .cons b kb _, .cons z kz _ => (sbr 0 z 0 b, sbk 0 z kz 0 b kb) | _, _ => (x, .nil))
    else if x.k = 7 then (match r with | .cons b kb _ => (sbr 0 y 0 b, sbk 0 y ky 0 b kb) | .nil => (x, .nil))
    else if x.k = 5 then (match r with | .cons z _ _ => (⟨2, y.n + z.n⟩, .nil) | .nil => (x, .nil))
    else (match r with | .cons z kz (.cons u ku _) => (if y.n = 0 then (z, kz) else (u, ku)) | _ => (x, .nil))
theorem ctrO_T {x : Cc} {k : F} {p : Cc × F} (h : ctrO x k = some p) : p = ctrT x k := by
  cases k with
  | nil => simp [ctrO] at h
  | cons y ky r =>
    simp only [ctrO, ctrT] at h ⊢
    by_cases h4 : x.k = 4
    · rw [if_pos h4] at h ⊢
      cases ky with
      | nil => simp at h
      | cons b kb q =>
        cases r with
        | nil => simp at h
        | cons z kz q2 =>
          simp only [putO] at h ⊢
          split at h
          · simp only [Option.some.injEq] at h; exact h.symm
          · cases h
    · rw [if_neg h4] at h ⊢
      by_cases h7 : x.k = 7
      · rw [if_pos h7] at h ⊢
        cases r with
        | nil => simp at h
        | cons z kz q2 =>
          simp only [putO] at h ⊢
          split at h
          · simp only [Option.some.injEq] at h; exact h.symm
          · cases h
      · rw [if_neg h7] at h ⊢
        by_cases h5 : x.k = 5
        · rw [if_pos h5] at h ⊢
          cases r with
          | nil => simp at h
          | cons z kz q2 => simp only [Option.some.injEq] at h ⊢; exact h.symm
        · rw [if_neg h5] at h ⊢
          cases r with
          | nil => simp at h
          | cons z kz q2 =>
            cases q2 with
            | nil => simp at h
            | cons u ku q3 => simp only [Option.some.injEq] at h ⊢; exact h.symm
/-- The forms of redexes. -/
inductive Rsh (x : Cc) (k : F) : Prop
  | app (y b z : Cc) (kb kz : F) (hx : x.k = 4) (hk : k = .cons y (.cons b kb .nil) (.cons z kz .nil)) (hy : y.k = 3)
  | lett (y b : Cc) (ky kb : F) (hx : x.k = 7) (hk : k = .cons y ky (.cons b kb .nil))
  | add (y z : Cc) (hx : x.k = 5) (hk : k = .cons y .nil (.cons z .nil .nil)) (hy : y.k = 2) (hz : z.k = 2) (hs : inB (y.n + z.n) (-1000000) 1000000 = true)
  | iff (y z u : Cc) (kz ku : F) (hx : x.k = 6) (hk : k = .cons y .nil (.cons z kz (.cons u ku .nil))) (hy : y.k = 2)
theorem rsh_of {x : Cc} {k : F} (h : (F.cons x k .nil).gs) (hr : redx x k = true) : Rsh x k := by
  obtain ⟨hl, -, ho, -⟩ := h
  unfold redx at hr
  by_cases h4 : x.k = 4
  · rw [if_pos h4] at hr
    rw [h4] at hl
    obtain ⟨y, ky, z, kz, rfl⟩ := F.len_2 (show k.len = 2 by rw [hl]; rfl)
    have hy : y.k = 3 := of_decide_eq_true hr
    have ly := ho.1
    rw [hy] at ly
    obtain ⟨b, kb, rfl⟩ := F.len_1 (show ky.len = 1 by rw [ly]; rfl)
    exact .app y b z kb kz h4 rfl hy
  · rw [if_neg h4] at hr
    by_cases h7 : x.k = 7
    · rw [h7] at hl
      obtain ⟨y, ky, b, kb, rfl⟩ := F.len_2 (show k.len = 2 by rw [hl]; rfl)
      exact .lett y b ky kb h7 rfl
    · rw [if_neg h7] at hr
      by_cases h5 : x.k = 5
      · rw [if_pos h5] at hr
        rw [h5] at hl
        obtain ⟨y, ky, z, kz, rfl⟩ := F.len_2 (show k.len = 2 by rw [hl]; rfl)
        rw [Bool.and_eq_true, Bool.and_eq_true] at hr
        obtain ⟨hy0, hz0, hs⟩ := hr
        have hy : y.k = 2 := of_decide_eq_true hy0
        have hz : z.k = 2 := of_decide_eq_true hz0
        have ey : ky = .nil := F.len_0 (by rw [ho.1, hy]; rfl)
        have ez : kz = .nil := F.len_0 (by rw [ho.2.2.2.1, hz]; rfl)
        subst ey ez
        exact .add y z h5 rfl hy hz hs
      · rw [if_neg h5] at hr
        by_cases h6 : x.k = 6
        · rw [if_pos h6] at hr
          rw [h6] at hl
          obtain ⟨y, ky, z, kz, u, ku, rfl⟩ := F.len_3 (show k.len = 3 by rw [hl]; rfl)
          have hy : y.k = 2 := of_decide_eq_true hr
          have ey : ky = .nil := F.len_0 (by rw [ho.1, hy]; rfl)
          subst ey
          exact .iff y z u kz ku h6 rfl hy
        · rw [if_neg h6] at hr; cases hr
theorem redx_rsh {x : Cc} {k : F} (h : Rsh x k) : redx x k = true := by
  cases h with
  | app y b z kb kz hx hk hy => subst hk; simp [redx, hx, k1, hy]
  | lett y b ky kb hx hk => subst hk; simp [redx, hx]
  | add y z hx hk hy hz hs => subst hk; simp [redx, hx, k1, n1, tl, hy, hz, hs]
  | iff y z u kz ku hx hk hy => subst hk; simp [redx, hx, k1, hy]
theorem rsh_nv {x : Cc} {k : F} (h : Rsh x k) : x.k ≠ 1 := by
  cases h with
  | app y b z kb kz hx hk hy => omega
  | lett y b ky kb hx hk => omega
  | add y z hx hk hy hz hs => omega
  | iff y z u kz ku hx hk hy => omega
theorem redx_low {x : Cc} {k : F} (h : x.k ≤ 3) : redx x k = false := by
  unfold redx
  rw [if_neg (by omega), if_neg (by omega), if_neg (by omega), if_neg (by omega)]
theorem ctrT_app {x y b z : Cc} {kb kz : F} (hx : x.k = 4) : ctrT x (.cons y (.cons b kb .nil) (.cons z kz .nil)) = (sbr 0 z 0 b, sbk 0 z kz 0 b kb) := by simp [ctrT, hx]
theorem ctrT_let {x y b : Cc} {ky kb : F} (hx : x.k = 7) : ctrT x (.cons y ky (.cons b kb .nil)) = (sbr 0 y 0 b, sbk 0 y ky 0 b kb) := by simp [ctrT, hx]
theorem ctrT_add {x y z : Cc} (hx : x.k = 5) : ctrT x (.cons y .nil (.cons z .nil .nil)) = (⟨2, y.n + z.n⟩, .nil) := by simp [ctrT, hx]
theorem ctrT_if {x y z u : Cc} {kz ku : F} (hx : x.k = 6) : ctrT x (.cons y .nil (.cons z kz (.cons u ku .nil))) = if y.n = 0 then (z, kz) else (u, ku) := by simp [ctrT, hx]
/-- Some redexes contracted at once. -/
def pr : F → F → Prop
  | .nil, a' => a' = .nil
  | .cons y ky r, a' => ∃ ky' r', pr ky ky' ∧ pr r r' ∧ (a' = .cons y ky' r' ∨ (redx y ky = true ∧ a' = .cons (ctrT y ky').1 (ctrT y ky').2 r'))
theorem pr_refl : ∀ a : F, pr a a
  | .nil => rfl
  | .cons y ky r => by simp only [pr]; exact ⟨ky, r, pr_refl ky, pr_refl r, .inl rfl⟩
theorem pr_len : ∀ {a a' : F}, pr a a' → a'.len = a.len
  | .nil, a', h => by rw [show a' = .nil from h]
  | .cons y ky r, a', h => by
    simp only [pr] at h
    obtain ⟨ky', r', h1, h2, h3 | ⟨-, h3⟩⟩ := h <;> rw [h3, F.len, pr_len h2, F.len]
theorem pr_plain {y : Cc} {ky r a' : F} (hr : redx y ky = false) (h : pr (.cons y ky r) a') : ∃ ky' r', pr ky ky' ∧ pr r r' ∧ a' = .cons y ky' r' := by
  simp only [pr] at h
  obtain ⟨ky', r', h1, h2, h3 | ⟨h4, -⟩⟩ := h
  · exact ⟨ky', r', h1, h2, h3⟩
  · rw [hr] at h4; cases h4
theorem pr_split {y : Cc} {ky r a' : F} (h : pr (.cons y ky r) a') : ∃ (p : Cc) (kp r' : F), pr r r' ∧ a' = .cons p kp r' ∧ pr (.cons y ky .nil) (.cons p kp .nil) := by
  simp only [pr] at h
  obtain ⟨ky', r', h1, h2, h3 | ⟨h4, h3⟩⟩ := h
  · exact ⟨y, ky', r', h2, h3, by simp only [pr]; exact ⟨ky', .nil, h1, rfl, .inl rfl⟩⟩
  · exact ⟨_, _, r', h2, h3, by simp only [pr]; exact ⟨ky', .nil, h1, rfl, .inr ⟨h4, rfl⟩⟩⟩
theorem pr_cons {y p : Cc} {ky kp r r' : F} (h : pr (.cons y ky .nil) (.cons p kp .nil)) (hr : pr r r') : pr (.cons y ky r) (.cons p kp r') := by
  simp only [pr] at h ⊢
  obtain ⟨ky', r2, h1, h2, h3 | ⟨h4, h3⟩⟩ := h
  · simp only [F.cons.injEq] at h3; exact ⟨ky', r', h1, hr, .inl (by rw [h3.1, h3.2.1])⟩
  · simp only [F.cons.injEq] at h3; exact ⟨ky', r', h1, hr, .inr ⟨h4, by rw [h3.1, h3.2.1]⟩⟩
theorem pr_nil {a : F} (h : pr .nil a) : a = .nil := h
/-- A redex keeps its form. -/
theorem rsh_pr {x : Cc} {k k' : F} (h : Rsh x k) (hp : pr k k') : Rsh x k' := by
  cases h with
  | app y b z kb kz hx hk hy =>
    subst hk
    obtain ⟨ky', r', h1, h2, rfl⟩ := pr_plain (redx_low (by omega)) hp
    obtain ⟨b', kb', q, h3, rfl, -⟩ := pr_split h1
    obtain rfl := pr_nil h3
    obtain ⟨z', kz', q, h4, rfl, -⟩ := pr_split h2
    obtain rfl := pr_nil h4
    exact .app y b' z' kb' kz' hx rfl hy
  | lett y b ky kb hx hk =>
    subst hk
    obtain ⟨y', ky', r', h2, rfl, -⟩ := pr_split hp
    obtain ⟨b', kb', q, h3, rfl, -⟩ := pr_split h2
    obtain rfl := pr_nil h3
    exact .lett y' b' ky' kb' hx rfl
  | add y z hx hk hy hz hs =>
    subst hk
    obtain ⟨ky', r', h1, h2, rfl⟩ := pr_plain (redx_low (by omega)) hp
    obtain rfl := pr_nil h1
    obtain ⟨kz', q, h3, h4, rfl⟩ := pr_plain (redx_low (by omega)) h2
    obtain rfl := pr_nil h3
    obtain rfl := pr_nil h4
    exact .add y z hx rfl hy hz hs
  | iff y z u kz ku hx hk hy =>
    subst hk
    obtain ⟨ky', r', h1, h2, rfl⟩ := pr_plain (redx_low (by omega)) hp
    obtain rfl := pr_nil h1
    obtain ⟨z', kz', r2, h3, rfl, -⟩ := pr_split h2
    obtain ⟨u', ku', q, h4, rfl, -⟩ := pr_split h3
    obtain rfl := pr_nil h4
    exact .iff y z' u' kz' ku' hx rfl hy
theorem sbf_1 (sx : Cc) (sk : F) (d : Nat) (x : Cc) (k : F) : sbf 0 sx sk 0 d 0 (.cons x k .nil) = .cons (sbr 0 sx d x) (sbk 0 sx sk d x k) .nil := by
  rw [sbf_cons, binds0, sbf_nil, Nat.add_zero]
theorem shf_1 (e : Int) (f : Nat) (x : Cc) (k : F) : shf e 0 f 0 (.cons x k .nil) = .cons (shc e f x) (shf e x.k f 0 k) .nil := by
  simp only [shf, binds0, Nat.add_zero]
theorem ctr_gs {x : Cc} {k : F} (h : Rsh x k) (hg : k.gs) : (F.cons (ctrT x k).1 (ctrT x k).2 .nil).gs := by
  cases h with
  | app y b z kb kz hx hk hy =>
    subst hk
    rw [ctrT_app hx, ← sbf_1]
    exact sbf_gs (gs_one hg.2.2.2) (gs_one hg.2.2.1)
  | lett y b ky kb hx hk =>
    subst hk
    rw [ctrT_let hx, ← sbf_1]
    exact sbf_gs (gs_one hg) (gs_one hg.2.2.2)
  | add y z hx hk hy hz hs =>
    subst hk
    rw [ctrT_add hx]
    exact ⟨rfl, fun h => by simp at h, trivial, trivial⟩
  | iff y z u kz ku hx hk hy =>
    subst hk
    rw [ctrT_if hx]
    split
    · exact gs_one hg.2.2.2
    · exact gs_one hg.2.2.2.2.2.2
theorem pr_gs : ∀ {a a' : F}, a.gs → pr a a' → a'.gs
  | .nil, a', _, h => by rw [show a' = .nil from h]; trivial
  | .cons y ky r, a', hg, h => by
    simp only [pr] at h
    obtain ⟨ky', r', h1, h2, h3⟩ := h
    have g1 := pr_gs hg.2.2.1 h1
    have g2 := pr_gs hg.2.2.2 h2
    rcases h3 with rfl | ⟨h4, rfl⟩
    · exact ⟨by rw [pr_len h1]; exact hg.1, hg.2.1, g1, g2⟩
    · have := ctr_gs (rsh_pr (rsh_of (gs_one hg) h4) h1) g1
      exact ⟨this.1, this.2.1, this.2.2.1, g2⟩
/-- A redex shifted. -/
theorem shf_ctr {e f : Nat} {x : Cc} {k : F} (h : Rsh x k) (hg : k.gs) : Rsh x (shf (e : Int) x.k f 0 k) ∧ F.cons (ctrT x (shf (e : Int) x.k f 0 k)).1 (ctrT x (shf (e : Int) x.k f 0 k)).2 .nil = shf (e : Int) 0 f 0 (.cons (ctrT x k).1 (ctrT x k).2 .nil) := by
  cases h with
  | app y b z kb kz hx hk hy =>
    subst hk
    have e1 : shf (e : Int) x.k f 0 (.cons y (.cons b kb .nil) (.cons z kz .nil)) = .cons y (.cons (shc (e : Int) (f + 1) b) (shf (e : Int) b.k (f + 1) 0 kb) .nil) (.cons (shc (e : Int) f z) (shf (e : Int) z.k f 0 kz) .nil) := by
      simp [shf, binds, hx, hy, shc_no (x := y) (show y.k ≠ 1 by omega)]
    rw [e1]
    refine ⟨.app y _ _ _ _ hx rfl hy, ?_⟩
    rw [ctrT_app hx, ctrT_app hx, ← sbf_1, ← sbf_1]
    have := shf_comm (zx := z) (zk := kz) (e := e) (f := f) (.cons b kb .nil) 0 0 0 (gs_nv (gs_one hg.2.2.1))
    rw [Nat.add_zero, Nat.add_zero, shf_1] at this
    exact this.symm
  | lett y b ky kb hx hk =>
    subst hk
    have e1 : shf (e : Int) x.k f 0 (.cons y ky (.cons b kb .nil)) = .cons (shc (e : Int) f y) (shf (e : Int) y.k f 0 ky) (.cons (shc (e : Int) (f + 1) b) (shf (e : Int) b.k (f + 1) 0 kb) .nil) := by
      simp [shf, binds, hx]
    rw [e1]
    refine ⟨.lett _ _ _ _ hx rfl, ?_⟩
    rw [ctrT_let hx, ctrT_let hx, ← sbf_1, ← sbf_1]
    have := shf_comm (zx := y) (zk := ky) (e := e) (f := f) (.cons b kb .nil) 0 0 0 (gs_nv (gs_one hg.2.2.2))
    rw [Nat.add_zero, Nat.add_zero, shf_1] at this
    exact this.symm
  | add y z hx hk hy hz hs =>
    subst hk
    have e1 : shf (e : Int) x.k f 0 (.cons y .nil (.cons z .nil .nil)) = .cons y .nil (.cons z .nil .nil) := by
      simp [shf, shc_no (x := y) (show y.k ≠ 1 by omega), shc_no (x := z) (show z.k ≠ 1 by omega)]
    rw [e1]
    refine ⟨.add y z hx rfl hy hz hs, ?_⟩
    rw [ctrT_add hx, shf_1, shc_no (by simp)]
    rfl
  | iff y z u kz ku hx hk hy =>
    subst hk
    have e1 : shf (e : Int) x.k f 0 (.cons y .nil (.cons z kz (.cons u ku .nil))) = .cons y .nil (.cons (shc (e : Int) f z) (shf (e : Int) z.k f 0 kz) (.cons (shc (e : Int) f u) (shf (e : Int) u.k f 0 ku) .nil)) := by
      simp [shf, binds, hx, shc_no (x := y) (show y.k ≠ 1 by omega)]
    rw [e1]
    refine ⟨.iff y _ _ _ _ hx rfl hy, ?_⟩
    rw [ctrT_if hx, ctrT_if hx]
    split <;> rw [shf_1]
/-- A redex with a term put in. -/
theorem sbf_ctr {sx : Cc} {sk : F} {d : Nat} (hs : (F.cons sx sk .nil).gs) {x : Cc} {k : F} (h : Rsh x k) (hg : k.gs) : Rsh x (sbf 0 sx sk x.k d 0 k) ∧ F.cons (ctrT x (sbf 0 sx sk x.k d 0 k)).1 (ctrT x (sbf 0 sx sk x.k d 0 k)).2 .nil = sbf 0 sx sk 0 d 0 (.cons (ctrT x k).1 (ctrT x k).2 .nil) := by
  cases h with
  | app y b z kb kz hx hk hy =>
    subst hk
    have e1 : sbf 0 sx sk x.k d 0 (.cons y (.cons b kb .nil) (.cons z kz .nil)) = .cons y (.cons (sbr 0 sx (d + 1) b) (sbk 0 sx sk (d + 1) b kb) .nil) (.cons (sbr 0 sx d z) (sbk 0 sx sk d z kz) .nil) := by
      simp only [sbf_cons, sbf_nil, sbr_no (x := y) (show y.k ≠ 1 by omega), sbk_no (x := y) (show y.k ≠ 1 by omega)]
      simp [binds, hx, hy]
    rw [e1]
    refine ⟨.app y _ _ _ _ hx rfl hy, ?_⟩
    rw [ctrT_app hx, ctrT_app hx, ← sbf_1, ← sbf_1]
    have := sbf_comm (d := d) (gs_nv hs) (gs_nv (gs_one hg.2.2.2)) (.cons b kb .nil) 0 0 0 (gs_nv (gs_one hg.2.2.1))
    rw [Nat.add_zero, Nat.add_zero, sbf_1 sx sk (d + 1)] at this
    exact this.symm
  | lett y b ky kb hx hk =>
    subst hk
    have e1 : sbf 0 sx sk x.k d 0 (.cons y ky (.cons b kb .nil)) = .cons (sbr 0 sx d y) (sbk 0 sx sk d y ky) (.cons (sbr 0 sx (d + 1) b) (sbk 0 sx sk (d + 1) b kb) .nil) := by
      simp only [sbf_cons, sbf_nil]
      simp [binds, hx]
    rw [e1]
    refine ⟨.lett _ _ _ _ hx rfl, ?_⟩
    rw [ctrT_let hx, ctrT_let hx, ← sbf_1, ← sbf_1]
    have := sbf_comm (d := d) (gs_nv hs) (gs_nv (gs_one hg)) (.cons b kb .nil) 0 0 0 (gs_nv (gs_one hg.2.2.2))
    rw [Nat.add_zero, Nat.add_zero, sbf_1 sx sk (d + 1)] at this
    exact this.symm
  | add y z hx hk hy hz hs' =>
    subst hk
    have e1 : sbf 0 sx sk x.k d 0 (.cons y .nil (.cons z .nil .nil)) = .cons y .nil (.cons z .nil .nil) := by
      simp only [sbf_cons, sbf_nil, sbr_no (x := y) (show y.k ≠ 1 by omega), sbk_no (x := y) (show y.k ≠ 1 by omega), sbr_no (x := z) (show z.k ≠ 1 by omega), sbk_no (x := z) (show z.k ≠ 1 by omega)]
    rw [e1]
    refine ⟨.add y z hx rfl hy hz hs', ?_⟩
    rw [ctrT_add hx, sbf_1, sbr_no (by simp), sbk_no (by simp)]
    rfl
  | iff y z u kz ku hx hk hy =>
    subst hk
    have e1 : sbf 0 sx sk x.k d 0 (.cons y .nil (.cons z kz (.cons u ku .nil))) = .cons y .nil (.cons (sbr 0 sx d z) (sbk 0 sx sk d z kz) (.cons (sbr 0 sx d u) (sbk 0 sx sk d u ku) .nil)) := by
      simp only [sbf_cons, sbf_nil, sbr_no (x := y) (show y.k ≠ 1 by omega), sbk_no (x := y) (show y.k ≠ 1 by omega)]
      simp [binds, hx]
    rw [e1]
    refine ⟨.iff y _ _ _ _ hx rfl hy, ?_⟩
    rw [ctrT_if hx, ctrT_if hx]
    split <;> rw [sbf_1]
theorem pr_shf {e : Nat} : ∀ {a a' : F} {pk : Int} {f i : Nat}, a.gs → pr a a' → pr (shf (e : Int) pk f i a) (shf (e : Int) pk f i a')
  | .nil, a', pk, f, i, _, h => by rw [show a' = .nil from h]; rfl
  | .cons y ky r, a', pk, f, i, hg, h => by
    simp only [pr] at h
    obtain ⟨ky', r', h1, h2, h3⟩ := h
    have i1 := pr_shf (e := e) (pk := y.k) (f := f + binds pk i) (i := 0) hg.2.2.1 h1
    have i2 := pr_shf (e := e) (pk := pk) (f := f) (i := i + 1) hg.2.2.2 h2
    rcases h3 with rfl | ⟨h4, rfl⟩
    · simp only [shf, pr]
      exact ⟨_, _, i1, i2, .inl rfl⟩
    · have hs := rsh_of (gs_one hg) h4
      have hs' := rsh_pr hs h1
      have g1 := pr_gs hg.2.2.1 h1
      obtain ⟨s1, s2⟩ := shf_ctr (e := e) (f := f + binds pk i) hs' g1
      rw [shf_1] at s2
      simp only [F.cons.injEq, and_true] at s2
      simp only [shf, pr, shc_no (rsh_nv hs)]
      refine ⟨_, _, i1, i2, .inr ⟨redx_rsh (shf_ctr hs hg.2.2.1).1, ?_⟩⟩
      rw [s2.1, s2.2]
theorem pr_sbf {sx sx' : Cc} {sk sk' : F} (hs : (F.cons sx sk .nil).gs) (hp : pr (.cons sx sk .nil) (.cons sx' sk' .nil)) : ∀ {a a' : F} {pk : Int} {d i : Nat}, a.gs → pr a a' → pr (sbf 0 sx sk pk d i a) (sbf 0 sx' sk' pk d i a')
  | .nil, a', pk, d, i, _, h => by rw [show a' = .nil from h]; rfl
  | .cons y ky r, a', pk, d, i, hg, h => by
    have hs2 := pr_gs hs hp
    simp only [pr] at h
    obtain ⟨ky', r', h1, h2, h3⟩ := h
    have i1 := pr_sbf hs hp (pk := y.k) (d := d + binds pk i) (i := 0) hg.2.2.1 h1
    have i2 := pr_sbf hs hp (pk := pk) (d := d) (i := i + 1) hg.2.2.2 h2
    obtain ⟨b, hb⟩ : ∃ b, b = d + binds pk i := ⟨_, rfl⟩
    rw [← hb] at i1
    rcases h3 with rfl | ⟨h4, rfl⟩
    · rw [sbf_cons, sbf_cons, ← hb]
      by_cases hx : y.k = 1
      · obtain ⟨rfl, hn0⟩ := (gs_nv hg).1 hx
        obtain rfl := pr_nil h1
        obtain ⟨xk, n⟩ := y
        simp only at hx hn0
        subst hx
        rcases Int.lt_trichotomy n (b : Int) with h5 | h5 | h5
        · rw [sbr_lt (by omega), sbk_ne _ (by omega), sbr_lt (by omega), sbk_ne _ (by omega)]
          exact pr_cons (pr_refl _) i2
        · rw [sbr_eq (by omega), sbk_eq _ (by omega), sbr_eq (by omega), sbk_eq _ (by omega)]
          have := pr_shf (e := b) (pk := 0) (f := 0) (i := 0) hs hp
          rw [shf_1, shf_1] at this
          exact pr_cons this i2
        · rw [sbr_gt (by omega), sbk_ne _ (by omega), sbr_gt (by omega), sbk_ne _ (by omega)]
          exact pr_cons (pr_refl _) i2
      · rw [sbr_no hx, sbk_no hx, sbr_no hx, sbk_no hx]
        simp only [pr]
        exact ⟨_, _, i1, i2, .inl rfl⟩
    · have hsh := rsh_of (gs_one hg) h4
      have hsh' := rsh_pr hsh h1
      have g1 := pr_gs hg.2.2.1 h1
      obtain ⟨s1, s2⟩ := sbf_ctr (d := b) hs2 hsh' g1
      rw [sbf_1] at s2
      simp only [F.cons.injEq, and_true] at s2
      rw [sbf_cons, sbf_cons, ← hb, sbr_no (rsh_nv hsh), sbk_no (rsh_nv hsh), ← s2.1, ← s2.2]
      simp only [pr]
      exact ⟨_, _, i1, i2, .inr ⟨redx_rsh (sbf_ctr (d := b) hs hsh hg.2.2.1).1, rfl⟩⟩
/-- What redexes come to goes along. -/
theorem pr_ctr {x : Cc} {k k' : F} (h : Rsh x k) (hg : k.gs) (hp : pr k k') : pr (.cons (ctrT x k).1 (ctrT x k).2 .nil) (.cons (ctrT x k').1 (ctrT x k').2 .nil) := by
  cases h with
  | app y b z kb kz hx hk hy =>
    subst hk
    obtain ⟨ky', r', h1, h2, rfl⟩ := pr_plain (redx_low (by omega)) hp
    obtain ⟨b', kb', q, h3, rfl, hb⟩ := pr_split h1
    obtain rfl := pr_nil h3
    obtain ⟨z', kz', q, h4, rfl, hz⟩ := pr_split h2
    obtain rfl := pr_nil h4
    rw [ctrT_app hx, ctrT_app hx, ← sbf_1, ← sbf_1]
    exact pr_sbf (gs_one hg.2.2.2) hz (gs_one hg.2.2.1) hb
  | lett y b ky kb hx hk =>
    subst hk
    obtain ⟨y', ky', r', h2, rfl, hy⟩ := pr_split hp
    obtain ⟨b', kb', q, h3, rfl, hb⟩ := pr_split h2
    obtain rfl := pr_nil h3
    rw [ctrT_let hx, ctrT_let hx, ← sbf_1, ← sbf_1]
    exact pr_sbf (gs_one hg) hy (gs_one hg.2.2.2) hb
  | add y z hx hk hy hz hs =>
    subst hk
    obtain ⟨ky', r', h1, h2, rfl⟩ := pr_plain (redx_low (by omega)) hp
    obtain rfl := pr_nil h1
    obtain ⟨kz', q, h3, h4, rfl⟩ := pr_plain (redx_low (by omega)) h2
    obtain rfl := pr_nil h3
    obtain rfl := pr_nil h4
    exact pr_refl _
  | iff y z u kz ku hx hk hy =>
    subst hk
    obtain ⟨ky', r', h1, h2, rfl⟩ := pr_plain (redx_low (by omega)) hp
    obtain rfl := pr_nil h1
    obtain ⟨z', kz', r2, h3, rfl, hz⟩ := pr_split h2
    obtain ⟨u', ku', q, h4, rfl, hu⟩ := pr_split h3
    obtain rfl := pr_nil h4
    rw [ctrT_if hx, ctrT_if hx]
    split
    · exact hz
    · exact hu
/-- All redexes contracted at once. -/
def dev : F → F
  | .nil => .nil
  | .cons y ky r => if redx y ky = true then .cons (ctrT y (dev ky)).1 (ctrT y (dev ky)).2 (dev r) else .cons y (dev ky) (dev r)
/-- Takahashi's: what some redexes make comes, at once, to what all make. -/
theorem triangle : ∀ {a a' : F}, a.gs → pr a a' → pr a' (dev a)
  | .nil, a', _, h => by rw [show a' = .nil from h]; rfl
  | .cons y ky r, a', hg, h => by
    simp only [pr] at h
    obtain ⟨ky', r', h1, h2, h3⟩ := h
    have i1 := triangle hg.2.2.1 h1
    have i2 := triangle hg.2.2.2 h2
    have g1 := pr_gs hg.2.2.1 h1
    rcases h3 with rfl | ⟨h4, rfl⟩
    · rw [dev]
      split
      · rename_i h4
        simp only [pr]
        exact ⟨_, _, i1, i2, .inr ⟨redx_rsh (rsh_pr (rsh_of (gs_one hg) h4) h1), rfl⟩⟩
      · simp only [pr]
        exact ⟨_, _, i1, i2, .inl rfl⟩
    · rw [dev, if_pos h4]
      exact pr_cons (pr_ctr (rsh_pr (rsh_of (gs_one hg) h4) h1) g1 i1) i2
theorem pr_dev : ∀ (a : F), pr a (dev a)
  | .nil => rfl
  | .cons y ky r => by
    rw [dev]
    split
    · rename_i h
      simp only [pr]
      exact ⟨_, _, pr_dev ky, pr_dev r, .inr ⟨h, rfl⟩⟩
    · simp only [pr]
      exact ⟨_, _, pr_dev ky, pr_dev r, .inl rfl⟩
end Go.Proofs.Ytjmgnljjeogdlaa.W

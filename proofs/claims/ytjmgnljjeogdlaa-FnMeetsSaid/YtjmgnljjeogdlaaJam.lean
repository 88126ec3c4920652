/-
  Some texts of this proof in one: WkTeKa, WkTeKc, WkTeKs.
-/
import Derived.Test.YtjmgnljjeogdlaaJal
import Derived.Test.YtjmgnljjeogdlaaJai
import Derived.Test.YtjmgnljjeogdlaaWkTeQx
import Derived.Test.YtjmgnljjeogdlaaJak
import Derived.Test.YtjmgnljjeogdlaaTeKs
/-
  TeKa for terms whose variables may be up to 900000 (written by build/weak.py).
-/
namespace Go.Proofs.Ytjmgnljjeogdlaa.V
open Go.Proofs.Ytjmgnljjeogdlaa.W
open Go.ChangeShapes Go.WideShapes Go.ChangeAt Go.RowKit
set_option linter.unusedVariables false

set_option maxRecDepth 20000 in
set_option maxHeartbeats 2000000 in
theorem cutAhead_any (b o c : Nat) (l : List Cc) (n : Nat) (w : World) (hl : l.length ≤ 1048576) (hc : l.length ≤ c) (hz : sz l 1 0 = some n) (hn : n ≤ l.length) (h : CRowAt w b o l) :
    Calls Try.prog 73 #[.slice (some ⟨b, o, none⟩) l.length c] w fun e w' => ∃ q, e = .returned (.tuple #[.slice (some ⟨b, o, none⟩) n c, .slice (some ⟨b, q, none⟩) (l.length - n) (c - n)]) ∧ (n < l.length → q = o + n * 2) ∧ Below w.heap.size w w' := by
  have HR : Hid (CRow w (some ⟨b, o, none⟩) l) := hide (.inr ⟨b, o, rfl, h⟩)
  have HZ := hide hz
  clear h hz
  go_enter Try.func73, Try.ntmps73
  go_wp2_with fail
  go_loopw [4, 5] (fun i m w' => ∃ (j M : Nat), j ≤ l.length ∧ M ≤ 2 * j + 1 ∧ i = .int .i64 j ∧ m = .int .i64 M ∧ sz (l.drop j) M j = some n ∧ w' = w) (fun i _ _ => l.length - (intOf i).toNat)
  case atStart => exact ⟨0, 1, by omega, by omega, rfl, rfl, HZ.out, rfl⟩
  case round =>
    obtain ⟨j, M, hj, hM, rfl, rfl, hs, rfl⟩ := hrel
    by_cases hM0 : M = 0
    · subst hM0
      rw [sz_0] at hs
      simp only [Option.some.injEq] at hs
      subst hs
      have h1 : (0 : Int) ≤ (j : Int) := by omega
      have h2 : (j : Int) ≤ (l.length : Int) := by omega
      have h3 : (l.length : Int) ≤ (c : Int) := by omega
      have h4 : (j : Int) ≤ (c : Int) := by omega
      clear hM HZ
      by_cases hcj : c = j
      · obtain rfl : c = l.length := by omega
        subst hcj
        go_wp2_with fail
        go_quiet (fail)
        go_wp2_with fail
        exact bodyPost_ret (v := .tuple #[.slice (some ⟨b, o, none⟩) l.length l.length, .slice (some ⟨b, o, none⟩) (l.length - l.length) (l.length - l.length)]) (by simp [results, Try.results73, go_sem]) rfl ⟨o, rfl, fun h => absurd h (Nat.lt_irrefl _), ⟨rfl, rfl, rfl, Nat.le_refl _, fun _ _ => rfl⟩⟩
      · go_wp2_with fail
        go_quiet (fail)
        go_wp2_with fail
        exact bodyPost_ret (v := .tuple #[.slice (some ⟨b, o, none⟩) j c, .slice (some ⟨b, o + j * 2, none⟩) (l.length - j) (c - j)]) (by simp [results, Try.results73, go_sem]) rfl ⟨_, rfl, fun _ => rfl, ⟨rfl, rfl, rfl, Nat.le_refl _, fun _ _ => rfl⟩⟩
    · have hMi : (0 : Int) < (M : Int) := by omega
      have hlt : j < l.length := by
        rcases Nat.lt_or_ge j l.length with h | h
        · exact h
        · rw [List.drop_eq_nil_of_le h, sz, if_neg hM0] at hs; cases hs
      have hlt' : (j : Int) < (l.length : Int) := by omega
      obtain ⟨b', o', he, hb, p0, p1⟩ := HR.out.tok (Below.refl _ _) hlt
      simp only [Option.some.injEq, Addr.mk.injEq] at he
      obtain ⟨rfl, rfl, -⟩ := he
      have hd : l.drop j = l[j] :: l.drop (j + 1) := List.drop_eq_getElem_cons hlt
      obtain ⟨x, hx⟩ : ∃ x, x = l[j] := ⟨_, rfl⟩
      rw [← hx] at p0 p1 hd
      rw [hd, sz, if_neg hM0] at hs
      have hg : goodC x = true := by
        cases hg : goodC x with
        | true => rfl
        | false => rw [hg] at hs; simp at hs
      rw [if_pos hg] at hs
      have HSz := hide hs
      clear hs hd hx hg
      go_wp2_with fail
      refine (termsBehind_any x.k _).mono ?_
      rintro e w2 ⟨rfl, rfl⟩
      have hle := ar_le x.k
      obtain ⟨R, hR⟩ : ∃ R, R = ar x.k := ⟨_, rfl⟩
      rw [← hR] at HSz hle ⊢
      clear hR p0 p1
      go_wp2_with fail
      refine ⟨⟨j + 1, M - 1 + R, by omega, by omega, by go_num, by go_num, HSz.out, by trivial⟩, by simp [intOf]; omega⟩
end Go.Proofs.Ytjmgnljjeogdlaa.V

/-
  TeKc for terms whose variables may be up to 900000 (written by build/weak.py).
-/
namespace Go.Proofs.Ytjmgnljjeogdlaa.V
open Go.Proofs.Ytjmgnljjeogdlaa.W
open Go.ChangeShapes Go.WideShapes Go.ChangeAt Go.RowKit
set_option linter.unusedVariables false

theorem sz_one {y : Cc} {ky : F} (h : okT y ky) (r : List Cc) : sz ((y :: ky.flat) ++ r) 1 0 = some (ky.flat.length + 1) := by
  have := sz_flat (.cons y ky .nil) r 0 0 ⟨h.1, h.2.1, h.2.2, trivial⟩
  simp only [F.flat, F.len, List.append_nil, Nat.zero_add, List.length_cons] at this
  rw [this, sz_0]
/-- Two terms one behind the other are cut, and one is put into the other. -/
theorem cut_any (b o c : Nat) (y z : Cc) (ky kz : F) (w : World) (hy : okT y ky) (hz : okT z kz) (L : Nat) (hL : L = (ky.flat.length + 1) + (kz.flat.length + 1)) (hl : L ≤ 600) (hc : L ≤ c) (h : CRowAt w b o ((y :: ky.flat) ++ (z :: kz.flat))) :
    Calls Try.prog 73 #[.slice (some ⟨b, o, none⟩) L c] w fun e w' => e = .returned (.tuple #[.slice (some ⟨b, o, none⟩) (ky.flat.length + 1) c, .slice (some ⟨b, o + (ky.flat.length + 1) * 2, none⟩) (kz.flat.length + 1) (c - (ky.flat.length + 1))]) ∧ Below w.heap.size w w' := by
  have hlen : ((y :: ky.flat) ++ (z :: kz.flat)).length = L := by rw [hL]; simp; omega
  have := cutAhead_any b o c ((y :: ky.flat) ++ (z :: kz.flat)) (ky.flat.length + 1) w (by omega) (by omega) (sz_one hy _) (by omega) h
  rw [hlen] at this
  refine this.mono ?_
  rintro e w' ⟨q, rfl, hq, hb⟩
  obtain rfl := hq (by omega)
  rw [show L - (ky.flat.length + 1) = kz.flat.length + 1 by omega]
  exact ⟨rfl, hb⟩

theorem subst_any (b o c sb so sc : Nat) (y z : Cc) (ky kz : F) (w : World) (hy : okT y ky) (hz : okT z kz) (hl : ky.flat.length + 1 ≤ 600) (hlz : kz.flat.length + 1 ≤ 600) (hc : ky.flat.length + 1 ≤ c) (hsc : kz.flat.length + 1 ≤ sc) (h : CRowAt w b o (y :: ky.flat)) (hs : CRowAt w sb so (z :: kz.flat)) :
    Calls Try.prog 25 #[.slice (some ⟨b, o, none⟩) (ky.flat.length + 1) c, .int .i64 0, .slice (some ⟨sb, so, none⟩) (kz.flat.length + 1) sc] w fun e w' => RU w ((putO y ky z kz).map fun p => p.1 :: p.2.flat) e w' := by
  have := substituted_any (some ⟨b, o, none⟩) (some ⟨sb, so, none⟩) c sc (y :: ky.flat) (z :: kz.flat) 0 y z ky kz w (by simp; omega) (by simpa using hc) (.inr ⟨b, o, rfl, h⟩) (by simp; omega) (by simpa using hsc) (.inr ⟨sb, so, rfl, hs⟩) (tree_one hy hl) (tree_one hz hlz) (by omega)
  rw [sbU_put] at this
  exact this

set_option maxRecDepth 20000 in
set_option maxHeartbeats 2000000 in
theorem contracted_app (b o c : Nat) (x y d z : Cc) (kd kz : F) (w : World) (hx : x.k = 4) (hd : okT d kd) (hz : okT z kz) (L : Nat) (hL : L = (kd.flat.length + 1) + (kz.flat.length + 1) + 2) (hl : L ≤ 600) (hc : L ≤ c) (h : CRowAt w b o ([x, y] ++ ((d :: kd.flat) ++ (z :: kz.flat)))) :
    Calls Try.prog 71 #[.slice (some ⟨b, o, none⟩) L c] w fun e w' => RU w ((putO d kd z kz).map fun p => p.1 :: p.2.flat) e w' := by
  have p0 := (h.2 0 (by simp)).1
  simp only [Nat.zero_mul, Nat.add_zero, List.cons_append, List.getElem_cons_zero] at p0
  rw [hx] at p0
  have HB := hide h.back
  have HC := hide (cut_any b (o + 4) (c - 2) d z kd kz w hd hz (L - 2) (by omega) (by omega) (by omega) h.back)
  have HS := hide (fun (w' : World) (hb : Below w.heap.size w w') => subst_any b (o + 4) (c - 2) b (o + 4 + (kd.flat.length + 1) * 2) (c - 2 - (kd.flat.length + 1)) d z kd kz w' hd hz (by omega) (by omega) (by omega) (by omega) (h.back.front.below hb) (h.back.back.below hb))
  have hL2 : (2 : Int) ≤ (L : Int) := by omega
  have hLc : (L : Int) ≤ (c : Int) := by omega
  have hL0 : (0 : Int) < (L : Int) := by omega
  have h2c : (2 : Int) ≤ (c : Int) := by omega
  have hcn : ¬ c = 2 := by omega
  obtain ⟨N, hN⟩ : ∃ N, N = kd.flat.length + 1 := ⟨_, rfl⟩
  obtain ⟨M, hM⟩ : ∃ M, M = kz.flat.length + 1 := ⟨_, rfl⟩
  rw [← hN, ← hM] at HC HS
  clear h hN hM hL
  go_enter Try.func71, Try.ntmps71
  go_wp2_with fail
  refine Calls.mono HC.out ?_
  rintro e w1 ⟨rfl, hb1⟩
  go_wp2_with fail
  refine Calls.mono (HS.out _ hb1) ?_
  rintro e w2 hr
  obtain ⟨s', rfl, h2, h3⟩ := hr.up hb1
  obtain ⟨ad2, c2, rfl⟩ := iOwn_form h2
  have HO := hide h2
  obtain ⟨R, hR⟩ : ∃ R, R = (putO d kd z kz).map fun p => p.1 :: p.2.flat := ⟨_, rfl⟩
  rw [← hR] at HO ⊢
  have HR := hide hR
  clear h2 hR hr
  go_wp2_with fail
  refine bodyPost_ret (v := .tuple #[.slice ad2 (R.getD []).length c2, .bool R.isSome]) (by simp [results, Try.results71, go_sem]) rfl ?_
  rw [← HR.out]
  exact ⟨_, rfl, HO.out, h3⟩

set_option maxRecDepth 20000 in
set_option maxHeartbeats 2000000 in
theorem contracted_let (b o c : Nat) (x z d : Cc) (kz kd : F) (w : World) (hx : x.k = 7) (hz : okT z kz) (hd : okT d kd) (L : Nat) (hL : L = (kz.flat.length + 1) + (kd.flat.length + 1) + 1) (hl : L ≤ 600) (hc : L ≤ c) (h : CRowAt w b o ([x] ++ ((z :: kz.flat) ++ (d :: kd.flat)))) :
    Calls Try.prog 71 #[.slice (some ⟨b, o, none⟩) L c] w fun e w' => RU w ((putO d kd z kz).map fun p => p.1 :: p.2.flat) e w' := by
  have p0 := (h.2 0 (by simp)).1
  simp only [Nat.zero_mul, Nat.add_zero, List.cons_append, List.getElem_cons_zero] at p0
  rw [hx] at p0
  have HB := hide h.back
  have HC := hide (cut_any b (o + 2) (c - 1) z d kz kd w hz hd (L - 1) (by omega) (by omega) (by omega) h.back)
  have HS := hide (fun (w' : World) (hb : Below w.heap.size w w') => subst_any b (o + 2 + (kz.flat.length + 1) * 2) (c - 1 - (kz.flat.length + 1)) b (o + 2) (c - 1) d z kd kz w' hd hz (by omega) (by omega) (by omega) (by omega) (h.back.back.below hb) (h.back.front.below hb))
  have hL2 : (1 : Int) ≤ (L : Int) := by omega
  have hLc : (L : Int) ≤ (c : Int) := by omega
  have hL0 : (0 : Int) < (L : Int) := by omega
  have h2c : (1 : Int) ≤ (c : Int) := by omega
  have hcn : ¬ c = 1 := by omega
  obtain ⟨N, hN⟩ : ∃ N, N = kd.flat.length + 1 := ⟨_, rfl⟩
  obtain ⟨M, hM⟩ : ∃ M, M = kz.flat.length + 1 := ⟨_, rfl⟩
  rw [← hN, ← hM] at HC HS
  clear h hN hM hL
  go_enter Try.func71, Try.ntmps71
  go_wp2_with fail
  refine Calls.mono HC.out ?_
  rintro e w1 ⟨rfl, hb1⟩
  go_wp2_with fail
  refine Calls.mono (HS.out _ hb1) ?_
  rintro e w2 hr
  obtain ⟨s', rfl, h2, h3⟩ := hr.up hb1
  obtain ⟨ad2, c2, rfl⟩ := iOwn_form h2
  have HO := hide h2
  obtain ⟨R, hR⟩ : ∃ R, R = (putO d kd z kz).map fun p => p.1 :: p.2.flat := ⟨_, rfl⟩
  rw [← hR] at HO ⊢
  have HR := hide hR
  clear h2 hR hr
  go_wp2_with fail
  refine bodyPost_ret (v := .tuple #[.slice ad2 (R.getD []).length c2, .bool R.isSome]) (by simp [results, Try.results71, go_sem]) rfl ?_
  rw [← HR.out]
  exact ⟨_, rfl, HO.out, h3⟩

set_option maxRecDepth 20000 in
set_option maxHeartbeats 2000000 in
theorem contracted_if (b o c : Nat) (x y z u : Cc) (kz ku : F) (w : World) (hx : x.k = 6) (hz : okT z kz) (hu : okT u ku) (L : Nat) (hL : L = (kz.flat.length + 1) + (ku.flat.length + 1) + 2) (hl : L ≤ 600) (hc : L ≤ c) (h : CRowAt w b o ([x, y] ++ ((z :: kz.flat) ++ (u :: ku.flat)))) :
    Calls Try.prog 71 #[.slice (some ⟨b, o, none⟩) L c] w fun e w' => RU w (some (if y.n = 0 then z :: kz.flat else u :: ku.flat)) e w' := by
  have p0 := (h.2 0 (by simp)).1
  have p1 := (h.2 1 (by simp)).2
  simp only [Nat.zero_mul, Nat.add_zero, List.cons_append, List.getElem_cons_zero] at p0
  simp only [List.cons_append, List.getElem_cons_succ, List.getElem_cons_zero] at p1
  rw [hx] at p0
  have hb0 := h.1
  have HC := hide (cut_any b (o + 4) (c - 2) z u kz ku w hz hu (L - 2) (by omega) (by omega) (by omega) h.back)
  have H1 := hide (fun (w' : World) (hb : Below w.heap.size w w') => cloneC_any b (o + 4) (c - 2) (z :: kz.flat) w' (by simp; omega) (.inr ⟨b, _, rfl, h.back.front.below hb⟩))
  have H2 := hide (fun (w' : World) (hb : Below w.heap.size w w') => cloneC_any b (o + 4 + (kz.flat.length + 1) * 2) (c - 2 - (kz.flat.length + 1)) (u :: ku.flat) w' (by simp; omega) (.inr ⟨b, _, rfl, h.back.back.below hb⟩))
  rw [List.length_cons] at H1 H2
  have hL2 : (2 : Int) ≤ (L : Int) := by omega
  have hLc : (L : Int) ≤ (c : Int) := by omega
  have hL0 : (0 : Int) < (L : Int) := by omega
  have hL1 : (1 : Int) < (L : Int) := by omega
  have h2c : (2 : Int) ≤ (c : Int) := by omega
  have hcn : ¬ c = 2 := by omega
  obtain ⟨N, hN⟩ : ∃ N, N = kz.flat.length + 1 := ⟨_, rfl⟩
  obtain ⟨M, hM⟩ : ∃ M, M = ku.flat.length + 1 := ⟨_, rfl⟩
  rw [← hN, ← hM] at HC
  rw [← hN] at H1 H2
  rw [← hM] at H2
  have HN := hide hN
  have HM := hide hM
  clear h hN hM hL
  by_cases hy : y.n = 0
  · rw [if_pos hy]
    rw [hy] at p1
    clear H2
    go_enter Try.func71, Try.ntmps71
    go_wp2_with fail
    refine Calls.mono HC.out ?_
    rintro e w1 ⟨rfl, hb1⟩
    have r1 := (hb1.cell (p := ⟨b, o + 1 * 2 + 1, none⟩) hb0).trans p1
    go_wp2_with fail
    refine Calls.mono (H1.out _ hb1) ?_
    rintro e w2 ⟨v, rfl, ho, hb2⟩
    have hB2 : Below w.heap.size w w2 := hb1.trans (hb2.mono hb1.size)
    have HO := hide (iOwn_lower ho hb1.size)
    obtain ⟨ad2, c2, rfl⟩ := iOwn_form ho
    clear ho hb2
    go_wp2_with fail
    refine bodyPost_ret (v := .tuple #[.slice ad2 N c2, .bool true]) (by simp [results, Try.results71, go_sem]) rfl ⟨_, rfl, ?_, hB2⟩
    show w2.ownsRow _ _ 2 _ (z :: kz.flat).length (cv (z :: kz.flat))
    rw [List.length_cons, ← HN.out]
    exact HO.out
  · rw [if_neg hy]
    have hyb : (y.n == 0) = false := by simp [hy]
    clear H1
    go_enter Try.func71, Try.ntmps71
    go_wp2_with fail
    refine Calls.mono HC.out ?_
    rintro e w1 ⟨rfl, hb1⟩
    have r1 := (hb1.cell (p := ⟨b, o + 1 * 2 + 1, none⟩) hb0).trans p1
    go_wp2_with fail
    refine Calls.mono (H2.out _ hb1) ?_
    rintro e w2 ⟨v, rfl, ho, hb2⟩
    have hB2 : Below w.heap.size w w2 := hb1.trans (hb2.mono hb1.size)
    have HO := hide (iOwn_lower ho hb1.size)
    obtain ⟨ad2, c2, rfl⟩ := iOwn_form ho
    clear ho hb2
    go_wp2_with fail
    refine bodyPost_ret (v := .tuple #[.slice ad2 M c2, .bool true]) (by simp [results, Try.results71, go_sem]) rfl ⟨_, rfl, ?_, hB2⟩
    show w2.ownsRow _ _ 2 _ (u :: ku.flat).length (cv (u :: ku.flat))
    rw [List.length_cons, ← HM.out]
    exact HO.out

end Go.Proofs.Ytjmgnljjeogdlaa.V

/-
  TeKs for terms whose variables may be up to 900000 (written by build/weak.py).
-/
namespace Go.Proofs.Ytjmgnljjeogdlaa.V
open Go.Proofs.Ytjmgnljjeogdlaa.W
open Go.ChangeShapes Go.WideShapes Go.ChangeAt Go.RowKit
set_option linter.unusedVariables false

set_option maxRecDepth 20000 in
set_option maxHeartbeats 2000000 in
theorem l4Contract_app (x y d z : Cc) (kd kz : F) (s : Value) (P : Nat → Prop) (w : World) (hx : x.k = 4) (hy : y.k = 3) (hd : okT d kd) (hz : okT z kz) (hl : kd.flat.length + 1 ≤ 600) (hlz : kz.flat.length + 1 ≤ 600) (hT : KidT w P (.cons y (.cons d kd .nil) (.cons z kz .nil)) s) :
    Calls Try.prog 69 #[.agg #[.int .i64 x.k, .int .i64 x.n, s]] w fun e w' => TO w' (fun g => P g ∨ w.heap.size ≤ g) (putO d kd z kz) e ∧ Below w.heap.size w w' := by
  obtain ⟨sad, sc, rfl⟩ := hT.form
  obtain ⟨g, rfl, hg, -, p0, p1, sy, p2, hTy⟩ := hT.first
  obtain ⟨q0, q1, sz, q2, hTz⟩ := hT.second
  obtain ⟨yad, yc, rfl⟩ := hTy.form
  obtain ⟨g2, rfl, hg2, -, r0, r1, sd, r2, hTd⟩ := hTy.first
  rw [hx]
  rw [hy] at p0
  have HP := hide (fun (w' : World) (hb : Below w.heap.size w w') => l3Put_any l3Subst_any d z kd kz sd sz 0 P P w' (good_n hd.1).1 (good_n hd.1).2 (good_n hz.1).1 (good_n hz.1).2 (by omega) hd.2.1 hd.2.2 hz.2.1 hz.2.2 hl hlz (hTd.below hb) (hTz.below hb))
  rw [show ((0 : Nat) : Int) = 0 from rfl] at HP
  obtain ⟨dad, dc, rfl⟩ := hTd.form
  obtain ⟨zad, zc, rfl⟩ := hTz.form
  have hKL : (F.cons y (.cons d kd .nil) (.cons z kz .nil)).len = 2 := rfl
  have hKL1 : (F.cons d kd .nil).len = 1 := rfl
  rw [hKL]
  rw [hKL1] at p2
  obtain ⟨DN, hDN⟩ : ∃ DN, DN = kd.len := ⟨_, rfl⟩
  obtain ⟨ZN, hZN⟩ : ∃ ZN, ZN = kz.len := ⟨_, rfl⟩
  rw [← hDN, ← hZN] at HP
  rw [← hDN] at r2
  rw [← hZN] at q2
  clear hT hTy hTd hTz hKL hKL1 hDN hZN
  obtain ⟨w0, hw0⟩ : ∃ w0, w0 = (w.alloc (.cells #[.int .i64 4, .int .i64 x.n, .slice (some ⟨g, 0, none⟩) 2 sc] 55)).alloc (.cells #[.int .i64 0, .int .i64 0, .slice none 0 0] 55) := ⟨_, rfl⟩
  have hB0 : Below w.heap.size w w0 := by rw [hw0]; exact ((Below.refl _ _).alloc (Nat.le_refl _) _).alloc (by simp) _
  have hbT : w0.heap[w.heap.size]? = some (.cells #[.int .i64 4, .int .i64 x.n, .slice (some ⟨g, 0, none⟩) 2 sc] 55) := by rw [hw0, heap_alloc_old _ _ (by simp)]; exact heap_alloc_new _ _
  have hbR : w0.heap[w.heap.size + 1]? = some (.cells #[.int .i64 0, .int .i64 0, .slice none 0 0] 55) := by rw [hw0]; have := heap_alloc_new (w.alloc (.cells #[.int .i64 4, .int .i64 x.n, .slice (some ⟨g, 0, none⟩) 2 sc] 55)) (.cells #[.int .i64 0, .int .i64 0, .slice none 0 0] 55); simpa using this
  have hsz0 : w0.heap.size = w.heap.size + 1 + 1 := by rw [hw0]; simp
  have HW0 := hide hw0
  clear hw0
  have e0 : w0.cell? ⟨w.heap.size, 2, none⟩ = some (.slice (some ⟨g, 0, none⟩) 2 sc) := (cell_of_blk hbT 2).trans rfl
  have e1 : w0.cell? ⟨g, 2, none⟩ = some (.slice (some ⟨g2, 0, none⟩) 1 yc) := (hB0.cell (p := ⟨g, 2, none⟩) hg).trans p2
  have e2 : w0.cell? ⟨g2, 0, none⟩ = some (.int .i64 d.k) := (hB0.cell (p := ⟨g2, 0, none⟩) hg2).trans r0
  have e3 : w0.cell? ⟨g2, 1, none⟩ = some (.int .i64 d.n) := (hB0.cell (p := ⟨g2, 1, none⟩) hg2).trans r1
  have e4 : w0.cell? ⟨g2, 2, none⟩ = some (.slice dad DN dc) := (hB0.cell (p := ⟨g2, 2, none⟩) hg2).trans r2
  have e5 : w0.cell? ⟨g, 3, none⟩ = some (.int .i64 z.k) := (hB0.cell (p := ⟨g, 3, none⟩) hg).trans q0
  have e6 : w0.cell? ⟨g, 4, none⟩ = some (.int .i64 z.n) := (hB0.cell (p := ⟨g, 4, none⟩) hg).trans q1
  have e7 : w0.cell? ⟨g, 5, none⟩ = some (.slice zad ZN zc) := (hB0.cell (p := ⟨g, 5, none⟩) hg).trans q2
  have HB0 : Hid (Below w.heap.size w w0.drew) := hide (belowDrew hB0)
  have HbR := hide hbR
  have n1 : ¬ w.heap.size + 1 = g := by omega
  have n2 : ¬ w.heap.size + 1 = g2 := by omega
  have n3 : ¬ w.heap.size + 1 = w.heap.size := by omega
  by_cases hroom : kd.flat.length + 1 + us1 0 d kd * kz.flat.length ≤ 600
  · have hput : putO d kd z kz = some (sbr 0 z 0 d, sbk 0 z kz 0 d kd) := if_pos hroom
    rw [hput]
    simp only [if_pos hroom] at HP
    obtain ⟨zz, hzz⟩ : ∃ zz, zz = sbr 0 z 0 d := ⟨_, rfl⟩
    obtain ⟨kk, hkk⟩ : ∃ kk, kk = sbk 0 z kz 0 d kd := ⟨_, rfl⟩
    rw [← hzz, ← hkk] at HP ⊢
    clear hzz hkk hroom hput
    go_enter Try.func69, Try.ntmps69
    go_wp2_with fail
    rw [← HW0.out]
    clear HW0 p0 p1 p2 q0 q1 q2 r0 r1 r2 hbT hbR hB0
    go_region_held3 (fun w' => w'.cell? ⟨w.heap.size, 2, none⟩ = some (.slice (some ⟨g, 0, none⟩) 2 sc) ∧ w'.cell? ⟨g, 2, none⟩ = some (.slice (some ⟨g2, 0, none⟩) 1 yc) ∧ w'.cell? ⟨g2, 0, none⟩ = some (.int .i64 d.k) ∧ w'.cell? ⟨g2, 1, none⟩ = some (.int .i64 d.n) ∧ w'.cell? ⟨g2, 2, none⟩ = some (.slice dad DN dc) ∧ w'.cell? ⟨g, 3, none⟩ = some (.int .i64 z.k) ∧ w'.cell? ⟨g, 4, none⟩ = some (.int .i64 z.n) ∧ w'.cell? ⟨g, 5, none⟩ = some (.slice zad ZN zc)) (go_keep)
      (first
        | (go_at_call 28; (with_reducible refine Calls.mono (HP.out _ HB0.out) ?_); rintro e wc ⟨⟨s5, rfl, hs5⟩, hbc⟩; obtain ⟨pad, pc5, rfl⟩ := hs5.form; have HS5 := hide hs5; clear hs5; have HBc' := hide hbc; clear hbc; have hszc : w0.heap.size ≤ wc.heap.size := HBc'.out.size; have HBc := hide (HB0.out.trans (HBc'.out.mono HB0.out.size)); have f0 : wc.cell? ⟨w.heap.size, 2, none⟩ = some (.slice (some ⟨g, 0, none⟩) 2 sc) := (HBc'.out.cell (p := ⟨w.heap.size, 2, none⟩) (show w.heap.size < w0.heap.size by omega)).trans e0; have f1 : wc.cell? ⟨g, 2, none⟩ = some (.slice (some ⟨g2, 0, none⟩) 1 yc) := (HBc'.out.cell (p := ⟨g, 2, none⟩) (show g < w0.heap.size by omega)).trans e1; have f2 : wc.cell? ⟨g2, 0, none⟩ = some (.int .i64 d.k) := (HBc'.out.cell (p := ⟨g2, 0, none⟩) (show g2 < w0.heap.size by omega)).trans e2; have f3 : wc.cell? ⟨g2, 1, none⟩ = some (.int .i64 d.n) := (HBc'.out.cell (p := ⟨g2, 1, none⟩) (show g2 < w0.heap.size by omega)).trans e3; have f4 : wc.cell? ⟨g2, 2, none⟩ = some (.slice dad DN dc) := (HBc'.out.cell (p := ⟨g2, 2, none⟩) (show g2 < w0.heap.size by omega)).trans e4; have f5 : wc.cell? ⟨g, 3, none⟩ = some (.int .i64 z.k) := (HBc'.out.cell (p := ⟨g, 3, none⟩) (show g < w0.heap.size by omega)).trans e5; have f6 : wc.cell? ⟨g, 4, none⟩ = some (.int .i64 z.n) := (HBc'.out.cell (p := ⟨g, 4, none⟩) (show g < w0.heap.size by omega)).trans e6; have f7 : wc.cell? ⟨g, 5, none⟩ = some (.slice zad ZN zc) := (HBc'.out.cell (p := ⟨g, 5, none⟩) (show g < w0.heap.size by omega)).trans e7; have hR0 : wc.heap[w.heap.size + 1]? = some (.cells #[.int .i64 0, .int .i64 0, .slice none 0 0] 55) := (HBc'.out.block _ (show w.heap.size + 1 < w0.heap.size by omega)).trans HbR.out; have HR0 := hide hR0; have z0 : wc.cell? ⟨w.heap.size + 1, 0, none⟩ = some (.int .i64 0) := (cell_of_blk hR0 0).trans rfl; have z1 : wc.cell? ⟨w.heap.size + 1, 1, none⟩ = some (.int .i64 0) := (cell_of_blk hR0 1).trans rfl; have z2 : wc.cell? ⟨w.heap.size + 1, 2, none⟩ = some (.slice none 0 0) := (cell_of_blk hR0 2).trans rfl; have fz := unfrozen_of_blk hR0; clear hR0))
    all_goals
      clear e0 e1 e2 e3 e4 e5 e6 e7 f0 f1 f2 f3 f4 f5 f6 f7 z0 z1 z2 fz HP
      have hk := blk_setCell (i := 2) (blk_setCell (i := 1) (blk_setCell (i := 0) HR0.out (.int .i64 zz.k)) (.int .i64 zz.n)) (.slice pad kk.len pc5)
      have HK := hide hk
      clear hk
      go_wp2_with fail
      have c0 := (cell_of_blk HK.out 0).trans rfl
      have c1 := (cell_of_blk HK.out 1).trans rfl
      have c2 := (cell_of_blk HK.out 2).trans rfl
      refine bodyPost_ret (v := .tuple #[.agg #[.int .i64 zz.k, .int .i64 zz.n, .slice pad kk.len pc5], .bool true]) (by simp [results, Try.results69, go_sem, c0, c1, c2]) rfl ⟨?_, ((HBc.out.setCell (p := ⟨w.heap.size + 1, 0, none⟩) (by simp) _).setCell (p := ⟨w.heap.size + 1, 1, none⟩) (by simp) _).setCell (p := ⟨w.heap.size + 1, 2, none⟩) (by simp) _⟩
      refine ⟨_, rfl, HS5.out.keep (by simp [World.setCell]) (fun g h1 h2 => ?_)⟩
      have h3 : w0.heap.size ≤ g := h1
      have hkn : g ≠ w.heap.size + 1 := by omega
      exact ⟨by rw [Below.heap_setCell _ _ _ _ hkn, Below.heap_setCell _ _ _ _ hkn, Below.heap_setCell _ _ _ _ hkn], .inr (by omega)⟩
  · have hput : putO d kd z kz = none := if_neg hroom
    rw [hput]
    simp only [if_neg hroom] at HP
    clear hroom hput
    go_enter Try.func69, Try.ntmps69
    go_wp2_with fail
    rw [← HW0.out]
    clear HW0 p0 p1 p2 q0 q1 q2 r0 r1 r2 hbT hbR hB0
    go_region_held3 (fun w' => w'.cell? ⟨w.heap.size, 2, none⟩ = some (.slice (some ⟨g, 0, none⟩) 2 sc) ∧ w'.cell? ⟨g, 2, none⟩ = some (.slice (some ⟨g2, 0, none⟩) 1 yc) ∧ w'.cell? ⟨g2, 0, none⟩ = some (.int .i64 d.k) ∧ w'.cell? ⟨g2, 1, none⟩ = some (.int .i64 d.n) ∧ w'.cell? ⟨g2, 2, none⟩ = some (.slice dad DN dc) ∧ w'.cell? ⟨g, 3, none⟩ = some (.int .i64 z.k) ∧ w'.cell? ⟨g, 4, none⟩ = some (.int .i64 z.n) ∧ w'.cell? ⟨g, 5, none⟩ = some (.slice zad ZN zc)) (go_keep)
      (first
        | (go_at_call 28; (with_reducible refine Calls.mono (HP.out _ HB0.out) ?_); rintro e wc ⟨rfl, hbc⟩; have HBc' := hide hbc; clear hbc; have hszc : w0.heap.size ≤ wc.heap.size := HBc'.out.size; have HBc := hide (HB0.out.trans (HBc'.out.mono HB0.out.size)); have f0 : wc.cell? ⟨w.heap.size, 2, none⟩ = some (.slice (some ⟨g, 0, none⟩) 2 sc) := (HBc'.out.cell (p := ⟨w.heap.size, 2, none⟩) (show w.heap.size < w0.heap.size by omega)).trans e0; have f1 : wc.cell? ⟨g, 2, none⟩ = some (.slice (some ⟨g2, 0, none⟩) 1 yc) := (HBc'.out.cell (p := ⟨g, 2, none⟩) (show g < w0.heap.size by omega)).trans e1; have f2 : wc.cell? ⟨g2, 0, none⟩ = some (.int .i64 d.k) := (HBc'.out.cell (p := ⟨g2, 0, none⟩) (show g2 < w0.heap.size by omega)).trans e2; have f3 : wc.cell? ⟨g2, 1, none⟩ = some (.int .i64 d.n) := (HBc'.out.cell (p := ⟨g2, 1, none⟩) (show g2 < w0.heap.size by omega)).trans e3; have f4 : wc.cell? ⟨g2, 2, none⟩ = some (.slice dad DN dc) := (HBc'.out.cell (p := ⟨g2, 2, none⟩) (show g2 < w0.heap.size by omega)).trans e4; have f5 : wc.cell? ⟨g, 3, none⟩ = some (.int .i64 z.k) := (HBc'.out.cell (p := ⟨g, 3, none⟩) (show g < w0.heap.size by omega)).trans e5; have f6 : wc.cell? ⟨g, 4, none⟩ = some (.int .i64 z.n) := (HBc'.out.cell (p := ⟨g, 4, none⟩) (show g < w0.heap.size by omega)).trans e6; have f7 : wc.cell? ⟨g, 5, none⟩ = some (.slice zad ZN zc) := (HBc'.out.cell (p := ⟨g, 5, none⟩) (show g < w0.heap.size by omega)).trans e7; have hR0 : wc.heap[w.heap.size + 1]? = some (.cells #[.int .i64 0, .int .i64 0, .slice none 0 0] 55) := (HBc'.out.block _ (show w.heap.size + 1 < w0.heap.size by omega)).trans HbR.out; have HR0 := hide hR0; have z0 : wc.cell? ⟨w.heap.size + 1, 0, none⟩ = some (.int .i64 0) := (cell_of_blk hR0 0).trans rfl; have z1 : wc.cell? ⟨w.heap.size + 1, 1, none⟩ = some (.int .i64 0) := (cell_of_blk hR0 1).trans rfl; have z2 : wc.cell? ⟨w.heap.size + 1, 2, none⟩ = some (.slice none 0 0) := (cell_of_blk hR0 2).trans rfl; have fz := unfrozen_of_blk hR0; clear hR0))
    all_goals
      clear e0 e1 e2 e3 e4 e5 e6 e7 f0 f1 f2 f3 f4 f5 f6 f7 z0 z1 z2 fz HP
      have hk := blk_setCell (i := 2) (blk_setCell (i := 1) (blk_setCell (i := 0) HR0.out (.int .i64 0)) (.int .i64 0)) (.slice none 0 0)
      have HK := hide hk
      clear hk
      go_wp2_with fail
      have c0 := (cell_of_blk HK.out 0).trans rfl
      have c1 := (cell_of_blk HK.out 1).trans rfl
      have c2 := (cell_of_blk HK.out 2).trans rfl
      refine bodyPost_ret (v := .tuple #[.agg #[.int .i64 0, .int .i64 0, .slice none 0 0], .bool false]) (by simp [results, Try.results69, go_sem, c0, c1, c2]) rfl ⟨?_, ((HBc.out.setCell (p := ⟨w.heap.size + 1, 0, none⟩) (by simp) _).setCell (p := ⟨w.heap.size + 1, 1, none⟩) (by simp) _).setCell (p := ⟨w.heap.size + 1, 2, none⟩) (by simp) _⟩
      rfl

set_option maxRecDepth 20000 in
set_option maxHeartbeats 2000000 in
theorem l4Contract_let (x z d : Cc) (kz kd : F) (s : Value) (P : Nat → Prop) (w : World) (hx : x.k = 7) (hz : okT z kz) (hd : okT d kd) (hl : kd.flat.length + 1 ≤ 600) (hlz : kz.flat.length + 1 ≤ 600) (hT : KidT w P (.cons z kz (.cons d kd .nil)) s) :
    Calls Try.prog 69 #[.agg #[.int .i64 x.k, .int .i64 x.n, s]] w fun e w' => TO w' (fun g => P g ∨ w.heap.size ≤ g) (putO d kd z kz) e ∧ Below w.heap.size w w' := by
  obtain ⟨sad, sc, rfl⟩ := hT.form
  obtain ⟨g, rfl, hg, -, p0, p1, sz, p2, hTz⟩ := hT.first
  obtain ⟨q0, q1, sd, q2, hTd⟩ := hT.second
  rw [hx]
  have HP := hide (fun (w' : World) (hb : Below w.heap.size w w') => l3Put_any l3Subst_any d z kd kz sd sz 0 P P w' (good_n hd.1).1 (good_n hd.1).2 (good_n hz.1).1 (good_n hz.1).2 (by omega) hd.2.1 hd.2.2 hz.2.1 hz.2.2 hl hlz (hTd.below hb) (hTz.below hb))
  rw [show ((0 : Nat) : Int) = 0 from rfl] at HP
  obtain ⟨dad, dc, rfl⟩ := hTd.form
  obtain ⟨zad, zc, rfl⟩ := hTz.form
  have hKL : (F.cons z kz (.cons d kd .nil)).len = 2 := rfl
  rw [hKL]
  obtain ⟨DN, hDN⟩ : ∃ DN, DN = kd.len := ⟨_, rfl⟩
  obtain ⟨ZN, hZN⟩ : ∃ ZN, ZN = kz.len := ⟨_, rfl⟩
  rw [← hDN, ← hZN] at HP
  rw [← hDN] at q2
  rw [← hZN] at p2
  clear hT hTd hTz hKL hDN hZN
  obtain ⟨w0, hw0⟩ : ∃ w0, w0 = (w.alloc (.cells #[.int .i64 7, .int .i64 x.n, .slice (some ⟨g, 0, none⟩) 2 sc] 55)).alloc (.cells #[.int .i64 0, .int .i64 0, .slice none 0 0] 55) := ⟨_, rfl⟩
  have hB0 : Below w.heap.size w w0 := by rw [hw0]; exact ((Below.refl _ _).alloc (Nat.le_refl _) _).alloc (by simp) _
  have hbT : w0.heap[w.heap.size]? = some (.cells #[.int .i64 7, .int .i64 x.n, .slice (some ⟨g, 0, none⟩) 2 sc] 55) := by rw [hw0, heap_alloc_old _ _ (by simp)]; exact heap_alloc_new _ _
  have hbR : w0.heap[w.heap.size + 1]? = some (.cells #[.int .i64 0, .int .i64 0, .slice none 0 0] 55) := by rw [hw0]; have := heap_alloc_new (w.alloc (.cells #[.int .i64 7, .int .i64 x.n, .slice (some ⟨g, 0, none⟩) 2 sc] 55)) (.cells #[.int .i64 0, .int .i64 0, .slice none 0 0] 55); simpa using this
  have hsz0 : w0.heap.size = w.heap.size + 1 + 1 := by rw [hw0]; simp
  have HW0 := hide hw0
  clear hw0
  have e0 : w0.cell? ⟨w.heap.size, 2, none⟩ = some (.slice (some ⟨g, 0, none⟩) 2 sc) := (cell_of_blk hbT 2).trans rfl
  have e1 : w0.cell? ⟨g, 3, none⟩ = some (.int .i64 d.k) := (hB0.cell (p := ⟨g, 3, none⟩) hg).trans q0
  have e2 : w0.cell? ⟨g, 4, none⟩ = some (.int .i64 d.n) := (hB0.cell (p := ⟨g, 4, none⟩) hg).trans q1
  have e3 : w0.cell? ⟨g, 5, none⟩ = some (.slice dad DN dc) := (hB0.cell (p := ⟨g, 5, none⟩) hg).trans q2
  have e4 : w0.cell? ⟨g, 0, none⟩ = some (.int .i64 z.k) := (hB0.cell (p := ⟨g, 0, none⟩) hg).trans p0
  have e5 : w0.cell? ⟨g, 1, none⟩ = some (.int .i64 z.n) := (hB0.cell (p := ⟨g, 1, none⟩) hg).trans p1
  have e6 : w0.cell? ⟨g, 2, none⟩ = some (.slice zad ZN zc) := (hB0.cell (p := ⟨g, 2, none⟩) hg).trans p2
  have HB0 : Hid (Below w.heap.size w w0.drew) := hide (belowDrew hB0)
  have HbR := hide hbR
  have n1 : ¬ w.heap.size + 1 = g := by omega
  have n3 : ¬ w.heap.size + 1 = w.heap.size := by omega
  by_cases hroom : kd.flat.length + 1 + us1 0 d kd * kz.flat.length ≤ 600
  · have hput : putO d kd z kz = some (sbr 0 z 0 d, sbk 0 z kz 0 d kd) := if_pos hroom
    rw [hput]
    simp only [if_pos hroom] at HP
    obtain ⟨zz, hzz⟩ : ∃ zz, zz = sbr 0 z 0 d := ⟨_, rfl⟩
    obtain ⟨kk, hkk⟩ : ∃ kk, kk = sbk 0 z kz 0 d kd := ⟨_, rfl⟩
    rw [← hzz, ← hkk] at HP ⊢
    clear hzz hkk hroom hput
    go_enter Try.func69, Try.ntmps69
    go_wp2_with fail
    rw [← HW0.out]
    clear HW0 p0 p1 p2 q0 q1 q2 hbT hbR hB0
    go_region_held3 (fun w' => w'.cell? ⟨w.heap.size, 2, none⟩ = some (.slice (some ⟨g, 0, none⟩) 2 sc) ∧ w'.cell? ⟨g, 3, none⟩ = some (.int .i64 d.k) ∧ w'.cell? ⟨g, 4, none⟩ = some (.int .i64 d.n) ∧ w'.cell? ⟨g, 5, none⟩ = some (.slice dad DN dc) ∧ w'.cell? ⟨g, 0, none⟩ = some (.int .i64 z.k) ∧ w'.cell? ⟨g, 1, none⟩ = some (.int .i64 z.n) ∧ w'.cell? ⟨g, 2, none⟩ = some (.slice zad ZN zc)) (go_keep)
      (first
        | (go_at_call 28; (with_reducible refine Calls.mono (HP.out _ HB0.out) ?_); rintro e wc ⟨⟨s5, rfl, hs5⟩, hbc⟩; obtain ⟨pad, pc5, rfl⟩ := hs5.form; have HS5 := hide hs5; clear hs5; have HBc' := hide hbc; clear hbc; have hszc : w0.heap.size ≤ wc.heap.size := HBc'.out.size; have HBc := hide (HB0.out.trans (HBc'.out.mono HB0.out.size)); have f0 : wc.cell? ⟨w.heap.size, 2, none⟩ = some (.slice (some ⟨g, 0, none⟩) 2 sc) := (HBc'.out.cell (p := ⟨w.heap.size, 2, none⟩) (show w.heap.size < w0.heap.size by omega)).trans e0; have f1 : wc.cell? ⟨g, 3, none⟩ = some (.int .i64 d.k) := (HBc'.out.cell (p := ⟨g, 3, none⟩) (show g < w0.heap.size by omega)).trans e1; have f2 : wc.cell? ⟨g, 4, none⟩ = some (.int .i64 d.n) := (HBc'.out.cell (p := ⟨g, 4, none⟩) (show g < w0.heap.size by omega)).trans e2; have f3 : wc.cell? ⟨g, 5, none⟩ = some (.slice dad DN dc) := (HBc'.out.cell (p := ⟨g, 5, none⟩) (show g < w0.heap.size by omega)).trans e3; have f4 : wc.cell? ⟨g, 0, none⟩ = some (.int .i64 z.k) := (HBc'.out.cell (p := ⟨g, 0, none⟩) (show g < w0.heap.size by omega)).trans e4; have f5 : wc.cell? ⟨g, 1, none⟩ = some (.int .i64 z.n) := (HBc'.out.cell (p := ⟨g, 1, none⟩) (show g < w0.heap.size by omega)).trans e5; have f6 : wc.cell? ⟨g, 2, none⟩ = some (.slice zad ZN zc) := (HBc'.out.cell (p := ⟨g, 2, none⟩) (show g < w0.heap.size by omega)).trans e6; have hR0 : wc.heap[w.heap.size + 1]? = some (.cells #[.int .i64 0, .int .i64 0, .slice none 0 0] 55) := (HBc'.out.block _ (show w.heap.size + 1 < w0.heap.size by omega)).trans HbR.out; have HR0 := hide hR0; have z0 : wc.cell? ⟨w.heap.size + 1, 0, none⟩ = some (.int .i64 0) := (cell_of_blk hR0 0).trans rfl; have z1 : wc.cell? ⟨w.heap.size + 1, 1, none⟩ = some (.int .i64 0) := (cell_of_blk hR0 1).trans rfl; have z2 : wc.cell? ⟨w.heap.size + 1, 2, none⟩ = some (.slice none 0 0) := (cell_of_blk hR0 2).trans rfl; have fz := unfrozen_of_blk hR0; clear hR0))
    all_goals
      clear e0 e1 e2 e3 e4 e5 e6 f0 f1 f2 f3 f4 f5 f6 z0 z1 z2 fz HP
      have hk := blk_setCell (i := 2) (blk_setCell (i := 1) (blk_setCell (i := 0) HR0.out (.int .i64 zz.k)) (.int .i64 zz.n)) (.slice pad kk.len pc5)
      have HK := hide hk
      clear hk
      go_wp2_with fail
      have c0 := (cell_of_blk HK.out 0).trans rfl
      have c1 := (cell_of_blk HK.out 1).trans rfl
      have c2 := (cell_of_blk HK.out 2).trans rfl
      refine bodyPost_ret (v := .tuple #[.agg #[.int .i64 zz.k, .int .i64 zz.n, .slice pad kk.len pc5], .bool true]) (by simp [results, Try.results69, go_sem, c0, c1, c2]) rfl ⟨?_, ((HBc.out.setCell (p := ⟨w.heap.size + 1, 0, none⟩) (by simp) _).setCell (p := ⟨w.heap.size + 1, 1, none⟩) (by simp) _).setCell (p := ⟨w.heap.size + 1, 2, none⟩) (by simp) _⟩
      refine ⟨_, rfl, HS5.out.keep (by simp [World.setCell]) (fun g h1 h2 => ?_)⟩
      have h3 : w0.heap.size ≤ g := h1
      have hkn : g ≠ w.heap.size + 1 := by omega
      exact ⟨by rw [Below.heap_setCell _ _ _ _ hkn, Below.heap_setCell _ _ _ _ hkn, Below.heap_setCell _ _ _ _ hkn], .inr (by omega)⟩
  · have hput : putO d kd z kz = none := if_neg hroom
    rw [hput]
    simp only [if_neg hroom] at HP
    clear hroom hput
    go_enter Try.func69, Try.ntmps69
    go_wp2_with fail
    rw [← HW0.out]
    clear HW0 p0 p1 p2 q0 q1 q2 hbT hbR hB0
    go_region_held3 (fun w' => w'.cell? ⟨w.heap.size, 2, none⟩ = some (.slice (some ⟨g, 0, none⟩) 2 sc) ∧ w'.cell? ⟨g, 3, none⟩ = some (.int .i64 d.k) ∧ w'.cell? ⟨g, 4, none⟩ = some (.int .i64 d.n) ∧ w'.cell? ⟨g, 5, none⟩ = some (.slice dad DN dc) ∧ w'.cell? ⟨g, 0, none⟩ = some (.int .i64 z.k) ∧ w'.cell? ⟨g, 1, none⟩ = some (.int .i64 z.n) ∧ w'.cell? ⟨g, 2, none⟩ = some (.slice zad ZN zc)) (go_keep)
      (first
        | (go_at_call 28; (with_reducible refine Calls.mono (HP.out _ HB0.out) ?_); rintro e wc ⟨rfl, hbc⟩; have HBc' := hide hbc; clear hbc; have hszc : w0.heap.size ≤ wc.heap.size := HBc'.out.size; have HBc := hide (HB0.out.trans (HBc'.out.mono HB0.out.size)); have f0 : wc.cell? ⟨w.heap.size, 2, none⟩ = some (.slice (some ⟨g, 0, none⟩) 2 sc) := (HBc'.out.cell (p := ⟨w.heap.size, 2, none⟩) (show w.heap.size < w0.heap.size by omega)).trans e0; have f1 : wc.cell? ⟨g, 3, none⟩ = some (.int .i64 d.k) := (HBc'.out.cell (p := ⟨g, 3, none⟩) (show g < w0.heap.size by omega)).trans e1; have f2 : wc.cell? ⟨g, 4, none⟩ = some (.int .i64 d.n) := (HBc'.out.cell (p := ⟨g, 4, none⟩) (show g < w0.heap.size by omega)).trans e2; have f3 : wc.cell? ⟨g, 5, none⟩ = some (.slice dad DN dc) := (HBc'.out.cell (p := ⟨g, 5, none⟩) (show g < w0.heap.size by omega)).trans e3; have f4 : wc.cell? ⟨g, 0, none⟩ = some (.int .i64 z.k) := (HBc'.out.cell (p := ⟨g, 0, none⟩) (show g < w0.heap.size by omega)).trans e4; have f5 : wc.cell? ⟨g, 1, none⟩ = some (.int .i64 z.n) := (HBc'.out.cell (p := ⟨g, 1, none⟩) (show g < w0.heap.size by omega)).trans e5; have f6 : wc.cell? ⟨g, 2, none⟩ = some (.slice zad ZN zc) := (HBc'.out.cell (p := ⟨g, 2, none⟩) (show g < w0.heap.size by omega)).trans e6; have hR0 : wc.heap[w.heap.size + 1]? = some (.cells #[.int .i64 0, .int .i64 0, .slice none 0 0] 55) := (HBc'.out.block _ (show w.heap.size + 1 < w0.heap.size by omega)).trans HbR.out; have HR0 := hide hR0; have z0 : wc.cell? ⟨w.heap.size + 1, 0, none⟩ = some (.int .i64 0) := (cell_of_blk hR0 0).trans rfl; have z1 : wc.cell? ⟨w.heap.size + 1, 1, none⟩ = some (.int .i64 0) := (cell_of_blk hR0 1).trans rfl; have z2 : wc.cell? ⟨w.heap.size + 1, 2, none⟩ = some (.slice none 0 0) := (cell_of_blk hR0 2).trans rfl; have fz := unfrozen_of_blk hR0; clear hR0))
    all_goals
      clear e0 e1 e2 e3 e4 e5 e6 f0 f1 f2 f3 f4 f5 f6 z0 z1 z2 fz HP
      have hk := blk_setCell (i := 2) (blk_setCell (i := 1) (blk_setCell (i := 0) HR0.out (.int .i64 0)) (.int .i64 0)) (.slice none 0 0)
      have HK := hide hk
      clear hk
      go_wp2_with fail
      have c0 := (cell_of_blk HK.out 0).trans rfl
      have c1 := (cell_of_blk HK.out 1).trans rfl
      have c2 := (cell_of_blk HK.out 2).trans rfl
      refine bodyPost_ret (v := .tuple #[.agg #[.int .i64 0, .int .i64 0, .slice none 0 0], .bool false]) (by simp [results, Try.results69, go_sem, c0, c1, c2]) rfl ⟨?_, ((HBc.out.setCell (p := ⟨w.heap.size + 1, 0, none⟩) (by simp) _).setCell (p := ⟨w.heap.size + 1, 1, none⟩) (by simp) _).setCell (p := ⟨w.heap.size + 1, 2, none⟩) (by simp) _⟩
      rfl

end Go.Proofs.Ytjmgnljjeogdlaa.V

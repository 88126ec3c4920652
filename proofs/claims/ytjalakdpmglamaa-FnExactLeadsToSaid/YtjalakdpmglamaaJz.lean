/-
  Some texts of this proof in one: WkTeKa, WkTeKc.
-/
import Derived.Test.YtjalakdpmglamaaJk
import Derived.Test.YtjalakdpmglamaaJt
import Derived.Test.YtjalakdpmglamaaWkTeQx
import Derived.Test.YtjalakdpmglamaaJo
import Derived.Test.YtjalakdpmglamaaJy
/-
  TeKa for terms whose variables may be up to 900000 (written by build/weak.py).
-/
namespace Go.Proofs.Ytjalakdpmglamaa.V
open Go.Proofs.Ytjalakdpmglamaa.W
open Go.ChangeShapes Go.WideShapes Go.ChangeAt Go.RowKit
set_option linter.unusedVariables false

set_option maxRecDepth 20000 in
set_option maxHeartbeats 2000000 in
theorem cutAhead_any (b o c : Nat) (l : List Cc) (n : Nat) (w : World) (hl : l.length ≤ 1048576) (hc : l.length ≤ c) (hz : sz l 1 0 = some n) (hn : n ≤ l.length) (h : CRowAt w b o l) :
    Calls Try.prog 43 #[.slice (some ⟨b, o, none⟩) l.length c] w fun e w' => ∃ q, e = .returned (.tuple #[.slice (some ⟨b, o, none⟩) n c, .slice (some ⟨b, q, none⟩) (l.length - n) (c - n)]) ∧ (n < l.length → q = o + n * 2) ∧ Below w.heap.size w w' := by
  have HR : Hid (CRow w (some ⟨b, o, none⟩) l) := hide (.inr ⟨b, o, rfl, h⟩)
  have HZ := hide hz
  clear h hz
  go_enter Try.func43, Try.ntmps43
  go_wp2_with fail
  go_loopw [4, 5] (fun i m w' => ∃ (j M : Nat), j ≤ l.length ∧ M ≤ 2 * j + 1 ∧ i = .int .i64 j ∧ m = .int .i64 M ∧ sz (l.drop j) M j = some n ∧ w' = w) (fun i _ _ => l.length - (intOf i).toNat)
  case atStart => exact ⟨0, 1, by omega, by omega, rfl, rfl, HZ.out, rfl⟩
  case round =>
    obtain ⟨j, M, hj, hM, rfl, rfl, hs, rfl⟩ := hrel
    by_cases hM0 : M = 0
    · subst hM0
      rw [sz_0] at hs
      simp only [Option.some.injEq] at hs
      subst hs
      have h1 : (0 : Int) ≤ (j : Int) := by omega
      have h2 : (j : Int) ≤ (l.length : Int) := by omega
      have h3 : (l.length : Int) ≤ (c : Int) := by omega
      have h4 : (j : Int) ≤ (c : Int) := by omega
      clear hM HZ
      by_cases hcj : c = j
      · obtain rfl : c = l.length := by omega
        subst hcj
        go_wp2_with fail
        go_quiet (fail)
        go_wp2_with fail
        exact bodyPost_ret (v := .tuple #[.slice (some ⟨b, o, none⟩) l.length l.length, .slice (some ⟨b, o, none⟩) (l.length - l.length) (l.length - l.length)]) (by simp [results, Try.results43, go_sem]) rfl ⟨o, rfl, fun h => absurd h (Nat.lt_irrefl _), ⟨rfl, rfl, rfl, Nat.le_refl _, fun _ _ => rfl⟩⟩
      · go_wp2_with fail
        go_quiet (fail)
        go_wp2_with fail
        exact bodyPost_ret (v := .tuple #[.slice (some ⟨b, o, none⟩) j c, .slice (some ⟨b, o + j * 2, none⟩) (l.length - j) (c - j)]) (by simp [results, Try.results43, go_sem]) rfl ⟨_, rfl, fun _ => rfl, ⟨rfl, rfl, rfl, Nat.le_refl _, fun _ _ => rfl⟩⟩
    · have hMi : (0 : Int) < (M : Int) := by omega
      have hlt : j < l.length := by
        rcases Nat.lt_or_ge j l.length with h | h
        · exact h
        · rw [List.drop_eq_nil_of_le h, sz, if_neg hM0] at hs; cases hs
      have hlt' : (j : Int) < (l.length : Int) := by omega
      obtain ⟨b', o', he, hb, p0, p1⟩ := HR.out.tok (Below.refl _ _) hlt
      simp only [Option.some.injEq, Addr.mk.injEq] at he
      obtain ⟨rfl, rfl, -⟩ := he
      have hd : l.drop j = l[j] :: l.drop (j + 1) := List.drop_eq_getElem_cons hlt
      obtain ⟨x, hx⟩ : ∃ x, x = l[j] := ⟨_, rfl⟩
      rw [← hx] at p0 p1 hd
      rw [hd, sz, if_neg hM0] at hs
      have hg : goodC x = true := by
        cases hg : goodC x with
        | true => rfl
        | false => rw [hg] at hs; simp at hs
      rw [if_pos hg] at hs
      have HSz := hide hs
      clear hs hd hx hg
      go_wp2_with fail
      refine (termsBehind_any x.k _).mono ?_
      rintro e w2 ⟨rfl, rfl⟩
      have hle := ar_le x.k
      obtain ⟨R, hR⟩ : ∃ R, R = ar x.k := ⟨_, rfl⟩
      rw [← hR] at HSz hle ⊢
      clear hR p0 p1
      go_wp2_with fail
      refine ⟨⟨j + 1, M - 1 + R, by omega, by omega, by go_num, by go_num, HSz.out, by trivial⟩, by simp [intOf]; omega⟩
end Go.Proofs.Ytjalakdpmglamaa.V

/-
  TeKc for terms whose variables may be up to 900000 (written by build/weak.py).
-/
namespace Go.Proofs.Ytjalakdpmglamaa.V
open Go.Proofs.Ytjalakdpmglamaa.W
open Go.ChangeShapes Go.WideShapes Go.ChangeAt Go.RowKit
set_option linter.unusedVariables false

theorem sz_one {y : Cc} {ky : F} (h : okT y ky) (r : List Cc) : sz ((y :: ky.flat) ++ r) 1 0 = some (ky.flat.length + 1) := by
  have := sz_flat (.cons y ky .nil) r 0 0 ⟨h.1, h.2.1, h.2.2, trivial⟩
  simp only [F.flat, F.len, List.append_nil, Nat.zero_add, List.length_cons] at this
  rw [this, sz_0]
/-- Two terms one behind the other are cut, and one is put into the other. -/
theorem cut_any (b o c : Nat) (y z : Cc) (ky kz : F) (w : World) (hy : okT y ky) (hz : okT z kz) (L : Nat) (hL : L = (ky.flat.length + 1) + (kz.flat.length + 1)) (hl : L ≤ 600) (hc : L ≤ c) (h : CRowAt w b o ((y :: ky.flat) ++ (z :: kz.flat))) :
    Calls Try.prog 43 #[.slice (some ⟨b, o, none⟩) L c] w fun e w' => e = .returned (.tuple #[.slice (some ⟨b, o, none⟩) (ky.flat.length + 1) c, .slice (some ⟨b, o + (ky.flat.length + 1) * 2, none⟩) (kz.flat.length + 1) (c - (ky.flat.length + 1))]) ∧ Below w.heap.size w w' := by
  have hlen : ((y :: ky.flat) ++ (z :: kz.flat)).length = L := by rw [hL]; simp; omega
  have := cutAhead_any b o c ((y :: ky.flat) ++ (z :: kz.flat)) (ky.flat.length + 1) w (by omega) (by omega) (sz_one hy _) (by omega) h
  rw [hlen] at this
  refine this.mono ?_
  rintro e w' ⟨q, rfl, hq, hb⟩
  obtain rfl := hq (by omega)
  rw [show L - (ky.flat.length + 1) = kz.flat.length + 1 by omega]
  exact ⟨rfl, hb⟩

theorem subst_any (b o c sb so sc : Nat) (y z : Cc) (ky kz : F) (w : World) (hy : okT y ky) (hz : okT z kz) (hl : ky.flat.length + 1 ≤ 600) (hlz : kz.flat.length + 1 ≤ 600) (hc : ky.flat.length + 1 ≤ c) (hsc : kz.flat.length + 1 ≤ sc) (h : CRowAt w b o (y :: ky.flat)) (hs : CRowAt w sb so (z :: kz.flat)) :
    Calls Try.prog 44 #[.slice (some ⟨b, o, none⟩) (ky.flat.length + 1) c, .int .i64 0, .slice (some ⟨sb, so, none⟩) (kz.flat.length + 1) sc] w fun e w' => RU w ((putO y ky z kz).map fun p => p.1 :: p.2.flat) e w' := by
  have := substituted_any (some ⟨b, o, none⟩) (some ⟨sb, so, none⟩) c sc (y :: ky.flat) (z :: kz.flat) 0 y z ky kz w (by simp; omega) (by simpa using hc) (.inr ⟨b, o, rfl, h⟩) (by simp; omega) (by simpa using hsc) (.inr ⟨sb, so, rfl, hs⟩) (tree_one hy hl) (tree_one hz hlz) (by omega)
  rw [sbU_put] at this
  exact this

set_option maxRecDepth 20000 in
set_option maxHeartbeats 2000000 in
theorem contracted_app (b o c : Nat) (x y d z : Cc) (kd kz : F) (w : World) (hx : x.k = 4) (hd : okT d kd) (hz : okT z kz) (L : Nat) (hL : L = (kd.flat.length + 1) + (kz.flat.length + 1) + 2) (hl : L ≤ 600) (hc : L ≤ c) (h : CRowAt w b o ([x, y] ++ ((d :: kd.flat) ++ (z :: kz.flat)))) :
    Calls Try.prog 37 #[.slice (some ⟨b, o, none⟩) L c] w fun e w' => RU w ((putO d kd z kz).map fun p => p.1 :: p.2.flat) e w' := by
  have p0 := (h.2 0 (by simp)).1
  simp only [Nat.zero_mul, Nat.add_zero, List.cons_append, List.getElem_cons_zero] at p0
  rw [hx] at p0
  have HB := hide h.back
  have HC := hide (cut_any b (o + 4) (c - 2) d z kd kz w hd hz (L - 2) (by omega) (by omega) (by omega) h.back)
  have HS := hide (fun (w' : World) (hb : Below w.heap.size w w') => subst_any b (o + 4) (c - 2) b (o + 4 + (kd.flat.length + 1) * 2) (c - 2 - (kd.flat.length + 1)) d z kd kz w' hd hz (by omega) (by omega) (by omega) (by omega) (h.back.front.below hb) (h.back.back.below hb))
  have hL2 : (2 : Int) ≤ (L : Int) := by omega
  have hLc : (L : Int) ≤ (c : Int) := by omega
  have hL0 : (0 : Int) < (L : Int) := by omega
  have h2c : (2 : Int) ≤ (c : Int) := by omega
  have hcn : ¬ c = 2 := by omega
  obtain ⟨N, hN⟩ : ∃ N, N = kd.flat.length + 1 := ⟨_, rfl⟩
  obtain ⟨M, hM⟩ : ∃ M, M = kz.flat.length + 1 := ⟨_, rfl⟩
  rw [← hN, ← hM] at HC HS
  clear h hN hM hL
  go_enter Try.func37, Try.ntmps37
  go_wp2_with fail
  refine Calls.mono HC.out ?_
  rintro e w1 ⟨rfl, hb1⟩
  go_wp2_with fail
  refine Calls.mono (HS.out _ hb1) ?_
  rintro e w2 hr
  obtain ⟨s', rfl, h2, h3⟩ := hr.up hb1
  obtain ⟨ad2, c2, rfl⟩ := iOwn_form h2
  have HO := hide h2
  obtain ⟨R, hR⟩ : ∃ R, R = (putO d kd z kz).map fun p => p.1 :: p.2.flat := ⟨_, rfl⟩
  rw [← hR] at HO ⊢
  have HR := hide hR
  clear h2 hR hr
  go_wp2_with fail
  refine bodyPost_ret (v := .tuple #[.slice ad2 (R.getD []).length c2, .bool R.isSome]) (by simp [results, Try.results37, go_sem]) rfl ?_
  rw [← HR.out]
  exact ⟨_, rfl, HO.out, h3⟩

set_option maxRecDepth 20000 in
set_option maxHeartbeats 2000000 in
theorem contracted_let (b o c : Nat) (x z d : Cc) (kz kd : F) (w : World) (hx : x.k = 7) (hz : okT z kz) (hd : okT d kd) (L : Nat) (hL : L = (kz.flat.length + 1) + (kd.flat.length + 1) + 1) (hl : L ≤ 600) (hc : L ≤ c) (h : CRowAt w b o ([x] ++ ((z :: kz.flat) ++ (d :: kd.flat)))) :
    Calls Try.prog 37 #[.slice (some ⟨b, o, none⟩) L c] w fun e w' => RU w ((putO d kd z kz).map fun p => p.1 :: p.2.flat) e w' := by
  have p0 := (h.2 0 (by simp)).1
  simp only [Nat.zero_mul, Nat.add_zero, List.cons_append, List.getElem_cons_zero] at p0
  rw [hx] at p0
  have HB := hide h.back
  have HC := hide (cut_any b (o + 2) (c - 1) z d kz kd w hz hd (L - 1) (by omega) (by omega) (by omega) h.back)
  have HS := hide (fun (w' : World) (hb : Below w.heap.size w w') => subst_any b (o + 2 + (kz.flat.length + 1) * 2) (c - 1 - (kz.flat.length + 1)) b (o + 2) (c - 1) d z kd kz w' hd hz (by omega) (by omega) (by omega) (by omega) (h.back.back.below hb) (h.back.front.below hb))
  have hL2 : (1 : Int) ≤ (L : Int) := by omega
  have hLc : (L : Int) ≤ (c : Int) := by omega
  have hL0 : (0 : Int) < (L : Int) := by omega
  have h2c : (1 : Int) ≤ (c : Int) := by omega
  have hcn : ¬ c = 1 := by omega
  obtain ⟨N, hN⟩ : ∃ N, N = kd.flat.length + 1 := ⟨_, rfl⟩
  obtain ⟨M, hM⟩ : ∃ M, M = kz.flat.length + 1 := ⟨_, rfl⟩
  rw [← hN, ← hM] at HC HS
  clear h hN hM hL
  go_enter Try.func37, Try.ntmps37
  go_wp2_with fail
  refine Calls.mono HC.out ?_
  rintro e w1 ⟨rfl, hb1⟩
  go_wp2_with fail
  refine Calls.mono (HS.out _ hb1) ?_
  rintro e w2 hr
  obtain ⟨s', rfl, h2, h3⟩ := hr.up hb1
  obtain ⟨ad2, c2, rfl⟩ := iOwn_form h2
  have HO := hide h2
  obtain ⟨R, hR⟩ : ∃ R, R = (putO d kd z kz).map fun p => p.1 :: p.2.flat := ⟨_, rfl⟩
  rw [← hR] at HO ⊢
  have HR := hide hR
  clear h2 hR hr
  go_wp2_with fail
  refine bodyPost_ret (v := .tuple #[.slice ad2 (R.getD []).length c2, .bool R.isSome]) (by simp [results, Try.results37, go_sem]) rfl ?_
  rw [← HR.out]
  exact ⟨_, rfl, HO.out, h3⟩

set_option maxRecDepth 20000 in
set_option maxHeartbeats 2000000 in
theorem contracted_if (b o c : Nat) (x y z u : Cc) (kz ku : F) (w : World) (hx : x.k = 6) (hz : okT z kz) (hu : okT u ku) (L : Nat) (hL : L = (kz.flat.length + 1) + (ku.flat.length + 1) + 2) (hl : L ≤ 600) (hc : L ≤ c) (h : CRowAt w b o ([x, y] ++ ((z :: kz.flat) ++ (u :: ku.flat)))) :
    Calls Try.prog 37 #[.slice (some ⟨b, o, none⟩) L c] w fun e w' => RU w (some (if y.n = 0 then z :: kz.flat else u :: ku.flat)) e w' := by
  have p0 := (h.2 0 (by simp)).1
  have p1 := (h.2 1 (by simp)).2
  simp only [Nat.zero_mul, Nat.add_zero, List.cons_append, List.getElem_cons_zero] at p0
  simp only [List.cons_append, List.getElem_cons_succ, List.getElem_cons_zero] at p1
  rw [hx] at p0
  have hb0 := h.1
  have HC := hide (cut_any b (o + 4) (c - 2) z u kz ku w hz hu (L - 2) (by omega) (by omega) (by omega) h.back)
  have H1 := hide (fun (w' : World) (hb : Below w.heap.size w w') => cloneC_any b (o + 4) (c - 2) (z :: kz.flat) w' (by simp; omega) (.inr ⟨b, _, rfl, h.back.front.below hb⟩))
  have H2 := hide (fun (w' : World) (hb : Below w.heap.size w w') => cloneC_any b (o + 4 + (kz.flat.length + 1) * 2) (c - 2 - (kz.flat.length + 1)) (u :: ku.flat) w' (by simp; omega) (.inr ⟨b, _, rfl, h.back.back.below hb⟩))
  rw [List.length_cons] at H1 H2
  have hL2 : (2 : Int) ≤ (L : Int) := by omega
  have hLc : (L : Int) ≤ (c : Int) := by omega
  have hL0 : (0 : Int) < (L : Int) := by omega
  have hL1 : (1 : Int) < (L : Int) := by omega
  have h2c : (2 : Int) ≤ (c : Int) := by omega
  have hcn : ¬ c = 2 := by omega
  obtain ⟨N, hN⟩ : ∃ N, N = kz.flat.length + 1 := ⟨_, rfl⟩
  obtain ⟨M, hM⟩ : ∃ M, M = ku.flat.length + 1 := ⟨_, rfl⟩
  rw [← hN, ← hM] at HC
  rw [← hN] at H1 H2
  rw [← hM] at H2
  have HN := hide hN
  have HM := hide hM
  clear h hN hM hL
  by_cases hy : y.n = 0
  · rw [if_pos hy]
    rw [hy] at p1
    clear H2
    go_enter Try.func37, Try.ntmps37
    go_wp2_with fail
    refine Calls.mono HC.out ?_
    rintro e w1 ⟨rfl, hb1⟩
    have r1 := (hb1.cell (p := ⟨b, o + 1 * 2 + 1, none⟩) hb0).trans p1
    go_wp2_with fail
    refine Calls.mono (H1.out _ hb1) ?_
    rintro e w2 ⟨v, rfl, ho, hb2⟩
    have hB2 : Below w.heap.size w w2 := hb1.trans (hb2.mono hb1.size)
    have HO := hide (iOwn_lower ho hb1.size)
    obtain ⟨ad2, c2, rfl⟩ := iOwn_form ho
    clear ho hb2
    go_wp2_with fail
    refine bodyPost_ret (v := .tuple #[.slice ad2 N c2, .bool true]) (by simp [results, Try.results37, go_sem]) rfl ⟨_, rfl, ?_, hB2⟩
    show w2.ownsRow _ _ 2 _ (z :: kz.flat).length (cv (z :: kz.flat))
    rw [List.length_cons, ← HN.out]
    exact HO.out
  · rw [if_neg hy]
    have hyb : (y.n == 0) = false := by simp [hy]
    clear H1
    go_enter Try.func37, Try.ntmps37
    go_wp2_with fail
    refine Calls.mono HC.out ?_
    rintro e w1 ⟨rfl, hb1⟩
    have r1 := (hb1.cell (p := ⟨b, o + 1 * 2 + 1, none⟩) hb0).trans p1
    go_wp2_with fail
    refine Calls.mono (H2.out _ hb1) ?_
    rintro e w2 ⟨v, rfl, ho, hb2⟩
    have hB2 : Below w.heap.size w w2 := hb1.trans (hb2.mono hb1.size)
    have HO := hide (iOwn_lower ho hb1.size)
    obtain ⟨ad2, c2, rfl⟩ := iOwn_form ho
    clear ho hb2
    go_wp2_with fail
    refine bodyPost_ret (v := .tuple #[.slice ad2 M c2, .bool true]) (by simp [results, Try.results37, go_sem]) rfl ⟨_, rfl, ?_, hB2⟩
    show w2.ownsRow _ _ 2 _ (u :: ku.flat).length (cv (u :: ku.flat))
    rw [List.length_cons, ← HM.out]
    exact HO.out

end Go.Proofs.Ytjalakdpmglamaa.V

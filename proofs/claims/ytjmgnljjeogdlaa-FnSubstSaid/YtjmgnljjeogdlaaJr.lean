/-
  Some texts of this proof in one: TeKc, TeKd.
-/
import Derived.Test.YtjmgnljjeogdlaaJl
import Derived.Test.YtjmgnljjeogdlaaJq
import Derived.Test.YtjmgnljjeogdlaaJo
/-
  A redex contracted by the program: a contract of contracted. Conditions: good terms.
-/
namespace Go.Proofs.Ytjmgnljjeogdlaa.W
open Go.ChangeShapes Go.WideShapes Go.ChangeAt Go.RowKit
set_option linter.unusedVariables false

theorem RU.up {w w2 w' : World} {r : Option (List Cc)} {e : Ending} (h : RU w2 r e w') (hb : Below w.heap.size w w2) : RU w r e w' := by
  obtain ⟨s', h1, h2, h3⟩ := h
  exact ⟨s', h1, iOwn_lower h2 hb.size, hb.trans (h3.mono hb.size)⟩
theorem CRowAt.front {w : World} {b o : Nat} {l m : List Cc} (h : CRowAt w b o (l ++ m)) : CRowAt w b o l := by
  refine ⟨h.1, fun i hi => ?_⟩
  have := h.2 i (by simp; omega)
  rwa [List.getElem_append_left hi] at this
theorem CRowAt.back {w : World} {b o : Nat} {l m : List Cc} (h : CRowAt w b o (l ++ m)) : CRowAt w b (o + l.length * 2) m := by
  have := h.drop l.length
  rwa [List.drop_left] at this
theorem sz_one {y : Cc} {ky : F} (h : okT y ky) (r : List Cc) : sz ((y :: ky.flat) ++ r) 1 0 = some (ky.flat.length + 1) := by
  have := sz_flat (.cons y ky .nil) r 0 0 ⟨h.1, h.2.1, h.2.2, trivial⟩
  simp only [F.flat, F.len, List.append_nil, Nat.zero_add, List.length_cons] at this
  rw [this, sz_0]
theorem tree_one {y : Cc} {ky : F} (h : okT y ky) (hl : ky.flat.length + 1 ≤ 600) : treeT (y :: ky.flat) = some (.cons y ky .nil) := by
  have := treeT_back (a := .cons y ky .nil) ⟨h.1, h.2.1, h.2.2, trivial⟩ rfl (by simp [F.flat]; omega)
  simpa [F.flat] using this
theorem sbU_put (b z : Cc) (kb kz : F) : sbU (b :: kb.flat) 0 (z :: kz.flat) b kb z kz = (putO b kb z kz).map fun p => p.1 :: p.2.flat := by
  unfold sbU putO
  simp only [List.length_cons, Nat.add_sub_cancel]
  split <;> rfl

/-- Two terms one behind the other are cut, and one is put into the other. -/
theorem cut_any (b o c : Nat) (y z : Cc) (ky kz : F) (w : World) (hy : okT y ky) (hz : okT z kz) (L : Nat) (hL : L = (ky.flat.length + 1) + (kz.flat.length + 1)) (hl : L ≤ 600) (hc : L ≤ c) (h : CRowAt w b o ((y :: ky.flat) ++ (z :: kz.flat))) :
    Calls Try.prog 73 #[.slice (some ⟨b, o, none⟩) L c] w fun e w' => e = .returned (.tuple #[.slice (some ⟨b, o, none⟩) (ky.flat.length + 1) c, .slice (some ⟨b, o + (ky.flat.length + 1) * 2, none⟩) (kz.flat.length + 1) (c - (ky.flat.length + 1))]) ∧ Below w.heap.size w w' := by
  have hlen : ((y :: ky.flat) ++ (z :: kz.flat)).length = L := by rw [hL]; simp; omega
  have := cutAhead_any b o c ((y :: ky.flat) ++ (z :: kz.flat)) (ky.flat.length + 1) w (by omega) (by omega) (sz_one hy _) (by omega) h
  rw [hlen] at this
  refine this.mono ?_
  rintro e w' ⟨q, rfl, hq, hb⟩
  obtain rfl := hq (by omega)
  rw [show L - (ky.flat.length + 1) = kz.flat.length + 1 by omega]
  exact ⟨rfl, hb⟩

theorem subst_any (b o c sb so sc : Nat) (y z : Cc) (ky kz : F) (w : World) (hy : okT y ky) (hz : okT z kz) (hl : ky.flat.length + 1 ≤ 600) (hlz : kz.flat.length + 1 ≤ 600) (hc : ky.flat.length + 1 ≤ c) (hsc : kz.flat.length + 1 ≤ sc) (h : CRowAt w b o (y :: ky.flat)) (hs : CRowAt w sb so (z :: kz.flat)) :
    Calls Try.prog 25 #[.slice (some ⟨b, o, none⟩) (ky.flat.length + 1) c, .int .i64 0, .slice (some ⟨sb, so, none⟩) (kz.flat.length + 1) sc] w fun e w' => RU w ((putO y ky z kz).map fun p => p.1 :: p.2.flat) e w' := by
  have := substituted_any (some ⟨b, o, none⟩) (some ⟨sb, so, none⟩) c sc (y :: ky.flat) (z :: kz.flat) 0 y z ky kz w (by simp; omega) (by simpa using hc) (.inr ⟨b, o, rfl, h⟩) (by simp; omega) (by simpa using hsc) (.inr ⟨sb, so, rfl, hs⟩) (tree_one hy hl) (tree_one hz hlz) (by omega)
  rw [sbU_put] at this
  exact this

set_option maxRecDepth 20000 in
set_option maxHeartbeats 2000000 in
theorem contracted_app (b o c : Nat) (x y d z : Cc) (kd kz : F) (w : World) (hx : x.k = 4) (hd : okT d kd) (hz : okT z kz) (L : Nat) (hL : L = (kd.flat.length + 1) + (kz.flat.length + 1) + 2) (hl : L ≤ 600) (hc : L ≤ c) (h : CRowAt w b o ([x, y] ++ ((d :: kd.flat) ++ (z :: kz.flat)))) :
    Calls Try.prog 71 #[.slice (some ⟨b, o, none⟩) L c] w fun e w' => RU w ((putO d kd z kz).map fun p => p.1 :: p.2.flat) e w' := by
  have p0 := (h.2 0 (by simp)).1
  simp only [Nat.zero_mul, Nat.add_zero, List.cons_append, List.getElem_cons_zero] at p0
  rw [hx] at p0
  have HB := hide h.back
  have HC := hide (cut_any b (o + 4) (c - 2) d z kd kz w hd hz (L - 2) (by omega) (by omega) (by omega) h.back)
  have HS := hide (fun (w' : World) (hb : Below w.heap.size w w') => subst_any b (o + 4) (c - 2) b (o + 4 + (kd.flat.length + 1) * 2) (c - 2 - (kd.flat.length + 1)) d z kd kz w' hd hz (by omega) (by omega) (by omega) (by omega) (h.back.front.below hb) (h.back.back.below hb))
  have hL2 : (2 : Int) ≤ (L : Int) := by omega
  have hLc : (L : Int) ≤ (c : Int) := by omega
  have hL0 : (0 : Int) < (L : Int) := by omega
  have h2c : (2 : Int) ≤ (c : Int) := by omega
  have hcn : ¬ c = 2 := by omega
  obtain ⟨N, hN⟩ : ∃ N, N = kd.flat.length + 1 := ⟨_, rfl⟩
  obtain ⟨M, hM⟩ : ∃ M, M = kz.flat.length + 1 := ⟨_, rfl⟩
  rw [← hN, ← hM] at HC HS
  clear h hN hM hL
  go_enter Try.func71, Try.ntmps71
  go_wp2_with fail
  refine Calls.mono HC.out ?_
  rintro e w1 ⟨rfl, hb1⟩
  go_wp2_with fail
  refine Calls.mono (HS.out _ hb1) ?_
  rintro e w2 hr
  obtain ⟨s', rfl, h2, h3⟩ := hr.up hb1
  obtain ⟨ad2, c2, rfl⟩ := iOwn_form h2
  have HO := hide h2
  obtain ⟨R, hR⟩ : ∃ R, R = (putO d kd z kz).map fun p => p.1 :: p.2.flat := ⟨_, rfl⟩
  rw [← hR] at HO ⊢
  have HR := hide hR
  clear h2 hR hr
  go_wp2_with fail
  refine bodyPost_ret (v := .tuple #[.slice ad2 (R.getD []).length c2, .bool R.isSome]) (by simp [results, Try.results71, go_sem]) rfl ?_
  rw [← HR.out]
  exact ⟨_, rfl, HO.out, h3⟩

set_option maxRecDepth 20000 in
set_option maxHeartbeats 2000000 in
theorem contracted_let (b o c : Nat) (x z d : Cc) (kz kd : F) (w : World) (hx : x.k = 7) (hz : okT z kz) (hd : okT d kd) (L : Nat) (hL : L = (kz.flat.length + 1) + (kd.flat.length + 1) + 1) (hl : L ≤ 600) (hc : L ≤ c) (h : CRowAt w b o ([x] ++ ((z :: kz.flat) ++ (d :: kd.flat)))) :
    Calls Try.prog 71 #[.slice (some ⟨b, o, none⟩) L c] w fun e w' => RU w ((putO d kd z kz).map fun p => p.1 :: p.2.flat) e w' := by
  have p0 := (h.2 0 (by simp)).1
  simp only [Nat.zero_mul, Nat.add_zero, List.cons_append, List.getElem_cons_zero] at p0
  rw [hx] at p0
  have HB := hide h.back
  have HC := hide (cut_any b (o + 2) (c - 1) z d kz kd w hz hd (L - 1) (by omega) (by omega) (by omega) h.back)
  have HS := hide (fun (w' : World) (hb : Below w.heap.size w w') => subst_any b (o + 2 + (kz.flat.length + 1) * 2) (c - 1 - (kz.flat.length + 1)) b (o + 2) (c - 1) d z kd kz w' hd hz (by omega) (by omega) (by omega) (by omega) (h.back.back.below hb) (h.back.front.below hb))
  have hL2 : (1 : Int) ≤ (L : Int) := by omega
  have hLc : (L : Int) ≤ (c : Int) := by omega
  have hL0 : (0 : Int) < (L : Int) := by omega
  have h2c : (1 : Int) ≤ (c : Int) := by omega
  have hcn : ¬ c = 1 := by omega
  obtain ⟨N, hN⟩ : ∃ N, N = kd.flat.length + 1 := ⟨_, rfl⟩
  obtain ⟨M, hM⟩ : ∃ M, M = kz.flat.length + 1 := ⟨_, rfl⟩
  rw [← hN, ← hM] at HC HS
  clear h hN hM hL
  go_enter Try.func71, Try.ntmps71
  go_wp2_with fail
  refine Calls.mono HC.out ?_
  rintro e w1 ⟨rfl, hb1⟩
  go_wp2_with fail
  refine Calls.mono (HS.out _ hb1) ?_
  rintro e w2 hr
  obtain ⟨s', rfl, h2, h3⟩ := hr.up hb1
  obtain ⟨ad2, c2, rfl⟩ := iOwn_form h2
  have HO := hide h2
  obtain ⟨R, hR⟩ : ∃ R, R = (putO d kd z kz).map fun p => p.1 :: p.2.flat := ⟨_, rfl⟩
  rw [← hR] at HO ⊢
  have HR := hide hR
  clear h2 hR hr
  go_wp2_with fail
  refine bodyPost_ret (v := .tuple #[.slice ad2 (R.getD []).length c2, .bool R.isSome]) (by simp [results, Try.results71, go_sem]) rfl ?_
  rw [← HR.out]
  exact ⟨_, rfl, HO.out, h3⟩

set_option maxRecDepth 20000 in
set_option maxHeartbeats 2000000 in
theorem contracted_add (b o c : Nat) (x y z : Cc) (w : World) (hx : x.k = 5) (hyn : -1000000 ≤ y.n ∧ y.n ≤ 1000000) (hzn : -1000000 ≤ z.n ∧ z.n ≤ 1000000) (h : CRowAt w b o [x, y, z]) :
    Calls Try.prog 71 #[.slice (some ⟨b, o, none⟩) 3 c] w fun e w' => RU w (some [⟨2, y.n + z.n⟩]) e w' := by
  have p0 := (h.2 0 (by simp)).1
  have p1 := (h.2 1 (by simp)).2
  have p2 := (h.2 2 (by simp)).2
  simp only [Nat.zero_mul, Nat.add_zero, List.getElem_cons_zero] at p0
  simp only [List.getElem_cons_succ, List.getElem_cons_zero] at p1 p2
  rw [hx] at p0
  have HS := hide (sumCell_any b o c 3 y.n z.n w (by omega) h.1 p1 p2 hyn hzn)
  clear h p1 p2
  go_enter Try.func71, Try.ntmps71
  go_wp2_with fail
  refine Calls.mono HS.out ?_
  rintro e w1 ⟨rfl, hb1⟩
  go_wp2_with fail
  refine bodyPost_ret (v := .tuple #[.slice (some ⟨w1.heap.size, 0, none⟩) 1 1, .bool true]) (by simp [results, Try.results71, go_sem]) rfl ⟨_, rfl, ?_, hb1.alloc hb1.size _⟩
  exact ⟨rfl, .inr ⟨w1.heap.size, 1, _, rfl, hb1.size, heap_alloc_new w1 _, Nat.le_refl _, by unfold maxLen; omega, rfl, rfl⟩⟩

set_option maxRecDepth 20000 in
set_option maxHeartbeats 2000000 in
theorem contracted_if (b o c : Nat) (x y z u : Cc) (kz ku : F) (w : World) (hx : x.k = 6) (hz : okT z kz) (hu : okT u ku) (L : Nat) (hL : L = (kz.flat.length + 1) + (ku.flat.length + 1) + 2) (hl : L ≤ 600) (hc : L ≤ c) (h : CRowAt w b o ([x, y] ++ ((z :: kz.flat) ++ (u :: ku.flat)))) :
    Calls Try.prog 71 #[.slice (some ⟨b, o, none⟩) L c] w fun e w' => RU w (some (if y.n = 0 then z :: kz.flat else u :: ku.flat)) e w' := by
  have p0 := (h.2 0 (by simp)).1
  have p1 := (h.2 1 (by simp)).2
  simp only [Nat.zero_mul, Nat.add_zero, List.cons_append, List.getElem_cons_zero] at p0
  simp only [List.cons_append, List.getElem_cons_succ, List.getElem_cons_zero] at p1
  rw [hx] at p0
  have hb0 := h.1
  have HC := hide (cut_any b (o + 4) (c - 2) z u kz ku w hz hu (L - 2) (by omega) (by omega) (by omega) h.back)
  have H1 := hide (fun (w' : World) (hb : Below w.heap.size w w') => cloneC_any b (o + 4) (c - 2) (z :: kz.flat) w' (by simp; omega) (.inr ⟨b, _, rfl, h.back.front.below hb⟩))
  have H2 := hide (fun (w' : World) (hb : Below w.heap.size w w') => cloneC_any b (o + 4 + (kz.flat.length + 1) * 2) (c - 2 - (kz.flat.length + 1)) (u :: ku.flat) w' (by simp; omega) (.inr ⟨b, _, rfl, h.back.back.below hb⟩))
  rw [List.length_cons] at H1 H2
  have hL2 : (2 : Int) ≤ (L : Int) := by omega
  have hLc : (L : Int) ≤ (c : Int) := by omega
  have hL0 : (0 : Int) < (L : Int) := by omega
  have hL1 : (1 : Int) < (L : Int) := by omega
  have h2c : (2 : Int) ≤ (c : Int) := by omega
  have hcn : ¬ c = 2 := by omega
  obtain ⟨N, hN⟩ : ∃ N, N = kz.flat.length + 1 := ⟨_, rfl⟩
  obtain ⟨M, hM⟩ : ∃ M, M = ku.flat.length + 1 := ⟨_, rfl⟩
  rw [← hN, ← hM] at HC
  rw [← hN] at H1 H2
  rw [← hM] at H2
  have HN := hide hN
  have HM := hide hM
  clear h hN hM hL
  by_cases hy : y.n = 0
  · rw [if_pos hy]
    rw [hy] at p1
    clear H2
    go_enter Try.func71, Try.ntmps71
    go_wp2_with fail
    refine Calls.mono HC.out ?_
    rintro e w1 ⟨rfl, hb1⟩
    have r1 := (hb1.cell (p := ⟨b, o + 1 * 2 + 1, none⟩) hb0).trans p1
    go_wp2_with fail
    refine Calls.mono (H1.out _ hb1) ?_
    rintro e w2 ⟨v, rfl, ho, hb2⟩
    have hB2 : Below w.heap.size w w2 := hb1.trans (hb2.mono hb1.size)
    have HO := hide (iOwn_lower ho hb1.size)
    obtain ⟨ad2, c2, rfl⟩ := iOwn_form ho
    clear ho hb2
    go_wp2_with fail
    refine bodyPost_ret (v := .tuple #[.slice ad2 N c2, .bool true]) (by simp [results, Try.results71, go_sem]) rfl ⟨_, rfl, ?_, hB2⟩
    show w2.ownsRow _ _ 2 _ (z :: kz.flat).length (cv (z :: kz.flat))
    rw [List.length_cons, ← HN.out]
    exact HO.out
  · rw [if_neg hy]
    have hyb : (y.n == 0) = false := by simp [hy]
    clear H1
    go_enter Try.func71, Try.ntmps71
    go_wp2_with fail
    refine Calls.mono HC.out ?_
    rintro e w1 ⟨rfl, hb1⟩
    have r1 := (hb1.cell (p := ⟨b, o + 1 * 2 + 1, none⟩) hb0).trans p1
    go_wp2_with fail
    refine Calls.mono (H2.out _ hb1) ?_
    rintro e w2 ⟨v, rfl, ho, hb2⟩
    have hB2 : Below w.heap.size w w2 := hb1.trans (hb2.mono hb1.size)
    have HO := hide (iOwn_lower ho hb1.size)
    obtain ⟨ad2, c2, rfl⟩ := iOwn_form ho
    clear ho hb2
    go_wp2_with fail
    refine bodyPost_ret (v := .tuple #[.slice ad2 M c2, .bool true]) (by simp [results, Try.results71, go_sem]) rfl ⟨_, rfl, ?_, hB2⟩
    show w2.ownsRow _ _ 2 _ (u :: ku.flat).length (cv (u :: ku.flat))
    rw [List.length_cons, ← HM.out]
    exact HO.out

theorem contracted_any (b o c : Nat) (x : Cc) (k : F) (w : World) (hk : okT x k) (hr : redx x k = true) (L : Nat) (hL : L = k.flat.length + 1) (hl : L ≤ 600) (hc : L ≤ c) (h : CRowAt w b o (x :: k.flat)) :
    Calls Try.prog 71 #[.slice (some ⟨b, o, none⟩) L c] w fun e w' => RU w ((ctrO x k).map fun p => p.1 :: p.2.flat) e w' := by
  cases red_of hk hr with
  | app y d z kd kz hx hk' hy hd hz =>
    subst hk'
    have e1 : ctrO x (.cons y (.cons d kd .nil) (.cons z kz .nil)) = putO d kd z kz := by simp [ctrO, hx]
    rw [e1]
    have e2 : x :: (F.cons y (.cons d kd .nil) (.cons z kz .nil)).flat = [x, y] ++ ((d :: kd.flat) ++ (z :: kz.flat)) := by simp [F.flat]
    rw [e2] at h
    exact contracted_app b o c x y d z kd kz w hx hd hz L (by rw [hL]; simp [F.flat]; omega) hl hc h
  | lett y d ky kd hx hk' hy hd =>
    subst hk'
    have e1 : ctrO x (.cons y ky (.cons d kd .nil)) = putO d kd y ky := by simp [ctrO, hx]
    rw [e1]
    have e2 : x :: (F.cons y ky (.cons d kd .nil)).flat = [x] ++ ((y :: ky.flat) ++ (d :: kd.flat)) := by simp [F.flat]
    rw [e2] at h
    exact contracted_let b o c x y d ky kd w hx hy hd L (by rw [hL]; simp [F.flat]; omega) hl hc h
  | add y z hx hk' hy hz hyn hzn hs =>
    subst hk'
    have e1 : ctrO x (.cons y .nil (.cons z .nil .nil)) = some (⟨2, y.n + z.n⟩, .nil) := by simp [ctrO, hx]
    rw [e1]
    have e2 : x :: (F.cons y .nil (.cons z .nil .nil)).flat = [x, y, z] := by simp [F.flat]
    rw [e2] at h
    obtain rfl : L = 3 := by rw [hL]; simp [F.flat]
    exact contracted_add b o c x y z w hx hyn hzn h
  | iff y z u kz ku hx hk' hy hz hu =>
    subst hk'
    have e1 : (ctrO x (.cons y .nil (.cons z kz (.cons u ku .nil)))).map (fun p => p.1 :: p.2.flat) = some (if y.n = 0 then z :: kz.flat else u :: ku.flat) := by
      simp only [ctrO, hx]
      by_cases hy0 : y.n = 0
      · simp [hy0]
      · simp [hy0]
    rw [e1]
    have e2 : x :: (F.cons y .nil (.cons z kz (.cons u ku .nil))).flat = [x, y] ++ ((z :: kz.flat) ++ (u :: ku.flat)) := by simp [F.flat]
    rw [e2] at h
    exact contracted_if b o c x y z u kz ku w hx hz hu L (by rw [hL]; simp [F.flat]; omega) hl hc h
end Go.Proofs.Ytjmgnljjeogdlaa.W

/-
  A redex anywhere in a term contracted by the program: a contract of contractedAt. Conditions: good terms.
-/
namespace Go.Proofs.Ytjmgnljjeogdlaa.W
open Go.ChangeShapes Go.WideShapes Go.ChangeAt Go.RowKit
set_option linter.unusedVariables false

theorem putO_len {d z : Cc} {kd kz : F} (hd : okT d kd) {p : Cc × F} (h : putO d kd z kz = some p) : p.2.flat.length + 1 ≤ 600 := by
  unfold putO at h
  split at h
  · rename_i h6
    simp only [Option.some.injEq] at h
    subst h
    have h9 := sbf_flat 0 z kz (.cons d kd .nil) 0 0 0 ⟨hd.1, hd.2.1, hd.2.2, trivial⟩
    have h10 : usf (0 + 0) 0 0 (.cons d kd .nil) = us1 0 d kd := by rw [usf_cons, binds_0]; simp [usf]
    have h11 : sbf 0 z kz 0 0 0 (.cons d kd .nil) = .cons (sbr 0 z 0 d) (sbk 0 z kz 0 d kd) .nil := by rw [sbf_cons, binds_0]; rfl
    rw [h10, h11] at h9
    simp [F.flat] at h9
    simp only
    omega
  · cases h
theorem ctrO_len {x : Cc} {k : F} (hk : okT x k) (hr : redx x k = true) (hl : k.flat.length + 1 ≤ 600) {p : Cc × F} (h : ctrO x k = some p) : p.2.flat.length + 1 ≤ 600 := by
  cases red_of hk hr with
  | app y d z kd kz hx hk' hy hd hz =>
    subst hk'
    have e1 : ctrO x (.cons y (.cons d kd .nil) (.cons z kz .nil)) = putO d kd z kz := by simp [ctrO, hx]
    rw [e1] at h
    exact putO_len hd h
  | lett y d ky kd hx hk' hy hd =>
    subst hk'
    have e1 : ctrO x (.cons y ky (.cons d kd .nil)) = putO d kd y ky := by simp [ctrO, hx]
    rw [e1] at h
    exact putO_len hd h
  | add y z hx hk' hy hz hyn hzn hs =>
    subst hk'
    have e1 : ctrO x (.cons y .nil (.cons z .nil .nil)) = some (⟨2, y.n + z.n⟩, .nil) := by simp [ctrO, hx]
    rw [e1] at h
    simp only [Option.some.injEq] at h
    subst h
    simp [F.flat]
  | iff y z u kz ku hx hk' hy hz hu =>
    subst hk'
    have e1 : ctrO x (.cons y .nil (.cons z kz (.cons u ku .nil))) = some (if y.n = 0 then (z, kz) else (u, ku)) := by simp [ctrO, hx]
    rw [e1] at h
    simp only [Option.some.injEq] at h
    subst h
    simp [F.flat] at hl
    split <;> simp <;> omega

set_option maxRecDepth 20000 in
set_option maxHeartbeats 2000000 in
theorem contractedAt_any (b o c : Nat) (l : List Cc) (at_ : Nat) (r : Option (List Cc)) (w : World) (hp : Place l at_ r) (hl : l.length ≤ 600) (hc : l.length ≤ c) (h : CRowAt w b o l) :
    Calls Try.prog 43 #[.slice (some ⟨b, o, none⟩) l.length c, .int .i64 (at_ : Int)] w fun e w' => RS w r e w' := by
  obtain ⟨pre, y, ky, post, h1, h2, hk, hr, h5⟩ := hp
  have hlen : l.length = at_ + (ky.flat.length + 1) + post.length := by rw [h1, ← h2]; simp; omega
  rw [h1] at h
  have hd : CRowAt w b (o + at_ * 2) ((y :: ky.flat) ++ post) := by have := h.back; rw [h2] at this; simpa using this
  have hcut := cutAhead_any b (o + at_ * 2) (c - at_) ((y :: ky.flat) ++ post) (ky.flat.length + 1) w (by simp; omega) (by simp; omega) (sz_one hk _) (by simp) hd
  have hcl : ((y :: ky.flat) ++ post).length = l.length - at_ := by simp; omega
  rw [hcl] at hcut
  have hpl : l.length - at_ - (ky.flat.length + 1) = post.length := by omega
  rw [hpl] at hcut
  have HC := hide hcut
  have HK := hide (fun (w' : World) (hb : Below w.heap.size w w') => contracted_any b (o + at_ * 2) (c - at_) y ky w' hk hr (ky.flat.length + 1) rfl (by omega) (by omega) (hd.front.below hb))
  have HPre := hide h.front
  have HD := hide hd
  obtain ⟨L, hL⟩ : ∃ L, L = l.length := ⟨_, rfl⟩
  rw [← hL] at HC hlen hl hc ⊢
  have ha0 : (0 : Int) ≤ (at_ : Int) := by omega
  have haL : (at_ : Int) ≤ (L : Int) := by omega
  have haL2 : (at_ : Int) < (L : Int) := by omega
  have hLc : (L : Int) ≤ (c : Int) := by omega
  have hac : (at_ : Int) ≤ (c : Int) := by omega
  have hcn : ¬ c = at_ := by omega
  have HL := hide hlen
  have HLen := fun p (hp : ctrO y ky = some p) => ctrO_len hk hr (by omega) hp
  have HCL := hide HLen
  obtain ⟨N, hN⟩ : ∃ N, N = ky.flat.length + 1 := ⟨_, rfl⟩
  rw [← hN] at HC HK HL
  have HN := hide hN
  clear h1 h hd hcut hcl hpl hL hlen HLen hN
  go_enter Try.func43, Try.ntmps43
  go_wp2_with fail
  refine Calls.mono HC.out ?_
  rintro e w1 ⟨q, rfl, hq, hb1⟩
  have HQ := hide hq
  clear hq HC
  go_wp2_with fail
  refine Calls.mono (HK.out _ hb1) ?_
  rintro e w2 ⟨s2, rfl, ho2, hb2⟩
  have hB2 : Below w.heap.size w w2 := hb1.trans (hb2.mono hb1.size)
  obtain ⟨ad2, c2, rfl⟩ := iOwn_form ho2
  clear HK
  cases hco : ctrO y ky with
  | none =>
    rw [hco] at h5
    obtain rfl : r = none := h5
    clear ho2 hb2
    simp only [Option.map_none, Option.isSome_none]
    go_wp2_with fail
    exact bodyPost_ret (v := .tuple #[.slice none 0 0, .bool false]) (by simp [results, Try.results43, go_sem]) rfl ⟨_, rfl, World.ownsRow_nil _ _ _ _, hB2⟩
  | some p =>
    rw [hco] at h5 ho2
    have hM := HCL.out p hco
    obtain ⟨cs, hcs⟩ : ∃ cs, cs = p.1 :: p.2.flat := ⟨_, rfl⟩
    have h6 : r = some (pre ++ cs ++ post) := by rw [h5, hcs]; simp
    have ho2' : w2.ownsRow w1.heap.size 62 2 (.slice ad2 cs.length c2) cs.length (cv cs) := by rw [hcs]; exact ho2
    have hcl : cs.length ≤ 600 := by rw [hcs]; simpa using hM
    have hc0 : 0 < cs.length := by rw [hcs]; simp
    have e0 : (Option.map (fun p : Cc × F => p.1 :: p.2.flat) (some p)) = some cs := by rw [hcs]; rfl
    rw [e0]
    simp only [Option.getD_some, Option.isSome_some]
    have hO := ho2'
    obtain ⟨ad', c', he, hcc, hrow⟩ := cOwn_row ho2'
    obtain ⟨g, cap, hgs, -, hg⟩ := tOwn_some ho2' hc0
    simp only [Value.slice.injEq] at he hgs
    obtain ⟨rfl, -, rfl⟩ := he
    obtain ⟨rfl, -, rfl⟩ := hgs
    have HRow := hide hrow
    obtain ⟨w3, hw3⟩ : ∃ w3, w3 = w2.alloc (.cells #[.slice (some ⟨b, o, none⟩) at_ c, .slice (some ⟨g, 0, none⟩) cs.length c2, .slice (some ⟨b, q, none⟩) post.length (c - at_ - N)] 23) := ⟨_, rfl⟩
    have hB23 : Below w2.heap.size w2 w3 := by rw [hw3]; exact (Below.refl _ _).alloc (Nat.le_refl _) _
    have hB3 : Below w.heap.size w w3 := hB2.trans (hB23.mono hB2.size)
    have hh3 : w3.heap[w2.heap.size]? = some (.cells #[.slice (some ⟨b, o, none⟩) at_ c, .slice (some ⟨g, 0, none⟩) cs.length c2, .slice (some ⟨b, q, none⟩) post.length (c - at_ - N)] 23) := by rw [hw3]; exact heap_alloc_new _ _
    have hq1 := (cell_of_blk hh3 0).trans rfl
    have hq2 := (cell_of_blk hh3 1).trans rfl
    have hq3 := (cell_of_blk hh3 2).trans rfl
    have hlt3 : w2.heap.size < w3.heap.size := (Array.getElem?_eq_some_iff.1 hh3).1
    have hpost : CRow w3 (some ⟨b, q, none⟩) post := by
      by_cases hp0 : post = []
      · exact .inl hp0
      · have hpl : 0 < post.length := List.length_pos_iff.2 hp0
        have hqq := HQ.out (by have := HL.out; omega)
        refine .inr ⟨b, q, rfl, ?_⟩
        have := (HD.out.below hB3).back
        rw [hqq, HN.out]
        simpa using this
    have hcat := concatC_any w2.heap.size b o c g 0 c2 b q (c - at_ - N) pre cs post w3 (by omega) (by have := HL.out; omega) hlt3 (by rw [h2]; exact hq1) hq2 hq3 (.inr ⟨b, o, rfl, HPre.out.below hB3⟩) (HRow.out.below hB23) hpost
    have HCat := hide hcat
    have hcl3 : (pre ++ cs ++ post).length ≤ 1048576 := by simp; have := HL.out; omega
    have hcl4 : pre.length + cs.length + post.length = (pre ++ cs ++ post).length := by simp; omega
    rw [hcl4] at HCat
    obtain ⟨Z, hZ⟩ : ∃ Z, Z = pre ++ cs ++ post := ⟨_, rfl⟩
    rw [← hZ] at HCat h6 hcl3
    obtain ⟨CN, hCN⟩ : ∃ CN, CN = cs.length := ⟨_, rfl⟩
    rw [← hCN] at hw3 ⊢
    clear hcat hpost hq1 hq2 hq3 hh3 hco h5 ho2 hO hM e0 hcs ho2' hcc hrow hcl4 HRow hCN hb2 HCL hZ
    go_wp2_with fail
    rw [← hw3]
    refine Calls.mono HCat.out ?_
    rintro e w4 ⟨v4, rfl, ho4, hb4⟩
    have hB4 : Below w.heap.size w w4 := hB3.trans (hb4.mono hB3.size)
    have HO4 := hide (iOwn_lower ho4 hB3.size)
    obtain ⟨rad, rc, rfl, hrc, hrow4⟩ := cOwn_row ho4
    have HGC := hide (implGoodT_any rad rc Z w4 hcl3 hrow4)
    obtain ⟨G, hG⟩ : ∃ G, G = goodT Z := ⟨_, rfl⟩
    rw [← hG] at HGC
    have HGe := hide hG
    obtain ⟨ZN, hZN⟩ : ∃ ZN, ZN = Z.length := ⟨_, rfl⟩
    rw [← hZN] at HGC HO4 ⊢
    have HZN := hide hZN
    clear hG hZN ho4 hrow4 hb4 hw3 HCat
    go_wp2_with fail
    refine Calls.mono HGC.out ?_
    rintro e w5 ⟨rfl, hb5⟩
    have hB5 : Below w.heap.size w w5 := hB4.trans (hb5.mono hB4.size)
    have HO5 := hide (tOwn_keep HO4.out (fun k _ hk => hb5.block k hk))
    clear HGC hb5 HO4
    subst h6
    cases G with
    | true =>
      go_wp2_with fail
      refine bodyPost_ret (v := .tuple #[.slice rad ZN rc, .bool true]) (by simp [results, Try.results43, go_sem]) rfl ⟨.slice rad ZN rc, ?_, ?_, hB5⟩
      · show _ = Ending.returned (.tuple #[_, .bool (goodT Z)]); rw [← HGe.out]
      · have : rL (some Z) = Z := by show gd Z = Z; unfold gd; rw [if_pos HGe.out.symm]
        rw [this, ← HZN.out]; exact HO5.out
    | false =>
      go_wp2_with fail
      refine bodyPost_ret (v := .tuple #[.slice none 0 0, .bool false]) (by simp [results, Try.results43, go_sem]) rfl ⟨.slice none 0 0, ?_, ?_, hB5⟩
      · show _ = Ending.returned (.tuple #[_, .bool (goodT Z)]); rw [← HGe.out]
      · have : rL (some Z) = [] := by show gd Z = []; unfold gd; rw [if_neg (by rw [← HGe.out]; simp)]
        rw [this]; exact World.ownsRow_nil _ _ _ _
end Go.Proofs.Ytjmgnljjeogdlaa.W

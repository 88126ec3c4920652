/-
  A term in the place of a kid: a contract of l4With. Conditions: good terms.
-/
import Derived.Test.YtbimfnnbfbfdoabTeKs
namespace Go.Proofs.Ytbimfnnbfbfdoab.W
open Go.ChangeShapes Go.WideShapes Go.ChangeAt Go.RowKit
set_option linter.unusedVariables false

theorem KidsAt.one {w : World} {P : Nat → Prop} : ∀ {a : F} {cs : List Value}, KidsAt w P a cs → ∀ u ∈ cs, u.oneCell' = true
  | .nil, _, h => by rw [show _ = [] from h]; simp
  | .cons x k r, _, ⟨s, cr, e, h2, h3⟩ => by
    have i := KidsAt.one h3
    rw [e]
    intro u hu
    rcases List.mem_append.1 hu with hu | hu
    · exact tC_one x s (KidT.one (a := k) h2) u hu
    · exact i u hu

theorem own0 {W : World} {B E : Nat} (h : W.heap[E]? = some (.cells #[] 40 (0, 0))) (hE : B ≤ E) : W.ownsRow B 40 3 (.slice (some ⟨E, 0, none⟩) 0 0) 0 [] := ⟨rfl, .inr ⟨E, 0, #[], rfl, hE, h, Nat.le_refl _, by unfold maxLen; omega, rfl, rfl⟩⟩
theorem tOwn_set {w : World} {base n size g cap O : Nat} {e : TypeId} {xs : List Value} (h : w.ownsRow base e size (.slice (some ⟨g, 0, none⟩) n cap) n xs) (hg : g ≠ O) (i : Nat) (v : Value) : (w.setCell ⟨O, i, none⟩ v).ownsRow base e size (.slice (some ⟨g, 0, none⟩) n cap) n xs := by
  refine ⟨h.1, ?_⟩
  rcases h.2 with ⟨h0, -⟩ | ⟨g', cap', cur, hv, hb, hh, rest⟩
  · cases h0
  · have hv' := hv
    simp only [Value.slice.injEq, Option.some.injEq, Addr.mk.injEq] at hv'
    obtain ⟨⟨rfl, -, -⟩, -, rfl⟩ := hv'
    exact .inr ⟨g, cap, cur, rfl, hb, by rw [Below.heap_setCell _ _ _ _ hg]; exact hh, rest⟩
theorem at_le {A E g H : Nat} (h : some E = some g ∨ g = H) (h1 : A ≤ E) (h2 : A ≤ H) : A ≤ g := by
  rcases h with h | h
  · simp only [Option.some.injEq] at h; omega
  · omega
theorem at_ne {E g H O : Nat} (h : some E = some g ∨ g = H) (h1 : E ≠ O) (h2 : H ≠ O) : g ≠ O := by
  rcases h with h | h
  · simp only [Option.some.injEq] at h; omega
  · omega
/-- Three cells of a row put anew. -/
theorem row_put {cur : Array Value} {ca cr : List Value} {u0 u1 u2 v0 v1 v2 : Value} {N : Nat} (h : cur.toList.take N = ca ++ ([u0, u1, u2] ++ cr)) (hs : N ≤ cur.size) :
    ∀ (j : Nat) (v : Value), (ca ++ ([v0, v1, v2] ++ cr))[j]? = some v → (((cur.setIfInBounds ca.length v0).setIfInBounds (ca.length + 1) v1).setIfInBounds (ca.length + 2) v2)[j]? = some v := by
  have hN : N = ca.length + (3 + cr.length) := by
    have := congrArg List.length h
    rw [List.length_take] at this
    simp at this
    omega
  have hc : ∀ j : Nat, j < N → cur[j]? = (ca ++ ([u0, u1, u2] ++ cr))[j]? := fun j hj => by rw [← h, List.getElem?_take_of_lt hj]; simp
  intro j v hv
  have hj : j < N := by have := (List.getElem?_eq_some_iff.1 hv).1; simp at this; omega
  simp only [Array.getElem?_setIfInBounds, Array.size_setIfInBounds]
  by_cases h2 : ca.length + 2 = j
  · subst h2
    rw [if_pos rfl, if_pos (by omega), ← hv, List.getElem?_append_right (by omega)]
    simp
  · rw [if_neg h2]
    by_cases h1 : ca.length + 1 = j
    · subst h1
      rw [if_pos rfl, if_pos (by omega), ← hv, List.getElem?_append_right (by omega)]
      simp
    · rw [if_neg h1]
      by_cases h0 : ca.length = j
      · subst h0
        rw [if_pos rfl, if_pos (by omega), ← hv, List.getElem?_append_right (by omega)]
        simp
      · rw [if_neg h0, hc j hj, ← hv]
        by_cases hlt : j < ca.length
        · rw [List.getElem?_append_left hlt, List.getElem?_append_left hlt]
        · have he : ∀ q0 q1 q2 : Value, (ca ++ ([q0, q1, q2] ++ cr))[j]? = cr[j - ca.length - 3]? := fun q0 q1 q2 => by
            rw [List.getElem?_append_right (by omega), List.getElem?_append_right (by show 3 ≤ j - ca.length; omega)]
            rfl
          rw [he, he]
theorem blk_new1 (w0 : World) (o1 o2 : Obj) : ((w0.alloc o1).alloc o2).drew.heap[w0.heap.size + 1]? = some o2 := by
  have := heap_alloc_new (w0.alloc o1) o2
  rw [World.size_alloc] at this
  exact this
theorem blk_old1 (w0 : World) (o1 o2 : Obj) : ((w0.alloc o1).alloc o2).drew.heap[w0.heap.size]? = some o1 := (heap_alloc_old (w0.alloc o1) o2 (by simp)).trans (heap_alloc_new w0 o1)
theorem news0 {w W : World} {g : Nat} {ck : List Value} (hg : g < w.heap.size) (h : ∀ j v, ck[j]? = some v → w.cell? ⟨g, j, none⟩ = some v) (hb : Below w.heap.size w W) : ∀ j u, ck[j]? = some u → W.cell? ((⟨g, 0, none⟩ : Addr).add j) = some u := fun j u hu => by
  rw [iAdd, Nat.zero_add]
  exact (hb.cell (p := ⟨g, j, none⟩) hg).trans (h j u hu)

set_option maxRecDepth 20000 in
set_option maxHeartbeats 2000000 in
theorem l4With_any (x y z : Cc) (a ky r kz : F) (s sz : Value) (P Q : Nat → Prop) (w : World) (hn : (a.app (.cons y ky r)).len ≤ 3) (hT : KidT w P (a.app (.cons y ky r)) s) (hZ : KidT w Q kz sz) :
    Calls Try.prog 64 #[.agg #[.int .i64 x.k, .int .i64 x.n, s], .int .i64 (a.len : Int), .agg #[.int .i64 z.k, .int .i64 z.n, sz]] w fun e w' => ∃ s', e = .returned (.agg #[.int .i64 x.k, .int .i64 x.n, s']) ∧ KidT w' (fun g => (P g ∨ Q g) ∨ w.heap.size ≤ g) (a.app (.cons z kz r)) s' ∧ Below w.heap.size w w' := by
  obtain ⟨ck, hk, hH⟩ := hT
  obtain ⟨g, cap, rfl, hPg, hg, hcs⟩ : ∃ g cap, s = .slice (some ⟨g, 0, none⟩) (a.app (.cons y ky r)).len cap ∧ P g ∧ g < w.heap.size ∧ ∀ j v, ck[j]? = some v → w.cell? ⟨g, j, none⟩ = some v := by
    rcases hH with ⟨h0, -⟩ | ⟨-, g, cap, h1, h2, h3, h4⟩
    · rw [F.app_len] at h0; simp [F.len] at h0
    · exact ⟨g, cap, h1, h2, h3, h4⟩
  obtain ⟨zad, zc, rfl⟩ := hZ.form
  obtain ⟨i0, hi0, hz0, hz1, hz2⟩ := infoPartsT infoT
  have Hi := hide hi0
  have HZ := hide hZ
  have HK := hide hk
  have HCs := hide hcs
  have hckl := hk.len
  have hone := hk.one
  have hal : a.len < (a.app (.cons y ky r)).len := by rw [F.app_len]; simp [F.len]
  obtain ⟨n, hnn⟩ : ∃ n, n = (a.app (.cons y ky r)).len := ⟨_, rfl⟩
  obtain ⟨ZN, hZN⟩ : ∃ ZN, ZN = kz.len := ⟨_, rfl⟩
  obtain ⟨AL, hAL⟩ : ∃ AL, AL = a.len := ⟨_, rfl⟩
  rw [← hnn] at hn hckl hal ⊢
  rw [← hZN] at HZ ⊢
  rw [← hAL] at hal ⊢
  have HNn := hide hnn
  have HAL := hide hAL
  have HOne := hide hone
  have HLen := hide hckl
  have hal' : (AL : Int) < (n : Int) := by omega
  have ha0 : (0 : Int) ≤ (AL : Int) := by omega
  clear hi0 hZ hk hH hcs hone hckl hnn hZN hAL
  go_enter Try.func64, Try.ntmps64
  go_wp2_with fail
  obtain ⟨w0, hw0⟩ : ∃ w0, w0 = ((w.alloc (.cells #[.int .i64 x.k, .int .i64 x.n, .slice (some ⟨g, 0, none⟩) n cap] 40)).alloc (.cells #[.int .i64 z.k, .int .i64 z.n, .slice zad ZN zc] 40)).alloc (.cells #[.int .i64 0, .int .i64 0, .slice none 0 0] 40) := ⟨_, rfl⟩
  have hB0 : Below w.heap.size w w0 := by rw [hw0]; exact (((Below.refl _ _).alloc (Nat.le_refl _) _).alloc (by simp) _).alloc (by simp; omega) _
  have hbT : w0.heap[w.heap.size]? = some (.cells #[.int .i64 x.k, .int .i64 x.n, .slice (some ⟨g, 0, none⟩) n cap] 40) := by rw [hw0, heap_alloc_old _ _ (by simp; omega), heap_alloc_old _ _ (by simp)]; exact heap_alloc_new _ _
  have hbZ : w0.heap[w.heap.size + 1]? = some (.cells #[.int .i64 z.k, .int .i64 z.n, .slice zad ZN zc] 40) := by rw [hw0, heap_alloc_old _ _ (by simp)]; have := heap_alloc_new (w.alloc (.cells #[.int .i64 x.k, .int .i64 x.n, .slice (some ⟨g, 0, none⟩) n cap] 40)) (.cells #[.int .i64 z.k, .int .i64 z.n, .slice zad ZN zc] 40); simpa using this
  have hbR : w0.heap[w.heap.size + 1 + 1]? = some (.cells #[.int .i64 0, .int .i64 0, .slice none 0 0] 40) := by rw [hw0]; have := heap_alloc_new ((w.alloc (.cells #[.int .i64 x.k, .int .i64 x.n, .slice (some ⟨g, 0, none⟩) n cap] 40)).alloc (.cells #[.int .i64 z.k, .int .i64 z.n, .slice zad ZN zc] 40)) (.cells #[.int .i64 0, .int .i64 0, .slice none 0 0] 40); simpa using this
  have hsz0 : w0.heap.size = w.heap.size + 1 + 1 + 1 := by rw [hw0]; simp
  rw [← hw0]
  have e0 : w0.cell? ⟨w.heap.size, 0, none⟩ = some (.int .i64 x.k) := (cell_of_blk hbT 0).trans rfl
  have e1 : w0.cell? ⟨w.heap.size, 1, none⟩ = some (.int .i64 x.n) := (cell_of_blk hbT 1).trans rfl
  have e2 : w0.cell? ⟨w.heap.size, 2, none⟩ = some (.slice (some ⟨g, 0, none⟩) n cap) := (cell_of_blk hbT 2).trans rfl
  have HB0 := hide hB0
  have HbT := hide hbT
  have HbZ := hide hbZ
  have HbR := hide hbR
  have HSz0 := hide hsz0
  have hszl : w.heap.size + 1 + 1 < w0.heap.size := by omega
  have hn1 : ¬ w0.heap.size = w.heap.size := by omega
  have hn2 : ¬ w0.heap.size + 1 = w.heap.size := by omega
  clear hw0 hB0 hbT hbZ hbR hsz0
  go_region_held3 (fun w' => w'.cell? ⟨w.heap.size, 0, none⟩ = some (.int .i64 x.k) ∧ w'.cell? ⟨w.heap.size, 1, none⟩ = some (.int .i64 x.n) ∧ w'.cell? ⟨w.heap.size, 2, none⟩ = some (.slice (some ⟨g, 0, none⟩) n cap)) (go_keep)
    (first
      | (refine step_append_lies _ rfl _ _ 38 rfl w.heap.size 40 i0 (.agg #[.int .i64 0, .int .i64 0, .slice none 0 0]) 3 40 Try.underlying38 Hi.out hz0 hz1 hz2 rfl (by decide) _ 0 [] rfl (own0 (by first | exact heap_alloc_new w0 _ | exact blk_old1 w0 _ _ | exact blk_new1 w0 _ _) (by first | omega | (simp; omega))) ⟨g, 0, none⟩ n cap ck rfl HLen.out (news0 hg HCs.out (by first | exact belowDrew (HB0.out.alloc HB0.out.size _) | exact belowDrew ((HB0.out.alloc HB0.out.size _).alloc (by have := HB0.out.size; simp; omega) _))) HOne.out (by omega) (by unfold maxLen; omega) (by omega) (by first | (show w.heap.size ≤ (w0.alloc _).heap.size; simp; omega) | (show w.heap.size ≤ ((w0.alloc _).alloc _).heap.size; simp; omega)) _ rfl ?_; intro g6 cap6 w6 hown6 hgrow6 hat6 hlt6; (first | change World.grownBy _ _ (some w0.heap.size) at hgrow6 | change World.grownBy _ _ (some (w0.heap.size + 1)) at hgrow6); (first | change some w0.heap.size = some g6 ∨ _ at hat6 | change some (w0.heap.size + 1) = some g6 ∨ _ at hat6); have hg6 : w0.heap.size ≤ g6 := at_le hat6 (by first | exact Nat.le_refl _ | exact Nat.le_succ _) (by first | (show w0.heap.size ≤ (w0.alloc _).heap.size; simp) | (show w0.heap.size ≤ ((w0.alloc _).alloc _).heap.size; simp; omega)); have HO6 := hide hown6; have HG6 := hide hgrow6; have hB6 : Below w0.heap.size w0 w6 := Below.grown (by first | exact belowDrew ((Below.refl _ w0).alloc (Nat.le_refl _) _) | exact belowDrew (((Below.refl _ w0).alloc (Nat.le_refl _) _).alloc (by simp) _)) hgrow6 (by first | (show w0.heap.size ≤ (w0.alloc _).heap.size; simp) | (show w0.heap.size ≤ ((w0.alloc _).alloc _).heap.size; simp; omega)) (fun k hk => by cases hk; first | exact Nat.le_refl _ | (simp)); have HB6 := hide hB6; have f0 := (hB6.cell (p := ⟨w.heap.size, 0, none⟩) (show w.heap.size < w0.heap.size by omega)).trans e0; have f1 := (hB6.cell (p := ⟨w.heap.size, 1, none⟩) (show w.heap.size < w0.heap.size by omega)).trans e1; have f2 := (hB6.cell (p := ⟨w.heap.size, 2, none⟩) (show w.heap.size < w0.heap.size by omega)).trans e2; have hsz6 : w0.heap.size ≤ w6.heap.size := hB6.size; have hn3 : ¬ w6.heap.size = w.heap.size := (by omega); (try (have hO6 : w6.heap[w0.heap.size]? = some (.cells #[.int .i64 0, .int .i64 0, .slice none 0 0] 40) := (hgrow6.block _ (by show w0.heap.size < ((w0.alloc _).alloc _).heap.size; simp; omega) (by simp)).trans (blk_old1 w0 _ _); have hgO : g6 ≠ w0.heap.size := at_ne hat6 (by omega) (by show ((w0.alloc _).alloc _).heap.size ≠ _; simp; omega); have y0 : w6.cell? ⟨w0.heap.size, 0, none⟩ = some (.int .i64 0) := (cell_of_blk hO6 0).trans rfl; have y1 : w6.cell? ⟨w0.heap.size, 1, none⟩ = some (.int .i64 0) := (cell_of_blk hO6 1).trans rfl; have y2 : w6.cell? ⟨w0.heap.size, 2, none⟩ = some (.slice none 0 0) := (cell_of_blk hO6 2).trans rfl; have fy := unfrozen_of_blk hO6; have HY6 := hide hO6; clear hO6)); (try (have hO6 : w6.heap[w0.heap.size + 1]? = some (.cells #[.int .i64 0, .int .i64 0, .slice none 0 0] 40) := (hgrow6.block _ (by show w0.heap.size + 1 < ((w0.alloc _).alloc _).heap.size; simp) (by simp)).trans (blk_new1 w0 _ _); have hgO : g6 ≠ w0.heap.size + 1 := at_ne hat6 (by omega) (by show ((w0.alloc _).alloc _).heap.size ≠ _; simp); have y0 : w6.cell? ⟨w0.heap.size + 1, 0, none⟩ = some (.int .i64 0) := (cell_of_blk hO6 0).trans rfl; have y1 : w6.cell? ⟨w0.heap.size + 1, 1, none⟩ = some (.int .i64 0) := (cell_of_blk hO6 1).trans rfl; have y2 : w6.cell? ⟨w0.heap.size + 1, 2, none⟩ = some (.slice none 0 0) := (cell_of_blk hO6 2).trans rfl; have fy := unfrozen_of_blk hO6; have HY6 := hide hO6; clear hO6)); clear hown6 hgrow6 hat6 hB6))
  · obtain ⟨W7, hW7⟩ : ∃ W7, W7 = w6.alloc (.cells #[.int .i64 x.k, .int .i64 x.n, .slice (some ⟨g6, 0, none⟩) n cap6] 40) := ⟨_, rfl⟩
    rw [← hW7]
    have hO7 : W7.heap[w6.heap.size]? = some (.cells #[.int .i64 x.k, .int .i64 x.n, .slice (some ⟨g6, 0, none⟩) n cap6] 40 (0, 0)) := by rw [hW7]; exact heap_alloc_new w6 _
    have hB7 : Below w0.heap.size w0 W7 := by rw [hW7]; exact HB6.out.alloc HB6.out.size _
    have hOw7 : W7.ownsRow w.heap.size 40 3 (.slice (some ⟨g6, 0, none⟩) n cap6) n ck := by rw [hW7]; exact World.ownsRow.alloc (by have h := HO6.out; rw [Nat.zero_add, List.nil_append] at h; exact h) _
    have hne : g6 ≠ w6.heap.size := by omega
    obtain ⟨O, hO⟩ : ∃ O, O = w6.heap.size := ⟨_, rfl⟩
    rw [← hO] at hO7 hne ⊢
    have hOge : w0.heap.size ≤ O := by omega
    clear hW7 hO
    have r0 := (hB7.block (w.heap.size + 1) (by omega)).trans HbZ.out
    have r1 := (hB7.block (w.heap.size + 1 + 1) (by omega)).trans HbR.out
    have d0 : W7.cell? ⟨O, 0, none⟩ = some (.int .i64 x.k) := (cell_of_blk hO7 0).trans rfl
    have d1 : W7.cell? ⟨O, 1, none⟩ = some (.int .i64 x.n) := (cell_of_blk hO7 1).trans rfl
    have d2 : W7.cell? ⟨O, 2, none⟩ = some (.slice (some ⟨g6, 0, none⟩) n cap6) := (cell_of_blk hO7 2).trans rfl
    have c0 : W7.cell? ⟨w.heap.size + 1, 0, none⟩ = some (.int .i64 z.k) := (cell_of_blk r0 0).trans rfl
    have c1 : W7.cell? ⟨w.heap.size + 1, 1, none⟩ = some (.int .i64 z.n) := (cell_of_blk r0 1).trans rfl
    have c2 : W7.cell? ⟨w.heap.size + 1, 2, none⟩ = some (.slice zad ZN zc) := (cell_of_blk r0 2).trans rfl
    obtain ⟨cur, hcur, hcs, hct⟩ : ∃ cur : Array Value, W7.heap[g6]? = some (.cells cur 40 (0, 0)) ∧ n * 3 ≤ cur.size ∧ cur.toList.take (n * 3) = ck := by
      rcases hOw7.2 with ⟨h, -⟩ | ⟨g', cap', cur, hv, -, hh, h1, -, h3, h4⟩
      · cases h
      · simp only [Value.slice.injEq, Option.some.injEq, Addr.mk.injEq] at hv
        obtain ⟨⟨rfl, -, -⟩, -, rfl⟩ := hv
        exact ⟨cur, hh, by rw [h3]; exact Nat.mul_le_mul_right _ h1, h4⟩
    have fz : ∀ i, W7.frozen? ⟨g6, i, none⟩ = false := fun i => unfrozen_of_blk hcur i
    have ce : ∀ i, i < 3 → ∃ v, W7.cell? ⟨g6, AL * 3 + i, none⟩ = some v := fun i hi => by rw [cell_of_blk hcur, Array.getElem?_eq_getElem (by omega)]; exact ⟨_, rfl⟩
    obtain ⟨v0, hv0⟩ := ce 0 (by omega)
    obtain ⟨v1, hv1⟩ := ce 1 (by omega)
    obtain ⟨v2, hv2⟩ := ce 2 (by omega)
    rw [Nat.add_zero] at hv0
    have s0 : W7.cell? ⟨w.heap.size + 1 + 1, 0, none⟩ = some (.int .i64 0) := (cell_of_blk r1 0).trans rfl
    have s1 : W7.cell? ⟨w.heap.size + 1 + 1, 1, none⟩ = some (.int .i64 0) := (cell_of_blk r1 1).trans rfl
    have s2 : W7.cell? ⟨w.heap.size + 1 + 1, 2, none⟩ = some (.slice none 0 0) := (cell_of_blk r1 2).trans rfl
    have fr : ∀ i, W7.frozen? ⟨w.heap.size + 1 + 1, i, none⟩ = false := fun i => unfrozen_of_blk r1 i
    have HCur := hide hcur
    have HR1 := hide r1
    have HO7 := hide hO7
    have HB7 := hide hB7
    have m1 : ¬ g6 = w.heap.size + 1 := by omega
    have m2 : ¬ g6 = w.heap.size := by omega
    have m3 : ¬ g6 = w.heap.size + 1 + 1 := by omega
    have m4 : ¬ O = w.heap.size + 1 + 1 := by omega
    have m5 : ¬ g6 = O := hne
    clear e0 e1 e2 f0 f1 f2 ce hcur r0 r1 hO7 hB7 hOw7
    go_wp2_with fail
    obtain ⟨W8, hW8⟩ : ∃ W8, W8 = ((W7.setCell ⟨g6, AL * 3, none⟩ (.int .i64 z.k)).setCell ⟨g6, AL * 3 + 1, none⟩ (.int .i64 z.n)).setCell ⟨g6, AL * 3 + 2, none⟩ (.slice zad ZN zc) := ⟨_, rfl⟩
    rw [← hW8]
    have hB8 : Below w.heap.size w W8 := by
      rw [hW8]
      exact (((HB0.out.trans (HB7.out.mono HB0.out.size)).setCell (p := ⟨g6, AL * 3, none⟩) (by show w.heap.size ≤ g6; omega) _).setCell (p := ⟨g6, AL * 3 + 1, none⟩) (by show w.heap.size ≤ g6; omega) _).setCell (p := ⟨g6, AL * 3 + 2, none⟩) (by show w.heap.size ≤ g6; omega) _
    have hc8 : W8.heap[g6]? = some (.cells (((cur.setIfInBounds (AL * 3) (.int .i64 z.k)).setIfInBounds (AL * 3 + 1) (.int .i64 z.n)).setIfInBounds (AL * 3 + 2) (.slice zad ZN zc)) 40 (0, 0)) := by rw [hW8]; exact blk_setCell (blk_setCell (blk_setCell HCur.out _) _) _
    have hr8 : W8.heap[w.heap.size + 1 + 1]? = some (.cells #[.int .i64 0, .int .i64 0, .slice none 0 0] 40 (0, 0)) := by rw [hW8, Below.heap_setCell _ _ _ _ (Ne.symm m3), Below.heap_setCell _ _ _ _ (Ne.symm m3), Below.heap_setCell _ _ _ _ (Ne.symm m3)]; exact HR1.out
    have hr9 := blk_setCell (i := 2) (blk_setCell (i := 1) (blk_setCell (i := 0) hr8 (.int .i64 x.k)) (.int .i64 x.n)) (.slice (some ⟨g6, 0, none⟩) n cap6)
    have t0 := (cell_of_blk hr9 0).trans rfl
    have t1 := (cell_of_blk hr9 1).trans rfl
    have t2 := (cell_of_blk hr9 2).trans rfl
    have hB9 := ((hB8.setCell (p := ⟨w.heap.size + 1 + 1, 0, none⟩) (by show w.heap.size ≤ w.heap.size + 1 + 1; omega) (.int .i64 x.k)).setCell (p := ⟨w.heap.size + 1 + 1, 1, none⟩) (by show w.heap.size ≤ w.heap.size + 1 + 1; omega) (.int .i64 x.n)).setCell (p := ⟨w.heap.size + 1 + 1, 2, none⟩) (by show w.heap.size ≤ w.heap.size + 1 + 1; omega) (.slice (some ⟨g6, 0, none⟩) n cap6)
    refine bodyPost_ret (v := .agg #[.int .i64 x.k, .int .i64 x.n, .slice (some ⟨g6, 0, none⟩) n cap6]) (by simp [results, Try.results64, go_sem, t0, t1, t2]) rfl ⟨_, rfl, ?_, hB9⟩
    obtain ⟨ca, cb, k1', ha, sy, cr, k2', hy, hr⟩ := HK.out.split
    have hcal : ca.length = AL * 3 := by rw [ha.len, HAL.out]
    have hlen : (a.app (.cons z kz r)).len = n := by rw [HNn.out, F.app_len, F.app_len]; rfl
    have hkeep : ∀ k, P k → k < w.heap.size → _ := fun k hp hk => (⟨hB9.block k hk, .inl (.inl hp)⟩ : _ ∧ ((P k ∨ Q k) ∨ w.heap.size ≤ k))
    refine ⟨ca ++ (tC z (.slice zad ZN zc) ++ cr), KidsAt.app (ha.keep hB9.size hkeep) ⟨.slice zad ZN zc, cr, rfl, HZ.out.keep hB9.size (fun k hp hk => ⟨hB9.block k hk, .inl (.inr hp)⟩), hr.keep hB9.size hkeep⟩, .inr ⟨by rw [hlen]; omega, g6, cap6, by rw [hlen], .inr (by omega), ?_, ?_⟩⟩
    · have := (Array.getElem?_eq_some_iff.1 hc8).1
      simpa [World.setCell] using this
    · intro j v hj
      have hput := row_put (cur := cur) (ca := ca) (cr := cr) (v0 := .int .i64 z.k) (v1 := .int .i64 z.n) (v2 := .slice zad ZN zc) (by rw [hct, k1', k2']; rfl) hcs j v hj
      rw [hcal] at hput
      have hc9 : ((((W8.setCell ⟨w.heap.size + 1 + 1, 0, none⟩ (.int .i64 x.k)).setCell ⟨w.heap.size + 1 + 1, 1, none⟩ (.int .i64 x.n)).setCell ⟨w.heap.size + 1 + 1, 2, none⟩ (.slice (some ⟨g6, 0, none⟩) n cap6))).heap[g6]? = some (.cells (((cur.setIfInBounds (AL * 3) (.int .i64 z.k)).setIfInBounds (AL * 3 + 1) (.int .i64 z.n)).setIfInBounds (AL * 3 + 2) (.slice zad ZN zc)) 40 (0, 0)) := by
        rw [Below.heap_setCell _ _ _ _ m3, Below.heap_setCell _ _ _ _ m3, Below.heap_setCell _ _ _ _ m3]; exact hc8
      rw [cell_of_blk hc9]
      exact hput
  · obtain ⟨W7, hW7⟩ : ∃ W7, W7 = (((w6.setCell ⟨w0.heap.size + 1, 0, none⟩ (.int .i64 x.k)).setCell ⟨w0.heap.size + 1, 1, none⟩ (.int .i64 x.n)).setCell ⟨w0.heap.size + 1, 2, none⟩ (.slice (some ⟨g6, 0, none⟩) n cap6)) := ⟨_, rfl⟩
    rw [← hW7]
    have hO7 : W7.heap[w0.heap.size + 1]? = some (.cells #[.int .i64 x.k, .int .i64 x.n, .slice (some ⟨g6, 0, none⟩) n cap6] 40 (0, 0)) := by rw [hW7]; exact blk_setCell (i := 2) (blk_setCell (i := 1) (blk_setCell (i := 0) HY6.out (.int .i64 x.k)) (.int .i64 x.n)) (.slice (some ⟨g6, 0, none⟩) n cap6)
    have hB7 : Below w0.heap.size w0 W7 := by rw [hW7]; exact ((HB6.out.setCell (p := ⟨w0.heap.size + 1, 0, none⟩) (by simp) _).setCell (p := ⟨w0.heap.size + 1, 1, none⟩) (by simp) _).setCell (p := ⟨w0.heap.size + 1, 2, none⟩) (by simp) _
    have hOw7 : W7.ownsRow w.heap.size 40 3 (.slice (some ⟨g6, 0, none⟩) n cap6) n ck := by rw [hW7]; exact tOwn_set (tOwn_set (tOwn_set (by have h := HO6.out; rw [Nat.zero_add, List.nil_append] at h; exact h) hgO _ _) hgO _ _) hgO _ _
    have hne : g6 ≠ w0.heap.size + 1 := hgO
    obtain ⟨O, hO⟩ : ∃ O, O = w0.heap.size + 1 := ⟨_, rfl⟩
    rw [← hO] at hO7 hne ⊢
    have hOge : w0.heap.size ≤ O := by omega
    clear hW7 hO
    have r0 := (hB7.block (w.heap.size + 1) (by omega)).trans HbZ.out
    have r1 := (hB7.block (w.heap.size + 1 + 1) (by omega)).trans HbR.out
    have d0 : W7.cell? ⟨O, 0, none⟩ = some (.int .i64 x.k) := (cell_of_blk hO7 0).trans rfl
    have d1 : W7.cell? ⟨O, 1, none⟩ = some (.int .i64 x.n) := (cell_of_blk hO7 1).trans rfl
    have d2 : W7.cell? ⟨O, 2, none⟩ = some (.slice (some ⟨g6, 0, none⟩) n cap6) := (cell_of_blk hO7 2).trans rfl
    have c0 : W7.cell? ⟨w.heap.size + 1, 0, none⟩ = some (.int .i64 z.k) := (cell_of_blk r0 0).trans rfl
    have c1 : W7.cell? ⟨w.heap.size + 1, 1, none⟩ = some (.int .i64 z.n) := (cell_of_blk r0 1).trans rfl
    have c2 : W7.cell? ⟨w.heap.size + 1, 2, none⟩ = some (.slice zad ZN zc) := (cell_of_blk r0 2).trans rfl
    obtain ⟨cur, hcur, hcs, hct⟩ : ∃ cur : Array Value, W7.heap[g6]? = some (.cells cur 40 (0, 0)) ∧ n * 3 ≤ cur.size ∧ cur.toList.take (n * 3) = ck := by
      rcases hOw7.2 with ⟨h, -⟩ | ⟨g', cap', cur, hv, -, hh, h1, -, h3, h4⟩
      · cases h
      · simp only [Value.slice.injEq, Option.some.injEq, Addr.mk.injEq] at hv
        obtain ⟨⟨rfl, -, -⟩, -, rfl⟩ := hv
        exact ⟨cur, hh, by rw [h3]; exact Nat.mul_le_mul_right _ h1, h4⟩
    have fz : ∀ i, W7.frozen? ⟨g6, i, none⟩ = false := fun i => unfrozen_of_blk hcur i
    have ce : ∀ i, i < 3 → ∃ v, W7.cell? ⟨g6, AL * 3 + i, none⟩ = some v := fun i hi => by rw [cell_of_blk hcur, Array.getElem?_eq_getElem (by omega)]; exact ⟨_, rfl⟩
    obtain ⟨v0, hv0⟩ := ce 0 (by omega)
    obtain ⟨v1, hv1⟩ := ce 1 (by omega)
    obtain ⟨v2, hv2⟩ := ce 2 (by omega)
    rw [Nat.add_zero] at hv0
    have s0 : W7.cell? ⟨w.heap.size + 1 + 1, 0, none⟩ = some (.int .i64 0) := (cell_of_blk r1 0).trans rfl
    have s1 : W7.cell? ⟨w.heap.size + 1 + 1, 1, none⟩ = some (.int .i64 0) := (cell_of_blk r1 1).trans rfl
    have s2 : W7.cell? ⟨w.heap.size + 1 + 1, 2, none⟩ = some (.slice none 0 0) := (cell_of_blk r1 2).trans rfl
    have fr : ∀ i, W7.frozen? ⟨w.heap.size + 1 + 1, i, none⟩ = false := fun i => unfrozen_of_blk r1 i
    have HCur := hide hcur
    have HR1 := hide r1
    have HO7 := hide hO7
    have HB7 := hide hB7
    have m1 : ¬ g6 = w.heap.size + 1 := by omega
    have m2 : ¬ g6 = w.heap.size := by omega
    have m3 : ¬ g6 = w.heap.size + 1 + 1 := by omega
    have m4 : ¬ O = w.heap.size + 1 + 1 := by omega
    have m5 : ¬ g6 = O := hne
    clear e0 e1 e2 f0 f1 f2 ce hcur r0 r1 hO7 hB7 hOw7
    go_wp2_with fail
    obtain ⟨W8, hW8⟩ : ∃ W8, W8 = ((W7.setCell ⟨g6, AL * 3, none⟩ (.int .i64 z.k)).setCell ⟨g6, AL * 3 + 1, none⟩ (.int .i64 z.n)).setCell ⟨g6, AL * 3 + 2, none⟩ (.slice zad ZN zc) := ⟨_, rfl⟩
    rw [← hW8]
    have hB8 : Below w.heap.size w W8 := by
      rw [hW8]
      exact (((HB0.out.trans (HB7.out.mono HB0.out.size)).setCell (p := ⟨g6, AL * 3, none⟩) (by show w.heap.size ≤ g6; omega) _).setCell (p := ⟨g6, AL * 3 + 1, none⟩) (by show w.heap.size ≤ g6; omega) _).setCell (p := ⟨g6, AL * 3 + 2, none⟩) (by show w.heap.size ≤ g6; omega) _
    have hc8 : W8.heap[g6]? = some (.cells (((cur.setIfInBounds (AL * 3) (.int .i64 z.k)).setIfInBounds (AL * 3 + 1) (.int .i64 z.n)).setIfInBounds (AL * 3 + 2) (.slice zad ZN zc)) 40 (0, 0)) := by rw [hW8]; exact blk_setCell (blk_setCell (blk_setCell HCur.out _) _) _
    have hr8 : W8.heap[w.heap.size + 1 + 1]? = some (.cells #[.int .i64 0, .int .i64 0, .slice none 0 0] 40 (0, 0)) := by rw [hW8, Below.heap_setCell _ _ _ _ (Ne.symm m3), Below.heap_setCell _ _ _ _ (Ne.symm m3), Below.heap_setCell _ _ _ _ (Ne.symm m3)]; exact HR1.out
    have hr9 := blk_setCell (i := 2) (blk_setCell (i := 1) (blk_setCell (i := 0) hr8 (.int .i64 x.k)) (.int .i64 x.n)) (.slice (some ⟨g6, 0, none⟩) n cap6)
    have t0 := (cell_of_blk hr9 0).trans rfl
    have t1 := (cell_of_blk hr9 1).trans rfl
    have t2 := (cell_of_blk hr9 2).trans rfl
    have hB9 := ((hB8.setCell (p := ⟨w.heap.size + 1 + 1, 0, none⟩) (by show w.heap.size ≤ w.heap.size + 1 + 1; omega) (.int .i64 x.k)).setCell (p := ⟨w.heap.size + 1 + 1, 1, none⟩) (by show w.heap.size ≤ w.heap.size + 1 + 1; omega) (.int .i64 x.n)).setCell (p := ⟨w.heap.size + 1 + 1, 2, none⟩) (by show w.heap.size ≤ w.heap.size + 1 + 1; omega) (.slice (some ⟨g6, 0, none⟩) n cap6)
    refine bodyPost_ret (v := .agg #[.int .i64 x.k, .int .i64 x.n, .slice (some ⟨g6, 0, none⟩) n cap6]) (by simp [results, Try.results64, go_sem, t0, t1, t2]) rfl ⟨_, rfl, ?_, hB9⟩
    obtain ⟨ca, cb, k1', ha, sy, cr, k2', hy, hr⟩ := HK.out.split
    have hcal : ca.length = AL * 3 := by rw [ha.len, HAL.out]
    have hlen : (a.app (.cons z kz r)).len = n := by rw [HNn.out, F.app_len, F.app_len]; rfl
    have hkeep : ∀ k, P k → k < w.heap.size → _ := fun k hp hk => (⟨hB9.block k hk, .inl (.inl hp)⟩ : _ ∧ ((P k ∨ Q k) ∨ w.heap.size ≤ k))
    refine ⟨ca ++ (tC z (.slice zad ZN zc) ++ cr), KidsAt.app (ha.keep hB9.size hkeep) ⟨.slice zad ZN zc, cr, rfl, HZ.out.keep hB9.size (fun k hp hk => ⟨hB9.block k hk, .inl (.inr hp)⟩), hr.keep hB9.size hkeep⟩, .inr ⟨by rw [hlen]; omega, g6, cap6, by rw [hlen], .inr (by omega), ?_, ?_⟩⟩
    · have := (Array.getElem?_eq_some_iff.1 hc8).1
      simpa [World.setCell] using this
    · intro j v hj
      have hput := row_put (cur := cur) (ca := ca) (cr := cr) (v0 := .int .i64 z.k) (v1 := .int .i64 z.n) (v2 := .slice zad ZN zc) (by rw [hct, k1', k2']; rfl) hcs j v hj
      rw [hcal] at hput
      have hc9 : ((((W8.setCell ⟨w.heap.size + 1 + 1, 0, none⟩ (.int .i64 x.k)).setCell ⟨w.heap.size + 1 + 1, 1, none⟩ (.int .i64 x.n)).setCell ⟨w.heap.size + 1 + 1, 2, none⟩ (.slice (some ⟨g6, 0, none⟩) n cap6))).heap[g6]? = some (.cells (((cur.setIfInBounds (AL * 3) (.int .i64 z.k)).setIfInBounds (AL * 3 + 1) (.int .i64 z.n)).setIfInBounds (AL * 3 + 2) (.slice zad ZN zc)) 40 (0, 0)) := by
        rw [Below.heap_setCell _ _ _ _ m3, Below.heap_setCell _ _ _ _ m3, Below.heap_setCell _ _ _ _ m3]; exact hc8
      rw [cell_of_blk hc9]
      exact hput
  · obtain ⟨W7, hW7⟩ : ∃ W7, W7 = (((w6.setCell ⟨w0.heap.size, 0, none⟩ (.int .i64 x.k)).setCell ⟨w0.heap.size, 1, none⟩ (.int .i64 x.n)).setCell ⟨w0.heap.size, 2, none⟩ (.slice (some ⟨g6, 0, none⟩) n cap6)) := ⟨_, rfl⟩
    rw [← hW7]
    have hO7 : W7.heap[w0.heap.size]? = some (.cells #[.int .i64 x.k, .int .i64 x.n, .slice (some ⟨g6, 0, none⟩) n cap6] 40 (0, 0)) := by rw [hW7]; exact blk_setCell (i := 2) (blk_setCell (i := 1) (blk_setCell (i := 0) HY6.out (.int .i64 x.k)) (.int .i64 x.n)) (.slice (some ⟨g6, 0, none⟩) n cap6)
    have hB7 : Below w0.heap.size w0 W7 := by rw [hW7]; exact ((HB6.out.setCell (p := ⟨w0.heap.size, 0, none⟩) (by simp) _).setCell (p := ⟨w0.heap.size, 1, none⟩) (by simp) _).setCell (p := ⟨w0.heap.size, 2, none⟩) (by simp) _
    have hOw7 : W7.ownsRow w.heap.size 40 3 (.slice (some ⟨g6, 0, none⟩) n cap6) n ck := by rw [hW7]; exact tOwn_set (tOwn_set (tOwn_set (by have h := HO6.out; rw [Nat.zero_add, List.nil_append] at h; exact h) hgO _ _) hgO _ _) hgO _ _
    have hne : g6 ≠ w0.heap.size := hgO
    obtain ⟨O, hO⟩ : ∃ O, O = w0.heap.size := ⟨_, rfl⟩
    rw [← hO] at hO7 hne ⊢
    have hOge : w0.heap.size ≤ O := by omega
    clear hW7 hO
    have r0 := (hB7.block (w.heap.size + 1) (by omega)).trans HbZ.out
    have r1 := (hB7.block (w.heap.size + 1 + 1) (by omega)).trans HbR.out
    have d0 : W7.cell? ⟨O, 0, none⟩ = some (.int .i64 x.k) := (cell_of_blk hO7 0).trans rfl
    have d1 : W7.cell? ⟨O, 1, none⟩ = some (.int .i64 x.n) := (cell_of_blk hO7 1).trans rfl
    have d2 : W7.cell? ⟨O, 2, none⟩ = some (.slice (some ⟨g6, 0, none⟩) n cap6) := (cell_of_blk hO7 2).trans rfl
    have c0 : W7.cell? ⟨w.heap.size + 1, 0, none⟩ = some (.int .i64 z.k) := (cell_of_blk r0 0).trans rfl
    have c1 : W7.cell? ⟨w.heap.size + 1, 1, none⟩ = some (.int .i64 z.n) := (cell_of_blk r0 1).trans rfl
    have c2 : W7.cell? ⟨w.heap.size + 1, 2, none⟩ = some (.slice zad ZN zc) := (cell_of_blk r0 2).trans rfl
    obtain ⟨cur, hcur, hcs, hct⟩ : ∃ cur : Array Value, W7.heap[g6]? = some (.cells cur 40 (0, 0)) ∧ n * 3 ≤ cur.size ∧ cur.toList.take (n * 3) = ck := by
      rcases hOw7.2 with ⟨h, -⟩ | ⟨g', cap', cur, hv, -, hh, h1, -, h3, h4⟩
      · cases h
      · simp only [Value.slice.injEq, Option.some.injEq, Addr.mk.injEq] at hv
        obtain ⟨⟨rfl, -, -⟩, -, rfl⟩ := hv
        exact ⟨cur, hh, by rw [h3]; exact Nat.mul_le_mul_right _ h1, h4⟩
    have fz : ∀ i, W7.frozen? ⟨g6, i, none⟩ = false := fun i => unfrozen_of_blk hcur i
    have ce : ∀ i, i < 3 → ∃ v, W7.cell? ⟨g6, AL * 3 + i, none⟩ = some v := fun i hi => by rw [cell_of_blk hcur, Array.getElem?_eq_getElem (by omega)]; exact ⟨_, rfl⟩
    obtain ⟨v0, hv0⟩ := ce 0 (by omega)
    obtain ⟨v1, hv1⟩ := ce 1 (by omega)
    obtain ⟨v2, hv2⟩ := ce 2 (by omega)
    rw [Nat.add_zero] at hv0
    have s0 : W7.cell? ⟨w.heap.size + 1 + 1, 0, none⟩ = some (.int .i64 0) := (cell_of_blk r1 0).trans rfl
    have s1 : W7.cell? ⟨w.heap.size + 1 + 1, 1, none⟩ = some (.int .i64 0) := (cell_of_blk r1 1).trans rfl
    have s2 : W7.cell? ⟨w.heap.size + 1 + 1, 2, none⟩ = some (.slice none 0 0) := (cell_of_blk r1 2).trans rfl
    have fr : ∀ i, W7.frozen? ⟨w.heap.size + 1 + 1, i, none⟩ = false := fun i => unfrozen_of_blk r1 i
    have HCur := hide hcur
    have HR1 := hide r1
    have HO7 := hide hO7
    have HB7 := hide hB7
    have m1 : ¬ g6 = w.heap.size + 1 := by omega
    have m2 : ¬ g6 = w.heap.size := by omega
    have m3 : ¬ g6 = w.heap.size + 1 + 1 := by omega
    have m4 : ¬ O = w.heap.size + 1 + 1 := by omega
    have m5 : ¬ g6 = O := hne
    clear e0 e1 e2 f0 f1 f2 ce hcur r0 r1 hO7 hB7 hOw7
    go_wp2_with fail
    obtain ⟨W8, hW8⟩ : ∃ W8, W8 = ((W7.setCell ⟨g6, AL * 3, none⟩ (.int .i64 z.k)).setCell ⟨g6, AL * 3 + 1, none⟩ (.int .i64 z.n)).setCell ⟨g6, AL * 3 + 2, none⟩ (.slice zad ZN zc) := ⟨_, rfl⟩
    rw [← hW8]
    have hB8 : Below w.heap.size w W8 := by
      rw [hW8]
      exact (((HB0.out.trans (HB7.out.mono HB0.out.size)).setCell (p := ⟨g6, AL * 3, none⟩) (by show w.heap.size ≤ g6; omega) _).setCell (p := ⟨g6, AL * 3 + 1, none⟩) (by show w.heap.size ≤ g6; omega) _).setCell (p := ⟨g6, AL * 3 + 2, none⟩) (by show w.heap.size ≤ g6; omega) _
    have hc8 : W8.heap[g6]? = some (.cells (((cur.setIfInBounds (AL * 3) (.int .i64 z.k)).setIfInBounds (AL * 3 + 1) (.int .i64 z.n)).setIfInBounds (AL * 3 + 2) (.slice zad ZN zc)) 40 (0, 0)) := by rw [hW8]; exact blk_setCell (blk_setCell (blk_setCell HCur.out _) _) _
    have hr8 : W8.heap[w.heap.size + 1 + 1]? = some (.cells #[.int .i64 0, .int .i64 0, .slice none 0 0] 40 (0, 0)) := by rw [hW8, Below.heap_setCell _ _ _ _ (Ne.symm m3), Below.heap_setCell _ _ _ _ (Ne.symm m3), Below.heap_setCell _ _ _ _ (Ne.symm m3)]; exact HR1.out
    have hr9 := blk_setCell (i := 2) (blk_setCell (i := 1) (blk_setCell (i := 0) hr8 (.int .i64 x.k)) (.int .i64 x.n)) (.slice (some ⟨g6, 0, none⟩) n cap6)
    have t0 := (cell_of_blk hr9 0).trans rfl
    have t1 := (cell_of_blk hr9 1).trans rfl
    have t2 := (cell_of_blk hr9 2).trans rfl
    have hB9 := ((hB8.setCell (p := ⟨w.heap.size + 1 + 1, 0, none⟩) (by show w.heap.size ≤ w.heap.size + 1 + 1; omega) (.int .i64 x.k)).setCell (p := ⟨w.heap.size + 1 + 1, 1, none⟩) (by show w.heap.size ≤ w.heap.size + 1 + 1; omega) (.int .i64 x.n)).setCell (p := ⟨w.heap.size + 1 + 1, 2, none⟩) (by show w.heap.size ≤ w.heap.size + 1 + 1; omega) (.slice (some ⟨g6, 0, none⟩) n cap6)
    refine bodyPost_ret (v := .agg #[.int .i64 x.k, .int .i64 x.n, .slice (some ⟨g6, 0, none⟩) n cap6]) (by simp [results, Try.results64, go_sem, t0, t1, t2]) rfl ⟨_, rfl, ?_, hB9⟩
    obtain ⟨ca, cb, k1', ha, sy, cr, k2', hy, hr⟩ := HK.out.split
    have hcal : ca.length = AL * 3 := by rw [ha.len, HAL.out]
    have hlen : (a.app (.cons z kz r)).len = n := by rw [HNn.out, F.app_len, F.app_len]; rfl
    have hkeep : ∀ k, P k → k < w.heap.size → _ := fun k hp hk => (⟨hB9.block k hk, .inl (.inl hp)⟩ : _ ∧ ((P k ∨ Q k) ∨ w.heap.size ≤ k))
    refine ⟨ca ++ (tC z (.slice zad ZN zc) ++ cr), KidsAt.app (ha.keep hB9.size hkeep) ⟨.slice zad ZN zc, cr, rfl, HZ.out.keep hB9.size (fun k hp hk => ⟨hB9.block k hk, .inl (.inr hp)⟩), hr.keep hB9.size hkeep⟩, .inr ⟨by rw [hlen]; omega, g6, cap6, by rw [hlen], .inr (by omega), ?_, ?_⟩⟩
    · have := (Array.getElem?_eq_some_iff.1 hc8).1
      simpa [World.setCell] using this
    · intro j v hj
      have hput := row_put (cur := cur) (ca := ca) (cr := cr) (v0 := .int .i64 z.k) (v1 := .int .i64 z.n) (v2 := .slice zad ZN zc) (by rw [hct, k1', k2']; rfl) hcs j v hj
      rw [hcal] at hput
      have hc9 : ((((W8.setCell ⟨w.heap.size + 1 + 1, 0, none⟩ (.int .i64 x.k)).setCell ⟨w.heap.size + 1 + 1, 1, none⟩ (.int .i64 x.n)).setCell ⟨w.heap.size + 1 + 1, 2, none⟩ (.slice (some ⟨g6, 0, none⟩) n cap6))).heap[g6]? = some (.cells (((cur.setIfInBounds (AL * 3) (.int .i64 z.k)).setIfInBounds (AL * 3 + 1) (.int .i64 z.n)).setIfInBounds (AL * 3 + 2) (.slice zad ZN zc)) 40 (0, 0)) := by
        rw [Below.heap_setCell _ _ _ _ m3, Below.heap_setCell _ _ _ _ m3, Below.heap_setCell _ _ _ _ m3]; exact hc8
      rw [cell_of_blk hc9]
      exact hput
end Go.Proofs.Ytbimfnnbfbfdoab.W
